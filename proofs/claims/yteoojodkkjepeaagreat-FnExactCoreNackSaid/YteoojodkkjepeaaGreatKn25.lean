/- CoreBase, CopyMsg. -/
import Derived.Test.YteoojodkkjepeaaGreatKn16
import Derived.Test.YteoojodkkjepeaaGreatKn21
import Derived.Test.YteoojodkkjepeaaGreatKn23
import Derived.Test.YteoojodkkjepeaaGreatKn24
import Derived.Test.YteoojodkkjepeaaGreatKn11
import Derived.Test.YteoojodkkjepeaaGreatKn02
import Derived.Test.YteoojodkkjepeaaGreatKn10
set_option maxRecDepth 100000
set_option maxHeartbeats 8000000
set_option linter.unusedVariables false
namespace Go.Proofs.YteoojodkkjepeaaGreat.cb
open ChangeShapes WideShapes ChangeAt RowKit rc rr ra rt ro fl co
structure Fit (es:List Ex)(bs:List Bi)(qs:List qu.E)(ts:List su.E):Prop where
 el:es.length <= 1048576
 bl:bs.length <= 1048576
 ql:qs.length <= 1048576
 tl:ts.length <= 1048576
 eb:∀ e∈es,e.n.size <= 1048576
 bb:∀ b∈bs,b.x.size <= 1048576/\b.k.size <= 1048576/\b.q.size <= 1048576
 qf:∀ e∈qs,qsp.Fit e.nm e.rs e.hs
 tf:∀ e∈ts,st.Fit e.nm e.rs e.hs
theorem fit {es:List Ex}{bs:List Bi}{qs:List qu.E}{ts:List su.E}(h:es.length+bulkE es+bs.length+bulkB bs+qs.length+bulk qu.wt qs+ts.length+bulk su.wt ts <= 1048576):Fit es bs qs ts:=by
 refine⟨by omega,by omega,by omega,by omega,fun e he=>?_,fun e he=>?_,fun e he=>?_,fun e he=>?_⟩
 ·have h1:e.n.size <= bulkE es:=bulkE_le he
  omega
 ·have h1:e.x.size+e.k.size+e.q.size <= bulkB bs:=bulkB_le he
  omega
 ·have h1:e.nm.size+e.rs.length+bulk flM.wt e.rs+e.hs.length+bulk flH.wt e.hs <= bulk qu.wt qs:=bulk_le qu.wt he
  refine⟨by omega,by omega,by omega,fun m hm=>?_,fun m hm=>?_⟩
  ·have h2:m.x.size+m.k.size+m.b.size <= bulk flM.wt e.rs:=bulk_le flM.wt hm
   omega
  ·have h2:m.m.x.size+m.m.k.size+m.m.b.size <= bulk flH.wt e.hs:=bulk_le flH.wt hm
   omega
 ·have h1:e.nm.size+e.rs.length+bulk flY.wt e.rs+e.hs.length+bulk flK.wt e.hs <= bulk su.wt ts:=bulk_le su.wt he
  exact st.fit (by omega)
structure Same (qs ks:List qu.E)(ts us:List su.E):Prop where
 ql:ks.length=qs.length
 tl:us.length=ts.length
 q:∀ (k:Nat) (r s:qu.E),ks[k]?=some r->qs[k]?=some s->qu.same r s
 t:∀ (k:Nat) (r s:su.E),us[k]?=some r->ts[k]?=some s->su.same r s
section
variable {es:List Ex} {bs:List Bi} {qs ks:List qu.E} {ts us:List su.E}
theorem Same.flip (h:Same qs ks ts us):Same ks qs us ts:=⟨h.ql.symm,h.tl.symm,fun k r s hr hs=>by obtain⟨a,b,c,d⟩:=h.q k s r hs hr;exact⟨a.symm,b.symm,c.symm,d.symm⟩,fun k r s hr hs=>by obtain⟨a,b,c,d,e⟩:=h.t k s r hs hr;exact⟨a.symm,b.symm,c.symm,d.symm,e.symm⟩⟩
theorem Same.q_at (h:Same qs ks ts us){i:Nat}{e:qu.E}(he:qs[i]?=some e):∃ r,ks[i]?=some r/\qu.same r e:=by
 have hi:=(List.getElem?_eq_some_iff.1 he).1
 have hi2:i<ks.length:=by have:=h.ql;omega
 have hr:ks[i]?=some ks[i]:=List.getElem?_eq_getElem hi2
 exact⟨_,hr,h.q i _ _ hr he⟩
theorem Same.t_at (h:Same qs ks ts us){i:Nat}{e:su.E}(he:ts[i]?=some e):∃ r,us[i]?=some r/\su.same r e:=by
 have hi:=(List.getElem?_eq_some_iff.1 he).1
 have hi2:i<us.length:=by have:=h.tl;omega
 have hr:us[i]?=some us[i]:=List.getElem?_eq_getElem hi2
 exact⟨_,hr,h.t i _ _ hr he⟩
theorem ok_imp (h:Same qs ks ts us)(ok:OkC es bs ks us):OkC es bs qs ts:=by
 refine⟨⟨fun i e hi he=>?_,fun i a b hi ha hb=>?_⟩,⟨fun i e hi he=>?_,fun i a b hi ha hb=>?_⟩,ok.r,by rw [<- h.ql];exact ok.ql,by rw [<- h.tl];exact ok.tl⟩
 ·obtain⟨r,hr,h1,h2,h3,h4⟩:=h.q_at he
  have:=ok.q.1 i r (List.getElem?_eq_some_iff.1 hr).1 hr
  rw [h1,h2,h3,h4] at this
  refine⟨this.1,fun hp=>this.2 ?_⟩
  obtain⟨t,a,ha,hn⟩:=su.place_there.1 hp
  obtain⟨a',ha',g1,_⟩:=h.t_at ha
  exact su.place_there.2 ⟨t,a',ha',g1.trans hn⟩
 ·obtain⟨a',ha',h1,_⟩:=h.q_at ha
  obtain⟨b',hb',h2,_⟩:=h.q_at hb
  have:=ok.q.2 i a' b' (List.getElem?_eq_some_iff.1 hb').1 ha' hb'
  rwa [h1,h2] at this
 ·obtain⟨r,hr,h1,h2,h3,h4,h5⟩:=h.t_at he
  have:=ok.t.1 i r (List.getElem?_eq_some_iff.1 hr).1 hr
  rwa [h1,h2,h3,h4,h5] at this
 ·obtain⟨a',ha',h1,_⟩:=h.t_at ha
  obtain⟨b',hb',h2,_⟩:=h.t_at hb
  have:=ok.t.2 i a' b' (List.getElem?_eq_some_iff.1 hb').1 ha' hb'
  rwa [h1,h2] at this
theorem ok_same (h:Same qs ks ts us):okC es bs ks us=okC es bs qs ts:=by
 cases h1:okC es bs qs ts with
 | true=>exact okC_true.2 (ok_imp h.flip (okC_true.1 h1))
 | false=>exact okC_no fun h2=>by have:=okC_true.2 (ok_imp h h2);rw [h1] at this;cases this
theorem same_of {w:World}{B ge gb gq gt:Nat}(h:Cg w B es bs qs ts ge gb gq gt ks us):Same qs ks ts us:=⟨h.hq.len,h.ht.len,fun k r s hr hs=>h.hq.same k r s (List.getElem?_eq_some_iff.1 hs).1 hr hs,fun k r s hr hs=>h.ht.same k r s (List.getElem?_eq_some_iff.1 hs).1 hr hs⟩
theorem mem_at {α:Type}{l:List α}{e:α}(h:e∈l):∃ i:Nat,l[i]?=some e:=List.mem_iff_getElem?.1 h
theorem fit_same (F:Fit es bs qs ts)(h:Same qs ks ts us):Fit es bs ks us:=by
 refine⟨F.el,F.bl,by rw [h.ql];exact F.ql,by rw [h.tl];exact F.tl,F.eb,F.bb,fun e he=>?_,fun e he=>?_⟩
 ·obtain⟨i,hi⟩:=mem_at he
  obtain⟨r,hr,h1,h2,h3,h4⟩:=h.flip.q_at hi
  have:=F.qf r (List.mem_iff_getElem?.2 ⟨i,hr⟩)
  rwa [h1,h3,h4] at this
 ·obtain⟨i,hi⟩:=mem_at he
  obtain⟨r,hr,h1,h2,h3,h4,h5⟩:=h.flip.t_at hi
  have:=F.tf r (List.mem_iff_getElem?.2 ⟨i,hr⟩)
  rwa [h1,h4,h5] at this
end
theorem ans_ok {n:ByteArray}{nx:Int}{rs:List flM.Ms}{hs:List flH.Hd}{r:Ending}(h:qks.Ans n nx rs hs r):r=.returned (.bool (qsp.okB n nx rs hs)):=by
 obtain⟨b,rfl,hb⟩:=h
 rw [qsp.okB_of hb]
theorem kq_spec {es:List Ex}{bs:List Bi}{qs:List qu.E}{ts:List su.E}{w:World}(F:Fit es bs qs ts)(hV:∀ r∈qs,Row flM.c 5 w w.heap.size r.ra r.rs/\Row flH.c 7 w w.heap.size r.ha r.hs):∀ r∈qs,∀ V,Below w.heap.size w V->Calls Tryz.prog 33 #[.agg #[.string r.nm,.int .i64 r.nx,.slice r.ra r.rs.length r.rc,.slice r.ha r.hs.length r.hc]] V fun e w'=>e=.returned (.bool (qsp.okB r.nm r.nx r.rs r.hs))/\Below V.heap.size V w':=fun r hr V hb=>by
 have f:=F.qf r hr
 exact(qks.spec_ok r.nm r.nx r.rs r.hs r.ra r.ha r.rc r.hc V f.ns f.el f.ml f.eb f.mb ((hV r hr).1.inn hb) ((hV r hr).2.inn hb)).mono fun e w' ⟨h1,h2⟩=>⟨ans_ok h1,h2⟩
theorem kq_impl {es:List Ex}{bs:List Bi}{qs:List qu.E}{ts:List su.E}{w:World}(F:Fit es bs qs ts)(hV:∀ r∈qs,Row flM.c 5 w w.heap.size r.ra r.rs/\Row flH.c 7 w w.heap.size r.ha r.hs):∀ r∈qs,∀ V,Below w.heap.size w V->Calls Tryz.prog 46 #[.agg #[.string r.nm,.int .i64 r.nx,.slice r.ra r.rs.length r.rc,.slice r.ha r.hs.length r.hc]] V fun e w'=>e=.returned (.bool (qsp.okB r.nm r.nx r.rs r.hs))/\Below V.heap.size V w':=fun r hr V hb=>by
 have f:=F.qf r hr
 exact(qki.impl_ok r.nm r.nx r.rs r.hs r.ra r.ha r.rc r.hc V f.ns f.el f.ml f.eb f.mb ((hV r hr).1.inn hb) ((hV r hr).2.inn hb)).mono fun e w' ⟨h1,h2⟩=>⟨ans_ok h1,h2⟩
def At (w:World)(r:su.E):Prop:=∃ g h,r.ra=some ⟨g,0,none⟩/\r.ha=some ⟨h,0,none⟩/\st.RY w g r.rs/\RE w h r.hs
theorem At.below {w w':World}{r:su.E}(a:At w r)(hb:Below w.heap.size w w'):At w' r:=by
 obtain⟨g,h,h1,h2,h3,h4⟩:=a
 exact⟨g,h,h1,h2,h3.below hb,h4.below hb⟩
theorem at_mine {w:World}{B:Nat}{r:su.E}(m:su.Mine w B r):At w r:=by
 obtain⟨g,h,h1,h2,_,_,_,h5,h6,_⟩:=m
 exact⟨g,h,h1,h2,st.ry_own h5,st.re_own h6⟩
theorem at_so {w:World}{B g:Nat}{l ks:List su.E}(so:su.So w B g l ks l.length):∀ r∈ks,At w r:=fun r hr=>by
 obtain⟨j,hj⟩:=mem_at hr
 exact at_mine (so.mine j r (by have:=(List.getElem?_eq_some_iff.1 hj).1;have:=so.len;omega) hj)
theorem kt_spec {es:List Ex}{bs:List Bi}{qs:List qu.E}{ts:List su.E}{w:World}(F:Fit es bs qs ts)(hV:∀ r∈ts,At w r):∀ r∈ts,∀ V,Below w.heap.size w V->Calls Tryz.prog 35 #[.agg #[.string r.nm,.int .i64 r.lo,.int .i64 r.nx,.slice r.ra r.rs.length r.rc,.slice r.ha r.hs.length r.hc]] V fun e w'=>e=.returned (.bool (st.okB r.nm r.lo r.nx r.rs r.hs))/\Below V.heap.size V w':=fun r hr V hb=>by
 obtain⟨g,h,h1,h2,h3,h4⟩:=(hV r hr).below hb
 rw [h1,h2]
 exact sts.spec_ok r.nm r.lo r.nx r.rs r.hs g h r.rc r.hc V (F.tf r hr) h3 h4
theorem kt_impl {es:List Ex}{bs:List Bi}{qs:List qu.E}{ts:List su.E}{w:World}(F:Fit es bs qs ts)(hV:∀ r∈ts,At w r):∀ r∈ts,∀ V,Below w.heap.size w V->Calls Tryz.prog 47 #[.agg #[.string r.nm,.int .i64 r.lo,.int .i64 r.nx,.slice r.ra r.rs.length r.rc,.slice r.ha r.hs.length r.hc]] V fun e w'=>e=.returned (.bool (st.okB r.nm r.lo r.nx r.rs r.hs))/\Below V.heap.size V w':=fun r hr V hb=>by
 obtain⟨g,h,h1,h2,h3,h4⟩:=(hV r hr).below hb
 rw [h1,h2]
 exact sti.impl_ok r.nm r.lo r.nx r.rs r.hs g h r.rc r.hc V (F.tf r hr) h3 h4
theorem kr_spec {es:List Ex}{bs:List Bi}{qs:List qu.E}{ts:List su.E}{w:World}(F:Fit es bs qs ts)(ge gb ec bc:Nat)(hE:RE w ge es)(hB:RB w gb bs):∀ V,Below w.heap.size w V->Calls Tryz.prog 36 #[.agg #[.slice (some ⟨ge,0,none⟩) es.length ec,.slice (some ⟨gb,0,none⟩) bs.length bc]] V fun e w'=>e=.returned (.bool (okR es bs))/\Below V.heap.size V w':=fun V hb =>
 (rk.spec_routes es bs ge ec gb bc V F.el F.bl F.eb F.bb (hE.below hb) (hB.below hb)).mono fun e w' ⟨⟨b,h1,h2⟩,h3⟩=>⟨by rw [h1,okR_of h2],h3⟩
theorem kr_impl {es:List Ex}{bs:List Bi}{qs:List qu.E}{ts:List su.E}{w:World}(F:Fit es bs qs ts)(ge gb ec bc:Nat)(hE:RE w ge es)(hB:RB w gb bs):∀ V,Below w.heap.size w V->Calls Tryz.prog 40 #[.agg #[.slice (some ⟨ge,0,none⟩) es.length ec,.slice (some ⟨gb,0,none⟩) bs.length bc]] V fun e w'=>e=.returned (.bool (okR es bs))/\Below V.heap.size V w':=fun V hb =>
 (ri.impl_routes es bs ge ec gb bc V F.el F.bl F.eb F.bb (hE.below hb) (hB.below hb)).mono fun e w' ⟨⟨b,h1,h2⟩,h3⟩=>⟨by rw [h1,okR_of h2],h3⟩
theorem spec_ok {es:List Ex}{bs:List Bi}{qs ks:List qu.E}{ts us:List su.E}{w:World}{B ge gb gq gt:Nat}(ec bc qc tc:Nat)(F:Fit es bs qs ts)(h:Cg w B es bs qs ts ge gb gq gt ks us) :
  Calls Tryz.prog 11 #[.agg #[.slice (some ⟨ge,0,none⟩) es.length ec,.slice (some ⟨gb,0,none⟩) bs.length bc,.slice (some ⟨gq,0,none⟩) qs.length qc,.slice (some ⟨gt,0,none⟩) ts.length tc]] w fun e w'=>e=.returned (.bool (okC es bs qs ts))/\Below w.heap.size w w':=by
 have F2:=fit_same F (same_of h)
 have hq:=h.hq.v
 have ht:=h.ht.v
 have k:=(cos.spec_ok es bs ks us _ _ _ _ ec bc qc tc w F2.ql F2.tl hq.1 ht.1 (kq_spec F2 hq.2) (kt_spec F2 (at_so h.ht)) (kr_spec F2 ge gb ec bc h.he.all h.hb.all))
 rw [ok_same (same_of h),h.hq.len,h.ht.len] at k
 exact k
theorem impl_ok {es:List Ex}{bs:List Bi}{qs ks:List qu.E}{ts us:List su.E}{w:World}{B ge gb gq gt:Nat}(ec bc qc tc:Nat)(F:Fit es bs qs ts)(h:Cg w B es bs qs ts ge gb gq gt ks us) :
  Calls Tryz.prog 13 #[.agg #[.slice (some ⟨ge,0,none⟩) es.length ec,.slice (some ⟨gb,0,none⟩) bs.length bc,.slice (some ⟨gq,0,none⟩) qs.length qc,.slice (some ⟨gt,0,none⟩) ts.length tc]] w fun e w'=>e=.returned (.bool (okC es bs qs ts))/\Below w.heap.size w w':=by
 have F2:=fit_same F (same_of h)
 have hq:=h.hq.v
 have ht:=h.ht.v
 have k:=(coi.impl_ok es bs ks us _ _ gq gt ec bc qc tc w F2.ql F2.tl (qu.r_of hq.1 h.hq.own.lt) (su.r_of ht.1 h.ht.own.lt) (kq_impl F2 hq.2) (kt_impl F2 (at_so h.ht)) (kr_impl F2 ge gb ec bc h.he.all h.hb.all))
 rw [ok_same (same_of h),h.hq.len,h.ht.len] at k
 exact k
end Go.Proofs.YteoojodkkjepeaaGreat.cb
namespace Go.Proofs.YteoojodkkjepeaaGreat.cmg
open ChangeShapes WideShapes ChangeAt RowKit fl
theorem copy_msg (e:flM.Ms)(w:World)(hx:e.x.size <= 1048576/\e.k.size <= 1048576/\e.b.size <= 1048576):Calls Tryz.prog 144 #[.agg #[.int .i64 e.q,.string e.x,.string e.k,.string e.b,.bool e.a]] w fun r w'=>r=.returned (.agg #[.int .i64 e.q,.string e.x,.string e.k,.string e.b,.bool e.a])/\Below w.heap.size w w':=by
 obtain⟨q,x,k,b,a⟩:=e
 obtain⟨h1,h2,h3⟩:=hx
 simp only at h1 h2 h3 ⊢
 have c1:=fun W=>cl.clone x W (by omega)
 have c2:=fun W=>cl.clone k W (by omega)
 have c3:=fun W=>cl.clone b W (by omega)
 obtain⟨W,hW,hb0,hA,hR,_⟩:=fl.bx2 w #[.int .i64 q,.string x,.string k,.string b,.bool a] #[.int .i64 0,.string ⟨#[]⟩,.string ⟨#[]⟩,.string ⟨#[]⟩,.bool false] 48 48
 have x1:W.cell? ⟨w.heap.size,1,none⟩=some (.string x):=bcell hA rfl
 have HA:Hid (W.heap[w.heap.size]?=some (.cells #[.int .i64 q,.string x,.string k,.string b,.bool a] 48 (0,0))):=hA
 have HR:Hid (W.heap[w.heap.size+1]?=some (.cells #[.int .i64 0,.string ⟨#[]⟩,.string ⟨#[]⟩,.string ⟨#[]⟩,.bool false] 48 (0,0))):=hR
 clear hA hR
 go_enter Tryz.func144,Tryz.ntmps144
 go_wp2_with (go_at_call 56;fail)
 clear hW
 refine(c1 _).mono ?_
 rintro e w1 ⟨rfl,hb1⟩
 have hl1:=(Array.getElem?_eq_some_iff.1 HR.out).1
 have a1:=bstay HA.out hb1 (by omega)
 have r1:=bstay HR.out hb1 hl1
 have y1:w1.cell? ⟨w.heap.size,1,none⟩=some (.string x):=bcell a1 rfl
 have y1f:=bfree a1 1
 have p1:=bset a1 1 (.string x)
 have s1:=boff r1 w.heap.size 1 (.string x) (by omega)
 have hB1:Below w.heap.size w (w1.setCell ⟨w.heap.size,1,none⟩ (.string x)):=(hb0.trans (hb1.mono hb0.size)).setCell (Nat.le_refl _) _
 obtain⟨V1,hV1⟩:∃ V,w1.setCell ⟨w.heap.size,1,none⟩ (.string x)=V:=⟨_,rfl⟩
 rw [hV1] at p1 s1 hB1
 have A1:Hid (V1.heap[w.heap.size]?=some (.cells #[.int .i64 q,.string x,.string k,.string b,.bool a] 48 (0,0))):=p1
 have R1:Hid (V1.heap[w.heap.size+1]?=some (.cells #[.int .i64 0,.string ⟨#[]⟩,.string ⟨#[]⟩,.string ⟨#[]⟩,.bool false] 48 (0,0))):=s1
 have x2:V1.cell? ⟨w.heap.size,2,none⟩=some (.string k):=bcell A1.out rfl
 clear a1 r1 p1 s1 x1 c1 HA HR hb1
 go_wp2_with (go_at_call 56;fail)
 clear hV1 y1 y1f
 refine(c2 _).mono ?_
 rintro e w2 ⟨rfl,hb2⟩
 have hl2:=(Array.getElem?_eq_some_iff.1 R1.out).1
 have a2:=bstay A1.out hb2 (by omega)
 have r2:=bstay R1.out hb2 hl2
 have y2:w2.cell? ⟨w.heap.size,2,none⟩=some (.string k):=bcell a2 rfl
 have y2f:=bfree a2 2
 have p2:=bset a2 2 (.string k)
 have s2:=boff r2 w.heap.size 2 (.string k) (by omega)
 have hB2:Below w.heap.size w (w2.setCell ⟨w.heap.size,2,none⟩ (.string k)):=(hB1.trans (hb2.mono hB1.size)).setCell (Nat.le_refl _) _
 obtain⟨V2,hV2⟩:∃ V,w2.setCell ⟨w.heap.size,2,none⟩ (.string k)=V:=⟨_,rfl⟩
 rw [hV2] at p2 s2 hB2
 have A2:Hid (V2.heap[w.heap.size]?=some (.cells #[.int .i64 q,.string x,.string k,.string b,.bool a] 48 (0,0))):=p2
 have R2:Hid (V2.heap[w.heap.size+1]?=some (.cells #[.int .i64 0,.string ⟨#[]⟩,.string ⟨#[]⟩,.string ⟨#[]⟩,.bool false] 48 (0,0))):=s2
 have x3:V2.cell? ⟨w.heap.size,3,none⟩=some (.string b):=bcell A2.out rfl
 clear a2 r2 p2 s2 x2 c2 A1 R1 hB1 hb2
 go_wp2_with (go_at_call 56;fail)
 clear hV2 y2 y2f
 refine(c3 _).mono ?_
 rintro e w3 ⟨rfl,hb3⟩
 have hl3:=(Array.getElem?_eq_some_iff.1 R2.out).1
 have a3:=bstay A2.out hb3 (by omega)
 have r3:=bstay R2.out hb3 hl3
 have y3:w3.cell? ⟨w.heap.size,3,none⟩=some (.string b):=bcell a3 rfl
 have y3f:=bfree a3 3
 have p3:=bset a3 3 (.string b)
 have s3:=boff r3 w.heap.size 3 (.string b) (by omega)
 have hB3:Below w.heap.size w (w3.setCell ⟨w.heap.size,3,none⟩ (.string b)):=(hB2.trans (hb3.mono hB2.size)).setCell (Nat.le_refl _) _
 obtain⟨V3,hV3⟩:∃ V,w3.setCell ⟨w.heap.size,3,none⟩ (.string b)=V:=⟨_,rfl⟩
 rw [hV3] at p3 s3 hB3
 have A3:Hid (V3.heap[w.heap.size]?=some (.cells #[.int .i64 q,.string x,.string k,.string b,.bool a] 48 (0,0))):=p3
 have R3:Hid (V3.heap[w.heap.size+1]?=some (.cells #[.int .i64 0,.string ⟨#[]⟩,.string ⟨#[]⟩,.string ⟨#[]⟩,.bool false] 48 (0,0))):=s3
 clear a3 r3 p3 s3 x3 c3 A2 R2 hB2 hb3
 have n0:V3.cell? ⟨w.heap.size,0,none⟩=some (.int .i64 q):=bcell A3.out rfl
 have z0:V3.cell? ⟨w.heap.size+1,0,none⟩=some (.int .i64 0):=bcell R3.out rfl
 have f0:=bfree R3.out 0
 have n1:V3.cell? ⟨w.heap.size,1,none⟩=some (.string x):=bcell A3.out rfl
 have z1:V3.cell? ⟨w.heap.size+1,1,none⟩=some (.string ⟨#[]⟩):=bcell R3.out rfl
 have f1:=bfree R3.out 1
 have n2:V3.cell? ⟨w.heap.size,2,none⟩=some (.string k):=bcell A3.out rfl
 have z2:V3.cell? ⟨w.heap.size+1,2,none⟩=some (.string ⟨#[]⟩):=bcell R3.out rfl
 have f2:=bfree R3.out 2
 have n3:V3.cell? ⟨w.heap.size,3,none⟩=some (.string b):=bcell A3.out rfl
 have z3:V3.cell? ⟨w.heap.size+1,3,none⟩=some (.string ⟨#[]⟩):=bcell R3.out rfl
 have f3:=bfree R3.out 3
 have n4:V3.cell? ⟨w.heap.size,4,none⟩=some (.bool a):=bcell A3.out rfl
 have z4:V3.cell? ⟨w.heap.size+1,4,none⟩=some (.bool false):=bcell R3.out rfl
 have f4:=bfree R3.out 4
 go_wp2
 exact bodyPost_ret (v:=.agg #[.int .i64 q,.string x,.string k,.string b,.bool a]) (by simp [results,Tryz.results144,go_sem,z0,z1,z2,z3,z4]) rfl ⟨rfl,(((((hB3.setCell (by show w.heap.size <= w.heap.size+1;omega) _).setCell (by show w.heap.size <= w.heap.size+1;omega) _).setCell (by show w.heap.size <= w.heap.size+1;omega) _).setCell (by show w.heap.size <= w.heap.size+1;omega) _).setCell (by show w.heap.size <= w.heap.size+1;omega) _)⟩
end Go.Proofs.YteoojodkkjepeaaGreat.cmg
