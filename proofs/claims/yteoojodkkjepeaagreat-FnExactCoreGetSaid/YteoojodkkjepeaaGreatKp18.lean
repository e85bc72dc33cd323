/- CoreMarks. -/
import Derived.Test.YteoojodkkjepeaaGreatKp09
import Derived.Test.YteoojodkkjepeaaGreatKp11
import Derived.Test.YteoojodkkjepeaaGreatKp16
import Derived.Test.YteoojodkkjepeaaGreatKp17
set_option maxRecDepth 100000
set_option maxHeartbeats 8000000
set_option linter.unusedVariables false
namespace Go.Proofs.YteoojodkkjepeaaGreat.qu
open ChangeShapes WideShapes ChangeAt RowKit fl
theorem Ls.ty {w:World}{B g k:Nat}{l:List E}(h:Ls w B g l)(hk:lsB g l k):∃ cur U,w.heap[k]?=some (.cells cur U (0,0))/\(U=68 ∨ U=48 ∨ U=102):=by
 rcases hk with rfl | ⟨r,hr,hk | hk⟩
 ·obtain⟨cur,h1⟩:=own_g h.own
  exact⟨cur,_,h1,.inl rfl⟩
 ·obtain⟨cur,h1⟩:=rmk.mine_type (h.ea r hr) hk
  exact⟨cur,_,h1,.inr (.inl rfl)⟩
 ·obtain⟨cur,h1⟩:=rmk.mine_type (h.eb r hr) hk
  exact⟨cur,_,h1,.inr (.inr rfl)⟩
theorem Ls.turn {w w':World}{B g:Nat}{l:List E}{Z:Nat->Prop}(h:Ls w B g l)(ht:fo.Tn w w' Z)(hS:∀ k,Z k->∃ cur U,w.heap[k]?=some (.cells cur U (0,0))/\U≠68/\U≠48/\U≠102):Ls w' B g l:=by
 refine⟨h.own.kept (ht.block g h.own.lt fun hz=>?_),h.bg,fun r hr=>(h.ea r hr).kept ht fun k hk hz=>?_,fun r hr=>(h.eb r hr).kept ht fun k hk hz=>?_,h.pw⟩
 ·obtain⟨cur,U,h1,h2,_,_⟩:=hS _ hz
  exact rmk.ne_type h2 ⟨cur,h1⟩ (own_g h.own)
 ·obtain⟨cur,U,h1,_,h2,_⟩:=hS _ hz
  exact rmk.ne_type h2 ⟨cur,h1⟩ (rmk.mine_type (h.ea r hr) hk)
 ·obtain⟨cur,U,h1,_,_,h2⟩:=hS _ hz
  exact rmk.ne_type h2 ⟨cur,h1⟩ (rmk.mine_type (h.eb r hr) hk)
theorem Ls.low {w:World}{B g k:Nat}{l:List E}(h:Ls w B g l)(hk:lsB g l k):B <= k:=by
 rcases hk with rfl | ⟨r,hr,hk | hk⟩
 ·exact h.bg
 ·exact((h.ea r hr).blk_le hk).1
 ·exact((h.eb r hr).blk_le hk).1
theorem so_ls {w:World}{B g:Nat}{l ks:List E}(so:So w B g l ks l.length)(hg:B <= g):Ls w B g ks:=by
 have hm:∀ r∈ks,Mine w B r:=fun r hr=>by
  obtain⟨j,hj⟩:=List.mem_iff_getElem?.1 hr
  exact so.mine j r (by have:=(List.getElem?_eq_some_iff.1 hj).1;have:=so.len;omega) hj
 have ho:=so.own
 rw [<- so.len] at ho
 refine⟨fo.of_own ho,hg,fun r hr=>?_,fun r hr=>?_,?_⟩
 ·obtain⟨a,b,h1,h2,h3,h4,_,h5,h6,_⟩:=hm r hr
  exact .inr ⟨a,0,h1,h3,fo.of_own h5⟩
 ·obtain⟨a,b,h1,h2,h3,h4,_,h5,h6,_⟩:=hm r hr
  exact .inr ⟨b,0,h2,h4,fo.of_own h6⟩
 ·rw [List.pairwise_iff_getElem]
  intro i j hi hj hij
  have e1:ks[i]?=some ks[i]:=List.getElem?_eq_getElem hi
  have e2:ks[j]?=some ks[j]:=List.getElem?_eq_getElem hj
  have hord:=so.ord i j _ _ hij (by have:=so.len;omega) e1 e2
  refine⟨fun k h1 h2=>?_,fun k h1 h2=>?_⟩
  ·obtain⟨_,g1,o1,a1,b1⟩:=h1
   obtain⟨_,g2,o2,a2,b2⟩:=h2
   have:=hord k k (.inl ⟨o1,by rw [a1,b1]⟩) (.inl ⟨o2,by rw [a2,b2]⟩)
   omega
  ·obtain⟨_,g1,o1,a1,b1⟩:=h1
   obtain⟨_,g2,o2,a2,b2⟩:=h2
   have:=hord k k (.inr ⟨o1,by rw [a1,b1]⟩) (.inr ⟨o2,by rw [a2,b2]⟩)
   omega
end Go.Proofs.YteoojodkkjepeaaGreat.qu
namespace Go.Proofs.YteoojodkkjepeaaGreat.su
open ChangeShapes WideShapes ChangeAt RowKit fl
theorem Ls.ty {w:World}{B g k:Nat}{l:List E}(h:Ls w B g l)(hk:lsB g l k):∃ cur U,w.heap[k]?=some (.cells cur U (0,0))/\(U=74 ∨ U=121 ∨ U=123):=by
 rcases hk with rfl | ⟨r,hr,hk | hk⟩
 ·obtain⟨cur,h1⟩:=own_g h.own
  exact⟨cur,_,h1,.inl rfl⟩
 ·obtain⟨cur,h1⟩:=rmk.mine_type (h.ea r hr) hk
  exact⟨cur,_,h1,.inr (.inl rfl)⟩
 ·obtain⟨cur,h1⟩:=rmk.mine_type (h.eb r hr) hk
  exact⟨cur,_,h1,.inr (.inr rfl)⟩
theorem Ls.turn {w w':World}{B g:Nat}{l:List E}{Z:Nat->Prop}(h:Ls w B g l)(ht:fo.Tn w w' Z)(hS:∀ k,Z k->∃ cur U,w.heap[k]?=some (.cells cur U (0,0))/\U≠74/\U≠121/\U≠123):Ls w' B g l:=by
 refine⟨h.own.kept (ht.block g h.own.lt fun hz=>?_),h.bg,fun r hr=>(h.ea r hr).kept ht fun k hk hz=>?_,fun r hr=>(h.eb r hr).kept ht fun k hk hz=>?_,h.pw⟩
 ·obtain⟨cur,U,h1,h2,_,_⟩:=hS _ hz
  exact rmk.ne_type h2 ⟨cur,h1⟩ (own_g h.own)
 ·obtain⟨cur,U,h1,_,h2,_⟩:=hS _ hz
  exact rmk.ne_type h2 ⟨cur,h1⟩ (rmk.mine_type (h.ea r hr) hk)
 ·obtain⟨cur,U,h1,_,_,h2⟩:=hS _ hz
  exact rmk.ne_type h2 ⟨cur,h1⟩ (rmk.mine_type (h.eb r hr) hk)
theorem Ls.low {w:World}{B g k:Nat}{l:List E}(h:Ls w B g l)(hk:lsB g l k):B <= k:=by
 rcases hk with rfl | ⟨r,hr,hk | hk⟩
 ·exact h.bg
 ·exact((h.ea r hr).blk_le hk).1
 ·exact((h.eb r hr).blk_le hk).1
theorem so_ls {w:World}{B g:Nat}{l ks:List E}(so:So w B g l ks l.length)(hg:B <= g):Ls w B g ks:=by
 have hm:∀ r∈ks,Mine w B r:=fun r hr=>by
  obtain⟨j,hj⟩:=List.mem_iff_getElem?.1 hr
  exact so.mine j r (by have:=(List.getElem?_eq_some_iff.1 hj).1;have:=so.len;omega) hj
 have ho:=so.own
 rw [<- so.len] at ho
 refine⟨fo.of_own ho,hg,fun r hr=>?_,fun r hr=>?_,?_⟩
 ·obtain⟨a,b,h1,h2,h3,h4,_,h5,h6,_⟩:=hm r hr
  exact .inr ⟨a,0,h1,h3,fo.of_own h5⟩
 ·obtain⟨a,b,h1,h2,h3,h4,_,h5,h6,_⟩:=hm r hr
  exact .inr ⟨b,0,h2,h4,fo.of_own h6⟩
 ·rw [List.pairwise_iff_getElem]
  intro i j hi hj hij
  have e1:ks[i]?=some ks[i]:=List.getElem?_eq_getElem hi
  have e2:ks[j]?=some ks[j]:=List.getElem?_eq_getElem hj
  have hord:=so.ord i j _ _ hij (by have:=so.len;omega) e1 e2
  refine⟨fun k h1 h2=>?_,fun k h1 h2=>?_⟩
  ·obtain⟨_,g1,o1,a1,b1⟩:=h1
   obtain⟨_,g2,o2,a2,b2⟩:=h2
   have:=hord k k (.inl ⟨o1,by rw [a1,b1]⟩) (.inl ⟨o2,by rw [a2,b2]⟩)
   omega
  ·obtain⟨_,g1,o1,a1,b1⟩:=h1
   obtain⟨_,g2,o2,a2,b2⟩:=h2
   have:=hord k k (.inr ⟨o1,by rw [a1,b1]⟩) (.inr ⟨o2,by rw [a2,b2]⟩)
   omega
end Go.Proofs.YteoojodkkjepeaaGreat.su
namespace Go.Proofs.YteoojodkkjepeaaGreat.co
open ChangeShapes WideShapes ChangeAt RowKit rr ra rt rm fl
structure Ca (w:World)(B:Nat)(es:List Ex)(bs:List Bi)(qs:List qu.E)(ts:List su.E)(ge gb gq gt:Nat):Prop where
 he:FE w ge es es.length
 hb:FB w gb bs bs.length
 hq:qu.Ls w B gq qs
 ht:su.Ls w B gt ts
 be:B <= ge
 bb:B <= gb
 eb:ge≠gb
def coB (qs:List qu.E)(ts:List su.E)(ge gb gq gt k:Nat):Prop:=k=ge ∨ k=gb ∨ qu.lsB gq qs k ∨ su.lsB gt ts k
structure Cm (w:World)(B:Nat)(es:List Ex)(bs:List Bi)(qs:List qu.E)(ts:List su.E)(ge gb gq gt:Nat):Prop where
 he:FE w ge (mksE 1 es.length) es.length
 hb:FB w gb (mksB (1+2*es.length) bs.length) bs.length
 hq:qu.Ls w B gq (qu.mkl (1+2*es.length+bs.length*3) qs)
 ht:su.Ls w B gt (su.mkl (1+2*es.length+bs.length*3+qu.tot qs) ts)
structure Sm (es:List Ex)(bs:List Bi)(qs:List qu.E)(ts:List su.E):Prop where
 el:es.length <= 1048576
 bl:bs.length <= 1048576
 ql:qs.length <= 1048577
 tl:ts.length <= 1048577
 qe:∀ r∈qs,r.rs.length <= 1048577/\r.hs.length <= 1048577
 te:∀ r∈ts,r.rs.length <= 1048577/\r.hs.length <= 1048577
 qt:qu.tot qs <= 50000000000
 tt:su.tot ts <= 50000000000
section
variable {w w':World} {B ge gb gq gt:Nat} {es:List Ex} {bs:List Bi} {qs ks:List qu.E} {ts us:List su.E}
theorem Cg.a (h:Cg w B es bs qs ts ge gb gq gt ks us):Ca w B es bs ks us ge gb gq gt:=⟨h.he,h.hb,qu.so_ls h.hq h.bq,su.so_ls h.ht h.bt,h.be,h.bb,h.eb⟩
theorem Ca.on (h:Ca w B es bs qs ts ge gb gq gt)(hb:Below w.heap.size w w'):Ca w' B es bs qs ts ge gb gq gt:=⟨h.he.below hb h.he.lt,h.hb.below hb h.hb.lt,h.hq.on hb,h.ht.on hb,h.be,h.bb,h.eb⟩
theorem Cm.on (h:Cm w B es bs qs ts ge gb gq gt)(hb:Below w.heap.size w w'):Cm w' B es bs qs ts ge gb gq gt:=⟨h.he.below hb h.he.lt,h.hb.below hb h.hb.lt,h.hq.on hb,h.ht.on hb⟩
theorem Ca.low (h:Ca w B es bs qs ts ge gb gq gt){k:Nat}(hk:coB qs ts ge gb gq gt k):B <= k:=by
 rcases hk with rfl | rfl | hk | hk
 ·exact h.be
 ·exact h.bb
 ·exact h.hq.low hk
 ·exact h.ht.low hk
theorem fe_ty {l:List Ex}{k:Nat}(h:FE w ge l k):∃ cur,w.heap[ge]?=some (.cells cur 125 (0,0)):=by
 obtain⟨cur,h1,_⟩:=h
 exact⟨cur,h1⟩
theorem fb_ty {l:List Bi}{k:Nat}(h:FB w gb l k):∃ cur,w.heap[gb]?=some (.cells cur 127 (0,0)):=by
 obtain⟨cur,h1,_⟩:=h
 exact⟨cur,h1⟩
end
theorem mark_core (es:List Ex)(bs:List Bi)(qs:List qu.E)(ts:List su.E)(B ge gb gq gt ec bc qc tc:Nat)(w:World)(S:Sm es bs qs ts)(h:Ca w B es bs qs ts ge gb gq gt) :
  Calls Tryz.prog 17 #[.agg #[.slice (some ⟨ge,0,none⟩) es.length ec,.slice (some ⟨gb,0,none⟩) bs.length bc,.slice (some ⟨gq,0,none⟩) qs.length qc,.slice (some ⟨gt,0,none⟩) ts.length tc],.int .i64 1] w fun e w'=>e=.returned (.int .i64 (1+2*es.length+bs.length*3+qu.tot qs+su.tot ts:Nat))/\fo.Tn w w' (coB qs ts ge gb gq gt)/\Cm w' B es bs qs ts ge gb gq gt:=by
 have hb:=fl.bl w (.cells #[.slice (some ⟨ge,0,none⟩) es.length ec,.slice (some ⟨gb,0,none⟩) bs.length bc,.slice (some ⟨gq,0,none⟩) qs.length qc,.slice (some ⟨gt,0,none⟩) ts.length tc] 39)
 have hA:=bnew w #[.slice (some ⟨ge,0,none⟩) es.length ec,.slice (some ⟨gb,0,none⟩) bs.length bc,.slice (some ⟨gq,0,none⟩) qs.length qc,.slice (some ⟨gt,0,none⟩) ts.length tc] 39
 obtain⟨W,hW⟩:∃ W,w.alloc (.cells #[.slice (some ⟨ge,0,none⟩) es.length ec,.slice (some ⟨gb,0,none⟩) bs.length bc,.slice (some ⟨gq,0,none⟩) qs.length qc,.slice (some ⟨gt,0,none⟩) ts.length tc] 39)=W:=⟨_,rfl⟩
 rw [hW] at hb hA
 have hC:=h.on hb
 have hmr:=ro2.mark_routes es bs ge gb ec bc W S.el S.bl h.eb hC.he hC.hb
 have x0:W.cell? ⟨w.heap.size,0,none⟩=some (.slice (some ⟨ge,0,none⟩) es.length ec):=bcell hA rfl
 have x1:W.cell? ⟨w.heap.size,1,none⟩=some (.slice (some ⟨gb,0,none⟩) bs.length bc):=bcell hA rfl
 have HA:Hid (W.heap[w.heap.size]?=some (.cells #[.slice (some ⟨ge,0,none⟩) es.length ec,.slice (some ⟨gb,0,none⟩) bs.length bc,.slice (some ⟨gq,0,none⟩) qs.length qc,.slice (some ⟨gt,0,none⟩) ts.length tc] 39 (0,0))):=hA
 have HC:Hid (Ca W B es bs qs ts ge gb gq gt):=hC
 have HS:Hid (Sm es bs qs ts):=S
 have HW:Hid (Below w.heap.size w W):=hb
 have hel:=S.el
 have hbl:=S.bl
 clear h S hA hC hb
 go_enter Tryz.func17,Tryz.ntmps17
 go_wp2_with (go_at_call 58;fail)
 clear hW x0 x1
 refine hmr.mono ?_
 rintro e w1 ⟨rfl,fe1,fb1,ht1⟩
 have hT1:fo.Tn W w1 (fun k=>k=ge ∨ k=gb):=⟨ht1.os,ht1.tape,ht1.output,ht1.size,fun k hk hn=>ht1.block k hk (fun e=>hn (.inl e)) (fun e=>hn (.inr e))⟩
 have hty1:∀ k,(k=ge ∨ k=gb)->∃ cur U,W.heap[k]?=some (.cells cur U (0,0))/\(U=125 ∨ U=127):=fun k hk=>by
  rcases hk with rfl | rfl
  ·obtain⟨c,h1⟩:=fe_ty HC.out.he;exact⟨c,_,h1,.inl rfl⟩
  ·obtain⟨c,h1⟩:=fb_ty HC.out.hb;exact⟨c,_,h1,.inr rfl⟩
 have hq1:qu.Ls w1 B gq qs:=HC.out.hq.turn hT1 (fun k hk=>by obtain⟨c,U,h1,rfl | rfl⟩:=hty1 k hk;exact⟨c,_,h1,by decide,by decide,by decide⟩;exact⟨c,_,h1,by decide,by decide,by decide⟩)
 have hs1:su.Ls w1 B gt ts:=HC.out.ht.turn hT1 (fun k hk=>by obtain⟨c,U,h1,rfl | rfl⟩:=hty1 k hk;exact⟨c,_,h1,by decide,by decide,by decide⟩;exact⟨c,_,h1,by decide,by decide,by decide⟩)
 have hbx1:w1.heap[w.heap.size]?=some (.cells #[.slice (some ⟨ge,0,none⟩) es.length ec,.slice (some ⟨gb,0,none⟩) bs.length bc,.slice (some ⟨gq,0,none⟩) qs.length qc,.slice (some ⟨gt,0,none⟩) ts.length tc] 39 (0,0)):=(hT1.block _ (Array.getElem?_eq_some_iff.1 HA.out).1 (fun hk=>by obtain⟨c,U,h1,h2⟩:=hty1 _ hk;rw [HA.out] at h1;simp at h1;rcases h2 with rfl | rfl <;> simp at h1)).trans HA.out
 have x2:w1.cell? ⟨w.heap.size,2,none⟩=some (.slice (some ⟨gq,0,none⟩) qs.length qc):=bcell hbx1 rfl
 obtain⟨m1,hm1⟩:∃ m1,1+2*es.length+bs.length*3=m1:=⟨_,rfl⟩
 have hm19:1 <= m1/\m1 <= 10000000:=by omega
 have hmq:=qu.mark_list qs gq qc m1 w1 HS.out.qe (by have:=HS.out.qt;omega) HS.out.ql (by omega) hq1
 have HM1:Hid (1+2*es.length+bs.length*3=m1):=hm1
 rw [hm1]
 have HF1:Hid (FE w1 ge (mksE 1 es.length) es.length/\FB w1 gb (mksB (1+2*es.length) bs.length) bs.length):=⟨fe1,fb1⟩
 have HT1:Hid (fo.Tn W w1 (fun k=>k=ge ∨ k=gb)):=hT1
 have HQ1:Hid (qu.Ls w1 B gq qs):=hq1
 have HS1:Hid (su.Ls w1 B gt ts):=hs1
 have HB1:Hid (w1.heap[w.heap.size]?=some (.cells #[.slice (some ⟨ge,0,none⟩) es.length ec,.slice (some ⟨gb,0,none⟩) bs.length bc,.slice (some ⟨gq,0,none⟩) qs.length qc,.slice (some ⟨gt,0,none⟩) ts.length tc] 39 (0,0))):=hbx1
 obtain⟨m2,hm2⟩:∃ m2,m1+qu.tot qs=m2:=⟨_,rfl⟩
 rw [hm2] at hmq
 have HM2:Hid (m1+qu.tot qs=m2):=hm2
 have hm29:1 <= m2/\m2 <= 60000000000:=by have:=HS.out.qt;omega
 clear hmr fe1 fb1 ht1 hT1 hty1 hq1 hs1 hbx1 hm1 hm2
 go_wp2_with (go_at_call 59;fail)
 refine hmq.mono ?_
 rintro e w2 ⟨rfl,ht2,hl2⟩
 have hty2:=fun k (hk:qu.lsB gq qs k)=>HQ1.out.ty hk
 have fe2:FE w2 ge (mksE 1 es.length) es.length:=ro2.keptE HF1.out.1 (ht2.block ge HF1.out.1.lt (fun hk=>by obtain⟨c,U,h1,h2⟩:=hty2 _ hk;rcases h2 with rfl | rfl | rfl <;> exact rmk.ne_type (by decide) ⟨c,h1⟩ (fe_ty HF1.out.1)))
 have fb2:FB w2 gb (mksB (1+2*es.length) bs.length) bs.length:=ro2.keptB HF1.out.2 (ht2.block gb HF1.out.2.lt (fun hk=>by obtain⟨c,U,h1,h2⟩:=hty2 _ hk;rcases h2 with rfl | rfl | rfl <;> exact rmk.ne_type (by decide) ⟨c,h1⟩ (fb_ty HF1.out.2)))
 have hs2:su.Ls w2 B gt ts:=HS1.out.turn ht2 (fun k hk=>by obtain⟨c,U,h1,rfl | rfl | rfl⟩:=hty2 k hk;exact⟨c,_,h1,by decide,by decide,by decide⟩;exact⟨c,_,h1,by decide,by decide,by decide⟩;exact⟨c,_,h1,by decide,by decide,by decide⟩)
 have hbx2:w2.heap[w.heap.size]?=some (.cells #[.slice (some ⟨ge,0,none⟩) es.length ec,.slice (some ⟨gb,0,none⟩) bs.length bc,.slice (some ⟨gq,0,none⟩) qs.length qc,.slice (some ⟨gt,0,none⟩) ts.length tc] 39 (0,0)):=(ht2.block _ (Array.getElem?_eq_some_iff.1 HB1.out).1 (fun hk=>by obtain⟨c,U,h1,h2⟩:=hty2 _ hk;rw [HB1.out] at h1;simp at h1;rcases h2 with rfl | rfl | rfl <;> simp at h1)).trans HB1.out
 have x3:w2.cell? ⟨w.heap.size,3,none⟩=some (.slice (some ⟨gt,0,none⟩) ts.length tc):=bcell hbx2 rfl
 have hms:=su.mark_list ts gt tc m2 w2 HS.out.te (by have:=HS.out.tt;omega) HS.out.tl (by omega) hs2
 have HF2:Hid (FE w2 ge (mksE 1 es.length) es.length/\FB w2 gb (mksB (1+2*es.length) bs.length) bs.length):=⟨fe2,fb2⟩
 have HL2:Hid (qu.Ls w2 B gq (qu.mkl m1 qs)):=hl2
 have HT2:Hid (fo.Tn w1 w2 (qu.lsB gq qs)):=ht2
 have HS2:Hid (su.Ls w2 B gt ts):=hs2
 clear hmq fe2 fb2 hl2 ht2 hs2 hbx2 hty2 x2
 go_wp2_with (go_at_call 60;fail)
 refine hms.mono ?_
 rintro e w3 ⟨rfl,ht3,hl3⟩
 have hty3:=fun k (hk:su.lsB gt ts k)=>HS2.out.ty hk
 have fe3:FE w3 ge (mksE 1 es.length) es.length:=ro2.keptE HF2.out.1 (ht3.block ge HF2.out.1.lt (fun hk=>by obtain⟨c,U,h1,h2⟩:=hty3 _ hk;rcases h2 with rfl | rfl | rfl <;> exact rmk.ne_type (by decide) ⟨c,h1⟩ (fe_ty HF2.out.1)))
 have fb3:FB w3 gb (mksB (1+2*es.length) bs.length) bs.length:=ro2.keptB HF2.out.2 (ht3.block gb HF2.out.2.lt (fun hk=>by obtain⟨c,U,h1,h2⟩:=hty3 _ hk;rcases h2 with rfl | rfl | rfl <;> exact rmk.ne_type (by decide) ⟨c,h1⟩ (fb_ty HF2.out.2)))
 have hq3:qu.Ls w3 B gq (qu.mkl m1 qs):=HL2.out.turn ht3 (fun k hk=>by obtain⟨c,U,h1,rfl | rfl | rfl⟩:=hty3 k hk;exact⟨c,_,h1,by decide,by decide,by decide⟩;exact⟨c,_,h1,by decide,by decide,by decide⟩;exact⟨c,_,h1,by decide,by decide,by decide⟩)
 have HFN:Hid (fo.Tn w w3 (coB qs ts ge gb gq gt)/\Cm w3 B es bs qs ts ge gb gq gt):=by
  refine⟨?_,fe3,fb3,?_,?_⟩
  ·exact(((fo.Tn.of _ HW.out).trans (HT1.out.wide fun k hk=>hk.elim .inl (fun h=>.inr (.inl h)))).trans (HT2.out.wide fun k hk=>.inr (.inr (.inl hk)))).trans (ht3.wide fun k hk=>.inr (.inr (.inr hk)))
  ·rw [HM1.out];exact hq3
  ·rw [HM1.out,HM2.out];exact hl3
 clear hms fe3 fb3 hq3 hl3 ht3 hty3 x3
 go_wp2
 go_ret
 exact⟨by rw [HM1.out,HM2.out];rfl,HFN.out.1,HFN.out.2⟩
theorem held_core (es:List Ex)(bs:List Bi)(qs:List qu.E)(ts:List su.E)(B ge gb gq gt ec bc qc tc:Nat)(w:World)(S:Sm es bs qs ts)(h:Cm w B es bs qs ts ge gb gq gt) :
  Calls Tryz.prog 18 #[.agg #[.slice (some ⟨ge,0,none⟩) es.length ec,.slice (some ⟨gb,0,none⟩) bs.length bc,.slice (some ⟨gq,0,none⟩) qs.length qc,.slice (some ⟨gt,0,none⟩) ts.length tc],.int .i64 1] w fun e w'=>e=.returned (.int .i64 (1+2*es.length+bs.length*3+qu.tot qs+su.tot ts:Nat))/\Below w.heap.size w w':=by
 have hb:=fl.bl w (.cells #[.slice (some ⟨ge,0,none⟩) es.length ec,.slice (some ⟨gb,0,none⟩) bs.length bc,.slice (some ⟨gq,0,none⟩) qs.length qc,.slice (some ⟨gt,0,none⟩) ts.length tc] 39)
 have hA:=bnew w #[.slice (some ⟨ge,0,none⟩) es.length ec,.slice (some ⟨gb,0,none⟩) bs.length bc,.slice (some ⟨gq,0,none⟩) qs.length qc,.slice (some ⟨gt,0,none⟩) ts.length tc] 39
 obtain⟨W,hW⟩:∃ W,w.alloc (.cells #[.slice (some ⟨ge,0,none⟩) es.length ec,.slice (some ⟨gb,0,none⟩) bs.length bc,.slice (some ⟨gq,0,none⟩) qs.length qc,.slice (some ⟨gt,0,none⟩) ts.length tc] 39)=W:=⟨_,rfl⟩
 rw [hW] at hb hA
 have hC:=h.on hb
 have hmr:=ro2.held_routes es.length bs.length ge gb ec bc W S.el S.bl hC.he hC.hb
 have x0:W.cell? ⟨w.heap.size,0,none⟩=some (.slice (some ⟨ge,0,none⟩) es.length ec):=bcell hA rfl
 have x1:W.cell? ⟨w.heap.size,1,none⟩=some (.slice (some ⟨gb,0,none⟩) bs.length bc):=bcell hA rfl
 have HA:Hid (W.heap[w.heap.size]?=some (.cells #[.slice (some ⟨ge,0,none⟩) es.length ec,.slice (some ⟨gb,0,none⟩) bs.length bc,.slice (some ⟨gq,0,none⟩) qs.length qc,.slice (some ⟨gt,0,none⟩) ts.length tc] 39 (0,0))):=hA
 have la:=(Array.getElem?_eq_some_iff.1 hA).1
 have HC:Hid (Cm W B es bs qs ts ge gb gq gt):=hC
 have HS:Hid (Sm es bs qs ts):=S
 have hel:=S.el
 have hbl:=S.bl
 clear h S hA hC
 go_enter Tryz.func18,Tryz.ntmps18
 go_wp2_with (go_at_call 61;fail)
 clear hW x0 x1
 refine hmr.mono ?_
 rintro e w1 ⟨rfl,hb1⟩
 have x2:w1.cell? ⟨w.heap.size,2,none⟩=some (.slice (some ⟨gq,0,none⟩) qs.length qc):=bcell (bstay HA.out hb1 la) rfl
 have hC1:=HC.out.on hb1
 have hq1:=hC1.hq
 obtain⟨m1,hm1⟩:∃ m1,1+2*es.length+bs.length*3=m1:=⟨_,rfl⟩
 have hm19:1 <= m1/\m1 <= 10000000:=by omega
 rw [hm1] at hq1 ⊢
 have hn1:¬ (m1:Int)<0:=by omega
 have HM1:Hid (1+2*es.length+bs.length*3=m1):=hm1
 have hmq:=qu.held_list qs gq qc m1 w1 HS.out.qe (by have:=HS.out.qt;omega) HS.out.ql (by omega) hq1
 obtain⟨m2,hm2⟩:∃ m2,m1+qu.tot qs=m2:=⟨_,rfl⟩
 rw [hm2] at hmq
 have HM2:Hid (m1+qu.tot qs=m2):=hm2
 have hm29:1 <= m2/\m2 <= 60000000000:=by have:=HS.out.qt;omega
 clear hmr hC1 hq1 hm1 hm2
 go_wp2_with (go_at_call 62;fail)
 refine hmq.mono ?_
 rintro e w2 ⟨rfl,hb2⟩
 have hb12:=fl.bt hb1 hb2
 have x3:w2.cell? ⟨w.heap.size,3,none⟩=some (.slice (some ⟨gt,0,none⟩) ts.length tc):=bcell (bstay HA.out hb12 la) rfl
 have hs2:=(HC.out.on hb12).ht
 rw [HM1.out,HM2.out] at hs2
 have hms:=su.held_list ts gt tc m2 w2 HS.out.te (by have:=HS.out.tt;omega) HS.out.tl (by omega) hs2
 have hn2:¬ (m2:Int)<0:=by omega
 obtain⟨m3,hm3⟩:∃ m3,m2+su.tot ts=m3:=⟨_,rfl⟩
 rw [hm3] at hms
 have HM3:Hid (m2+su.tot ts=m3):=hm3
 have hn3:¬ (m3:Int)<0:=by omega
 clear hmq hs2 x2 hm3
 go_wp2_with (go_at_call 63;fail)
 refine hms.mono ?_
 rintro e w3 ⟨rfl,hb3⟩
 have hfin:Below w.heap.size w w3:=hb.trans ((hb12.trans (hb3.mono hb12.size)).mono hb.size)
 clear hms x3
 go_wp2
 go_ret
 exact⟨by rw [HM1.out,HM2.out,HM3.out];rfl,hfin⟩
end Go.Proofs.YteoojodkkjepeaaGreat.co
