/- CqWalks, CoreQueueLaw. -/
import Derived.Test.YtaoefccgdfcchaaGreatKq34
import Derived.Test.YtaoefccgdfcchaaGreatKq39
import Derived.Test.YtaoefccgdfcchaaGreatKq26
set_option maxRecDepth 100000
set_option maxHeartbeats 8000000
set_option linter.unusedVariables false
namespace Go.Proofs.YtaoefccgdfcchaaGreat.cqw
open ChangeShapes WideShapes ChangeAt RowKit rr ra rt fl co cn cb
section
variable {w w':World} {B ge gb gq gt:Nat} {es:List Ex} {bs:List Bi} {qs ks ls:List qu.E} {ts us vs:List su.E}
theorem same_trans {Q K L:List qu.E} {U V X:List su.E} (h1:cb.Same Q K U V) (h2:cb.Same K L V X):cb.Same Q L U X:=by
 refine ⟨h2.ql.trans h1.ql,h2.tl.trans h1.tl,fun k r s hr hs=>?_,fun k r s hr hs=>?_⟩
 ·obtain ⟨x,hx,a,b,c,d⟩:=h1.q_at hs
  obtain ⟨a',b',c',d'⟩:=h2.q k r x hr hx
  exact ⟨a'.trans a,b'.trans b,c'.trans c,d'.trans d⟩
 ·obtain ⟨x,hx,a,b,c,d,f⟩:=h1.t_at hs
  obtain ⟨a',b',c',d',f'⟩:=h2.t k r x hr hx
  exact ⟨a'.trans a,b'.trans b,c'.trans c,d'.trans d,f'.trans f⟩
theorem parts (h:Cg w B es bs qs ts ge gb gq gt ks us):RE w ge es/\RB w gb bs/\qu.R w gq ks/\su.R w gt us/\(∀ r ∈ ks,∃ g h,r.ra=some ⟨g,0,none⟩/\r.ha=some ⟨h,0,none⟩/\Row flM.c 5 w w.heap.size r.ra r.rs/\Row flH.c 7 w w.heap.size r.ha r.hs)/\∀ r ∈ us,cb.At w r:=by
 obtain ⟨r1,r2,r3,r4⟩:=h.rows
 refine ⟨r1,r2,qu.r_of r3.1 h.hq.own.lt,su.r_of r4.1 h.ht.own.lt,fun r hr=>?_,cb.at_so h.ht⟩
 obtain ⟨j,hj⟩:=cb.mem_at hr
 obtain ⟨g,x,h1,h2,_⟩:=h.hq.mine j r (by have:=(List.getElem?_eq_some_iff.1 hj).1; have:=h.hq.len; omega) hj
 exact ⟨g,x,h1,h2,(r3.2 r hr).1,(r3.2 r hr).2⟩
theorem ok_impl (ec bc qc tc:Nat) (F:cb.Fit es bs qs ts) (h:Cg w B es bs qs ts ge gb gq gt ks us):∀ V,Below w.heap.size w V->Calls Tryz.prog 22 #[.agg #[.slice (some ⟨ge,0,none⟩) es.length ec,.slice (some ⟨gb,0,none⟩) bs.length bc,.slice (some ⟨gq,0,none⟩) ks.length qc,.slice (some ⟨gt,0,none⟩) us.length tc]] V fun e w'=>e=.returned (.bool (okC es bs qs ts))/\Below V.heap.size V w':=fun V hV=>by
 have k:=cb.impl_ok ec bc qc tc F (h.below hV)
 rw [(same_of h).ql,(same_of h).tl]
 exact k
theorem ok_spec (ec bc qc tc:Nat) (F:cb.Fit es bs qs ts) (h:Cg w B es bs qs ts ge gb gq gt ks us):∀ V,Below w.heap.size w V->Calls Tryz.prog 17 #[.agg #[.slice (some ⟨ge,0,none⟩) es.length ec,.slice (some ⟨gb,0,none⟩) bs.length bc,.slice (some ⟨gq,0,none⟩) ks.length qc,.slice (some ⟨gt,0,none⟩) us.length tc]] V fun e w'=>e=.returned (.bool (okC es bs qs ts))/\Below V.heap.size V w':=fun V hV=>by
 have k:=cb.spec_ok ec bc qc tc F (h.below hV)
 rw [(same_of h).ql,(same_of h).tl]
 exact k
theorem ia_turn {Q Q':List qu.E} {U U':List su.E} (h:IA w w' es bs Q U ge gb gq gt ls us) (hs:cb.Same Q' Q U' U):IA w w' es bs Q' U' ge gb gq gt ls us:=⟨h.ca,same_trans hs h.same,h.bel⟩
theorem sa_turn {Q Q':List qu.E} {U U':List su.E} {ea ba qa ta:Option Addr} (h:SA w w' es bs Q U ea ba qa ta ls us) (hs:cb.Same Q' Q U' U):SA w w' es bs Q' U' ea ba qa ta ls us:=⟨h.se,h.sb,h.q,h.qe,h.t,h.te,same_trans hs h.same,h.bel⟩
end
noncomputable def resQ (es:List Ex) (bs:List Bi) (qs:List qu.E) (ts:List su.E) (n:ByteArray) (st:Bool):List qu.E:=(cqp.res es bs qs ts n st).1
noncomputable def resU (es:List Ex) (bs:List Bi) (qs:List qu.E) (ts:List su.E) (n:ByteArray) (st:Bool):List su.E:=(cqp.res es bs qs ts n st).2.1
noncomputable def resB (es:List Ex) (bs:List Bi) (qs:List qu.E) (ts:List su.E) (n:ByteArray) (st:Bool):Bool:=(cqp.res es bs qs ts n st).2.2
theorem res_ans (es:List Ex) (bs:List Bi) (qs:List qu.E) (ts:List su.E) (n:ByteArray) (st:Bool):cqp.Ans es bs qs ts n st (resQ es bs qs ts n st) (resU es bs qs ts n st) (resB es bs qs ts n st):=cqp.res_ans es bs qs ts n st
theorem okl {es:List Ex} {bs:List Bi} {qs:List qu.E} {ts:List su.E} (h:okC es bs qs ts=true):qs.length <= 20/\ts.length <= 20:=⟨(okC_true.1 h).ql,(okC_true.1 h).tl⟩
theorem res_sm {es:List Ex} {bs:List Bi} {qs:List qu.E} {ts:List su.E} (n:ByteArray) (st:Bool) (h:es.length+bulkE es+bs.length+bulkB bs+qs.length+bulk qu.wt qs+ts.length+bulk su.wt ts <= 1048576):Sm es bs (resQ es bs qs ts n st) (resU es bs qs ts n st):=by
 have h1:=tot_wt qs
 have h2:=tot_wtt ts
 exact cqp.ans_sm (sm_of h) okl (by omega) (by omega) (res_ans es bs qs ts n st)
theorem ups {es:List Ex} {bs:List Bi} {qs:List qu.E} {ts:List su.E} (h:okC es bs qs ts=true):(qs.length <= 20/\ts.length <= 20)/\qu.Up qs qs.length/\su.Up ts ts.length:=⟨okl h,(okC_true.1 h).q.2,(okC_true.1 h).t.2⟩
theorem spec_queue {es:List Ex} {bs:List Bi} {qs ks:List qu.E} {ts us:List su.E} {w:World} {B ge gb gq gt:Nat} (ec bc qc tc:Nat) (xn:ByteArray) (xs:Bool) (F:cb.Fit es bs qs ts) (sxn:xn.size <= 1048576) (h:Cg w B es bs qs ts ge gb gq gt ks us) :
  Calls Tryz.prog 5 #[.agg #[.slice (some ⟨ge,0,none⟩) es.length ec,.slice (some ⟨gb,0,none⟩) bs.length bc,.slice (some ⟨gq,0,none⟩) qs.length qc,.slice (some ⟨gt,0,none⟩) ts.length tc],.string xn,.bool xs] w fun e w'=>∃ sea sba sqa sta sec sbc sqc stc ls vs,e=.returned (.tuple #[.agg #[.slice sea es.length sec,.slice sba bs.length sbc,.slice sqa (resQ es bs qs ts xn xs).length sqc,.slice sta (resU es bs qs ts xn xs).length stc],.bool (resB es bs qs ts xn xs)])/\Hid (SA w w' es bs (resQ es bs qs ts xn xs) (resU es bs qs ts xn xs) sea sba sqa sta ls vs):=by
 have sm:=same_of h
 have F2:=fit_same F sm
 obtain ⟨p1,p2,p3,p4,p5,p6⟩:=parts h
 have hok:=ok_spec ec bc qc tc F h
 simp only [<- ok_same (es:=es) (bs:=bs) sm] at hok
 obtain ⟨K,V,hA,hS⟩:=cqp.ans_same sm (res_ans es bs qs ts xn xs)
 have k:=cqs.spec_queue es bs ks us ge gb gq gt ec bc qc tc xn xs K V _ w F2 sxn p1 p2 p3 p4 p5 p6 hok okl hA
 rw [sm.ql,sm.tl] at k
 refine k.mono ?_
 rintro e w' ⟨sea,sba,sqa,sta,sec,sbc,sqc,stc,ls,vs,rfl,HSA⟩
 exact ⟨sea,sba,sqa,sta,sec,sbc,sqc,stc,ls,vs,by rw [hS.ql,hS.tl],sa_turn HSA.out hS⟩
theorem impl_queue {es:List Ex} {bs:List Bi} {qs ks:List qu.E} {ts us:List su.E} {w:World} {B ge gb gq gt:Nat} (ec bc qc tc:Nat) (xn:ByteArray) (xs:Bool) (F:cb.Fit es bs qs ts) (sxn:xn.size <= 1048576) (h:Cg w B es bs qs ts ge gb gq gt ks us) :
  Calls Tryz.prog 7 #[.agg #[.slice (some ⟨ge,0,none⟩) es.length ec,.slice (some ⟨gb,0,none⟩) bs.length bc,.slice (some ⟨gq,0,none⟩) qs.length qc,.slice (some ⟨gt,0,none⟩) ts.length tc],.string xn,.bool xs] w fun e w'=>∃ ge5 gb5 gq5 gt5 ec5 bc5 qc5 tc5 ls vs,e=.returned (.tuple #[.agg #[.slice (some ⟨ge5,0,none⟩) es.length ec5,.slice (some ⟨gb5,0,none⟩) bs.length bc5,.slice (some ⟨gq5,0,none⟩) (resQ es bs qs ts xn xs).length qc5,.slice (some ⟨gt5,0,none⟩) (resU es bs qs ts xn xs).length tc5],.bool (resB es bs qs ts xn xs)])/\Hid (IA w w' es bs (resQ es bs qs ts xn xs) (resU es bs qs ts xn xs) ge5 gb5 gq5 gt5 ls vs):=by
 have sm:=same_of h
 have F2:=fit_same F sm
 obtain ⟨p1,p2,p3,p4,p5,p6⟩:=parts h
 have hok:=ok_impl ec bc qc tc F h
 simp only [<- ok_same (es:=es) (bs:=bs) sm] at hok
 obtain ⟨K,V,hA,hS⟩:=cqp.ans_same sm (res_ans es bs qs ts xn xs)
 have k:=cqr.impl_queue es bs ks us ge gb gq gt ec bc qc tc xn xs K V _ w F2 sxn p1 p2 p3 p4 p5 p6 hok ups hA
 rw [sm.ql,sm.tl] at k
 refine k.mono ?_
 rintro e w' ⟨g1,g2,g3,g4,e5,b5,q5,t5,ls,vs,rfl,HIA⟩
 exact ⟨g1,g2,g3,g4,e5,b5,q5,t5,ls,vs,by rw [hS.ql,hS.tl],ia_turn HIA.out hS⟩
end Go.Proofs.YtaoefccgdfcchaaGreat.cqw
namespace Go.Proofs.YtaoefccgdfcchaaGreat.lwCoreQueue
open ChangeShapes WideShapes ChangeAt RowKit rc rr ra rt ro fl co cb cn
theorem four {w:World} {b:Nat} {x0 x1 x2 x3:Value} {U:TypeId} (h:w.heap[b]?=some (.cells #[x0,x1,x2,x3] U (0,0))):w.cell? ⟨b,0,none⟩=some x0/\w.cell? ⟨b,1,none⟩=some x1/\w.cell? ⟨b,2,none⟩=some x2/\w.cell? ⟨b,3,none⟩=some x3:=⟨bcell h rfl,bcell h rfl,bcell h rfl,bcell h rfl⟩
structure Base (W:World) (n0 n6:Nat) (es:List Ex) (bs:List Bi) (qs:List qu.E) (ts:List su.E) (ea ba qa ta:Option Addr) (ec bc qc tc:Nat) (Q:List qu.E) (U:List su.E) (sea sba sqa sta:Option Addr) (sec sbc sqc stc:Nat) (ls:List qu.E) (us:List su.E):Prop where
 bx:W.heap[n0]?=some (.cells #[.slice ea es.length ec,.slice ba bs.length bc,.slice qa qs.length qc,.slice ta ts.length tc] 29 (0,0))
 out:W.heap[n6]?=some (.cells #[.slice sea es.length sec,.slice sba bs.length sbc,.slice sqa Q.length sqc,.slice sta U.length stc] 38 (0,0))
 ae:SE W W.heap.size ea es
 ab:SB W W.heap.size ba bs
 aq:qu.V W W.heap.size qa qs
 at_:su.V W W.heap.size ta ts
 se:SE W W.heap.size sea es
 sb:SB W W.heap.size sba bs
 sq:qu.V W W.heap.size sqa ls
 st:su.V W W.heap.size sta us
 same:cb.Same Q ls U us
theorem walk (es:List Ex) (bs:List Bi) (qs:List qu.E) (ts:List su.E) (ea ba qa ta:Option Addr) (ec bc qc tc:Nat) (xn:ByteArray) (xs:Bool) (w:World) (hin:ca.In w es bs qs ts ea ba qa ta) (hxn:xn.size <= maxLen) :
  Calls Tryz.prog 3 #[.agg #[.slice ea es.length ec,.slice ba bs.length bc,.slice qa qs.length qc,.slice ta ts.length tc],.string xn,.bool xs] w fun e w'=>e=.returned (.bool true)/\Below w.heap.size w w':=by
 have hb:=fl.bl w (.cells #[.slice ea es.length ec,.slice ba bs.length bc,.slice qa qs.length qc,.slice ta ts.length tc] 29)
 have hA:=bnew w #[.slice ea es.length ec,.slice ba bs.length bc,.slice qa qs.length qc,.slice ta ts.length tc] 29
 have hlt:w.heap.size < (w.alloc (.cells #[.slice ea es.length ec,.slice ba bs.length bc,.slice qa qs.length qc,.slice ta ts.length tc] 29)).heap.size:=by simp
 obtain ⟨W,hW⟩:∃ W,w.alloc (.cells #[.slice ea es.length ec,.slice ba bs.length bc,.slice qa qs.length qc,.slice ta ts.length tc] 29)=W:=⟨_,rfl⟩
 rw [hW] at hb hA hlt
 have HSE:Hid (SE W W.heap.size ea es/\SB W W.heap.size ba bs/\qu.V W W.heap.size qa qs/\su.V W W.heap.size ta ts):=⟨rl.SE.inn hin.se hb,rl.SB.inn hin.sb hb,hin.q.inn hb,hin.t.inn hb⟩
 have hsz:=sz_core es bs qs ts ea ba qa ta ec bc qc tc W hin.el hin.bl hin.ql hin.tl hin.eo hin.bo (fun e he=>(hin.qo e he).ok) (fun e he=>(hin.to e he).ok) HSE.out.1 HSE.out.2.1 HSE.out.2.2.1 HSE.out.2.2.2
 have HA:Hid (W.heap[w.heap.size]?=some (.cells #[.slice ea es.length ec,.slice ba bs.length bc,.slice qa qs.length qc,.slice ta ts.length tc] 29 (0,0))):=hA
 obtain ⟨c0,c1,c2,c3⟩:=four hA
 clear hA hin
 have hxn':xn.size <= 9223372036854775807:=hxn
 by_cases bigxn:1048576 < xn.size
 ·have hbi:(1048576:Int) < (xn.size:Int):=by omega
  go_enter Tryz.func3,Tryz.ntmps3
  go_wp2
  go_ret
  exact ⟨rfl,hb⟩
 have hbixn:¬ (1048576:Int) < (xn.size:Int):=by omega
 have sxn:xn.size <= 1048576:=by omega
 go_enter Tryz.func3,Tryz.ntmps3
 go_wp2_with (go_at_call 4; fail)
 clear hW
 refine hsz.mono ?_
 rintro e w1 ⟨r,rfl,hr,hb1⟩
 by_cases hneg:r < 0
 ·go_wp2
  go_ret
  exact ⟨rfl,hb.trans (hb1.mono hb.size)⟩
 have F:Hid (cb.Fit es bs qs ts):=fit (hr (by omega))
 have FX:Hid ((∀ e ∈ qs,e.rs.length <= 1048576/\e.hs.length <= 1048576)/\(∀ e ∈ ts,e.rs.length <= 1048576/\e.hs.length <= 1048576)):=⟨fun e he=>⟨(F.out.qf e he).el,(F.out.qf e he).ml⟩,fun e he=>⟨(F.out.tf e he).el,(F.out.tf e he).ml⟩⟩
 obtain ⟨d0,d1,d2,d3⟩:=four (bstay HA.out hb1 hlt)
 have ht2:=to_core es bs qs ts ea ba qa ta ec bc qc tc w1 F.out.el F.out.bl F.out.ql F.out.tl FX.out.1 FX.out.2 (rl.SE.inn HSE.out.1 hb1) (rl.SB.inn HSE.out.2.1 hb1) (HSE.out.2.2.1.inn hb1) (HSE.out.2.2.2.inn hb1)
 have hr0:(0:Int) <= r:=by omega
 have HSX:Hid (Sm es bs qs ts):=sm_of (hr (by omega))
 obtain ⟨U,hU0⟩:∃ y,cqw.resU es bs qs ts xn xs=y:=⟨_,rfl⟩
 have HU:Hid (∀ _:Unit,cqw.resU es bs qs ts xn xs=U):=fun _=>hU0
 obtain ⟨Q,hQ0⟩:∃ y,cqw.resQ es bs qs ts xn xs=y:=⟨_,rfl⟩
 have HQ:Hid (∀ _:Unit,cqw.resQ es bs qs ts xn xs=Q):=fun _=>hQ0
 have HSM:Hid (Sm es bs Q U):=by have:=cqw.res_sm xn xs (hr (by omega)); rw [HQ.out (),HU.out ()] at this; exact this
 obtain ⟨ok,hok0⟩:∃ y,cqw.resB es bs qs ts xn xs=y:=⟨_,rfl⟩
 have HOK:Hid (∀ _:Unit,cqw.resB es bs qs ts xn xs=ok):=fun _=>hok0
 clear hsz hr c0 c1 c2 c3 hQ0 hok0 hU0
 go_wp2_with (go_at_call 6; fail)
 refine ht2.mono ?_
 rintro e w2 ⟨ge2,gb2,gq2,gt2,ks2,us2,rfl,co2,hb2⟩
 have hsp:=cqw.spec_queue es.length bs.length qs.length ts.length xn xs F.out sxn co2.g
 simp only [HQ.out (),HU.out (),HOK.out ()] at hsp
 have hB2:=fl.bt hb1 hb2
 clear ht2 d0 d1 d2 d3 co2
 go_wp2_with (go_at_call 5; fail)
 refine hsp.mono ?_
 rintro e w3 ⟨sea,sba,sqa,sta,sec,sbc,sqc,stc,ls3,us3,rfl,HSA⟩
 have hb3:=HSA.out.bel
 have hB3:=fl.bt hB2 hb3
 have hal3:=fl.bl w3 (.cells #[.slice sea es.length sec,.slice sba bs.length sbc,.slice sqa Q.length sqc,.slice sta U.length stc] 38)
 have hBW:Below W.heap.size W (w3.alloc (.cells #[.slice sea es.length sec,.slice sba bs.length sbc,.slice sqa Q.length sqc,.slice sta U.length stc] 38)):=hB3.trans (hal3.mono hB3.size)
 have hBase:Base (w3.alloc (.cells #[.slice sea es.length sec,.slice sba bs.length sbc,.slice sqa Q.length sqc,.slice sta U.length stc] 38)) w.heap.size w3.heap.size es bs qs ts ea ba qa ta ec bc qc tc Q U sea sba sqa sta sec sbc sqc stc ls3 us3 :=
  ⟨bstay HA.out hBW hlt,bnew w3 _ _,rl.SE.inn HSE.out.1 hBW,rl.SB.inn HSE.out.2.1 hBW,HSE.out.2.2.1.inn hBW,HSE.out.2.2.2.inn hBW,rl.SE.inn HSA.out.rows.1 hal3,rl.SB.inn HSA.out.rows.2.1 hal3,HSA.out.rows.2.2.1.inn hal3,HSA.out.rows.2.2.2.inn hal3,HSA.out.same⟩
 obtain ⟨W3,hW3⟩:∃ W3,w3.alloc (.cells #[.slice sea es.length sec,.slice sba bs.length sbc,.slice sqa Q.length sqc,.slice sta U.length stc] 38)=W3:=⟨_,rfl⟩
 rw [hW3] at hBW hBase
 have HBS:Hid (Base W3 w.heap.size w3.heap.size es bs qs ts ea ba qa ta ec bc qc tc Q U sea sba sqa sta sec sbc sqc stc ls3 us3):=hBase
 have hlt3:w.heap.size < W3.heap.size:=Nat.lt_of_lt_of_le hlt hBW.size
 have hlt6:w3.heap.size < W3.heap.size:=(Array.getElem?_eq_some_iff.1 hBase.out).1
 have hbw3:=fl.bt hb hBW
 obtain ⟨d0,d1,d2,d3⟩:=four HBS.out.bx
 have ht4:=to_core es bs qs ts ea ba qa ta ec bc qc tc W3 F.out.el F.out.bl F.out.ql F.out.tl FX.out.1 FX.out.2 HBS.out.ae HBS.out.ab HBS.out.aq HBS.out.at_
 clear hsp hBase hb1 hb2 hb3 hB2 hB3 hal3 hBW HSE HA HSA
 go_wp2_with (go_at_call 6; fail)
 clear hW3
 refine ht4.mono ?_
 rintro e w4 ⟨ge4,gb4,gq4,gt4,ks4,us4,rfl,co4,hb4⟩
 have hal4:=fl.bl w4 (.cells #[.slice (some ⟨ge4,0,none⟩) es.length es.length,.slice (some ⟨gb4,0,none⟩) bs.length bs.length,.slice (some ⟨gq4,0,none⟩) qs.length qs.length,.slice (some ⟨gt4,0,none⟩) ts.length ts.length] 38)
 have hx7:=bnew w4 #[.slice (some ⟨ge4,0,none⟩) es.length es.length,.slice (some ⟨gb4,0,none⟩) bs.length bs.length,.slice (some ⟨gq4,0,none⟩) qs.length qs.length,.slice (some ⟨gt4,0,none⟩) ts.length ts.length] 38
 have cg4:Cg (w4.alloc (.cells #[.slice (some ⟨ge4,0,none⟩) es.length es.length,.slice (some ⟨gb4,0,none⟩) bs.length bs.length,.slice (some ⟨gq4,0,none⟩) qs.length qs.length,.slice (some ⟨gt4,0,none⟩) ts.length ts.length] 38)) W3.heap.size es bs qs ts ge4 gb4 gq4 gt4 ks4 us4:=co4.g.below hal4
 have hhi4:∀ k,coB ks4 us4 ge4 gb4 gq4 gt4 k->k < w4.heap.size:=fun k hk=>ca_hi co4.g.a hk
 obtain ⟨W4,hW4⟩:∃ W4,w4.alloc (.cells #[.slice (some ⟨ge4,0,none⟩) es.length es.length,.slice (some ⟨gb4,0,none⟩) bs.length bs.length,.slice (some ⟨gq4,0,none⟩) qs.length qs.length,.slice (some ⟨gt4,0,none⟩) ts.length ts.length] 38)=W4:=⟨_,rfl⟩
 have hW4s:w4.heap.size < W4.heap.size:=by rw [<- hW4]; simp
 rw [hW4] at hal4 hx7 cg4
 have hB4:=fl.bt hb4 hal4
 have him:=cqw.impl_queue es.length bs.length qs.length ts.length xn xs F.out sxn cg4
 simp only [HQ.out (),HU.out (),HOK.out ()] at him
 obtain ⟨x0,x1,x2,x3⟩:=four hx7
 have HX7:Hid (W4.heap[w4.heap.size]?=some (.cells #[.slice (some ⟨ge4,0,none⟩) es.length es.length,.slice (some ⟨gb4,0,none⟩) bs.length bs.length,.slice (some ⟨gq4,0,none⟩) qs.length qs.length,.slice (some ⟨gt4,0,none⟩) ts.length ts.length] 38 (0,0))):=hx7
 have HC4:Hid (Cg W4 W3.heap.size es bs qs ts ge4 gb4 gq4 gt4 ks4 us4):=cg4
 have HHI:Hid (∀ k,coB ks4 us4 ge4 gb4 gq4 gt4 k->k < w4.heap.size):=hhi4
 clear ht4 d0 d1 d2 d3 co4 cg4 hx7 hal4 hhi4
 go_wp2_with (go_at_call 7; fail)
 clear hW4
 refine him.mono ?_
 rintro e w5 ⟨ge5,gb5,gq5,gt5,ec5,bc5,qc5,tc5,ls5,us5,rfl,HIA⟩
 have hb5:=HIA.out.bel
 have hal5:=fl.bl w5 (.cells #[.slice (some ⟨ge5,0,none⟩) es.length ec5,.slice (some ⟨gb5,0,none⟩) bs.length bc5,.slice (some ⟨gq5,0,none⟩) Q.length qc5,.slice (some ⟨gt5,0,none⟩) U.length tc5] 38)
 have hx8:=bnew w5 #[.slice (some ⟨ge5,0,none⟩) es.length ec5,.slice (some ⟨gb5,0,none⟩) bs.length bc5,.slice (some ⟨gq5,0,none⟩) Q.length qc5,.slice (some ⟨gt5,0,none⟩) U.length tc5] 38
 have ca5:Ca (w5.alloc (.cells #[.slice (some ⟨ge5,0,none⟩) es.length ec5,.slice (some ⟨gb5,0,none⟩) bs.length bc5,.slice (some ⟨gq5,0,none⟩) Q.length qc5,.slice (some ⟨gt5,0,none⟩) U.length tc5] 38)) W4.heap.size es bs ls5 us5 ge5 gb5 gq5 gt5:=HIA.out.ca.on hal5
 have HHI5:Hid (∀ k,coB ls5 us5 ge5 gb5 gq5 gt5 k->k < w5.heap.size):=fun k hk=>ca_hi HIA.out.ca hk
 have HS5:Hid (cb.Same Q ls5 U us5):=HIA.out.same
 obtain ⟨W5,hW5⟩:∃ W5,w5.alloc (.cells #[.slice (some ⟨ge5,0,none⟩) es.length ec5,.slice (some ⟨gb5,0,none⟩) bs.length bc5,.slice (some ⟨gq5,0,none⟩) Q.length qc5,.slice (some ⟨gt5,0,none⟩) U.length tc5] 38)=W5:=⟨_,rfl⟩
 have hW5s:w5.heap.size < W5.heap.size:=by rw [<- hW5]; simp
 rw [hW5] at hal5 hx8 ca5
 have hB45:=fl.bt hb5 hal5
 have hs45:=hB45.size
 have hs5:=hb5.size
 have hs34:=hB4.size
 have hB5:Below W3.heap.size W3 W5:=hB4.trans (hB45.mono hs34)
 have heq5:=eq_ans W5 sea sba sqa sta ec5 bc5 qc5 tc5 sec sbc sqc stc HSM.out ca5 HS5.out (rl.SE.inn HBS.out.se hB5) (rl.SB.inn HBS.out.sb hB5) (HBS.out.sq.inn hB5) (HBS.out.st.inn hB5) HBS.out.same
 obtain ⟨x0,x1,x2,x3⟩:=four hx8
 obtain ⟨o0,o1,o2,o3⟩:=four (bstay HBS.out.out hB5 hlt6)
 have HX8:Hid (W5.heap[w5.heap.size]?=some (.cells #[.slice (some ⟨ge5,0,none⟩) es.length ec5,.slice (some ⟨gb5,0,none⟩) bs.length bc5,.slice (some ⟨gq5,0,none⟩) Q.length qc5,.slice (some ⟨gt5,0,none⟩) U.length tc5] 38 (0,0))):=hx8
 have HC5:Hid (Ca W5 W4.heap.size es bs ls5 us5 ge5 gb5 gq5 gt5):=ca5
 clear him ca5 hx8 hal5 HIA
 go_wp2_with (go_at_call 8; fail)
 clear hW5
 refine heq5.mono ?_
 rintro e w6 ⟨rfl,hb6⟩
 have hs6:=hb6.size
 have hB6:=fl.bt hB5 hb6
 have hB46:Below W4.heap.size W4 w6:=hB45.trans (hb6.mono hs45)
 obtain ⟨d0,d1,d2,d3⟩:=four (bstay HBS.out.bx hB6 hlt3)
 have x7:=bstay HX7.out hB46 hW4s
 obtain ⟨y0,y1,y2,y3⟩:=four x7
 have HY6:Hid (w6.heap[w4.heap.size]?=some (.cells #[.slice (some ⟨ge4,0,none⟩) es.length es.length,.slice (some ⟨gb4,0,none⟩) bs.length bs.length,.slice (some ⟨gq4,0,none⟩) qs.length qs.length,.slice (some ⟨gt4,0,none⟩) ts.length ts.length] 38 (0,0))):=x7
 have HC6:Hid (Cg w6 W3.heap.size es bs qs ts ge4 gb4 gq4 gt4 ks4 us4):=HC4.out.below hB46
 have hn7:w4.heap.size < w6.heap.size:=by omega
 have ht7:=to_core es bs qs ts ea ba qa ta ec bc qc tc w6.drew F.out.el F.out.bl F.out.ql F.out.tl FX.out.1 FX.out.2 (rl.SE.inn HBS.out.ae hB6.drew) (rl.SB.inn HBS.out.ab hB6.drew) (HBS.out.aq.inn hB6.drew) (HBS.out.at_.inn hB6.drew)
 clear heq5 x0 x1 x2 x3 o0 o1 o2 o3 x7
 go_wp2
 go_region_with (first | (go_at_call 6; refine ht7.mono ?_; rintro e w7 ⟨ge7,gb7,gq7,gt7,ks7,us7,rfl,co7,hb7⟩; have hb7':Below w6.heap.size w6 w7:=(Below.drew (Below.refl _ w6)).trans hb7; obtain ⟨⟨q50,q51,q52,q53⟩,heq⟩:=lwCoreOk.step6 F.out hb7' hn7 HY6.out HC6.out co7.g; clear co7) | (go_at_call 8; refine heq.mono ?_; rintro e w8 ⟨rfl,hb8⟩))
 all_goals
  have hb68:Below w6.heap.size w6 w8:=hb7'.trans (hb8.mono hb7'.size)
  have hB8:=fl.bt hB6 hb68
  have hB58:Below W5.heap.size W5 w8:=hb6.trans (hb68.mono hs6)
  have hs8:=hB58.size
  obtain ⟨y0,y1,y2,y3⟩:=four (bstay HY6.out hb68 hn7)
  have hmk:=mark_ans w8 es.length bs.length qs.length ts.length HSX.out (HC6.out.below hb68).a (same_of HC6.out)
  have HX88:Hid (w8.heap[w5.heap.size]?=some (.cells #[.slice (some ⟨ge5,0,none⟩) es.length ec5,.slice (some ⟨gb5,0,none⟩) bs.length bc5,.slice (some ⟨gq5,0,none⟩) Q.length qc5,.slice (some ⟨gt5,0,none⟩) U.length tc5] 38 (0,0))):=bstay HX8.out hB58 hW5s
  have HC58:Hid (Ca w8 W4.heap.size es bs ls5 us5 ge5 gb5 gq5 gt5):=HC5.out.on hB58
  have HLO:Hid (∀ k,coB ks4 us4 ge4 gb4 gq4 gt4 k->W3.heap.size <= k):=fun k hk=>HC6.out.a.low hk
  clear hb7' hb7 hb8 ht7 heq q50 q51 q52 q53 d0 d1 d2 d3 hb68 hb6 HY6 HC6 hB6 hB46 hB5 hB45 hb5 hb4 hB4
  go_wp2_with (go_at_call 9; fail)
  refine hmk.mono ?_
  rintro e w9 ⟨rfl,htn,_⟩
  have hs9:=htn.size
  obtain ⟨kk,hkk⟩:∃ kk:Nat,1+2*es.length+bs.length*3+qu.tot ks4+su.tot us4=kk:=⟨_,rfl⟩
  rw [hkk]
  have hk0:decide ((kk:Int) < 0)=false:=by simp
  have hB9:Below W3.heap.size W3 w9:=hB8.trans (htn.below hB8.size (fun k hk=>HLO.out k hk))
  have b9:w9.heap[w5.heap.size]?=some (.cells #[.slice (some ⟨ge5,0,none⟩) es.length ec5,.slice (some ⟨gb5,0,none⟩) bs.length bc5,.slice (some ⟨gq5,0,none⟩) Q.length qc5,.slice (some ⟨gt5,0,none⟩) U.length tc5] 38 (0,0)):=(htn.block _ (by omega) (fun hk=>by have:=HHI.out _ hk; omega)).trans HX88.out
  have c9:Ca w9 W4.heap.size es bs ls5 us5 ge5 gb5 gq5 gt5:=ca_kept HC58.out htn (fun k hk=>by have:=HHI.out k hk; omega)
  have heq9:=eq_ans w9 sea sba sqa sta ec5 bc5 qc5 tc5 sec sbc sqc stc HSM.out c9 HS5.out (rl.SE.inn HBS.out.se hB9) (rl.SB.inn HBS.out.sb hB9) (HBS.out.sq.inn hB9) (HBS.out.st.inn hB9) HBS.out.same
  obtain ⟨x0,x1,x2,x3⟩:=four b9
  obtain ⟨o0,o1,o2,o3⟩:=four (bstay HBS.out.out hB9 hlt6)
  have HX9:Hid (w9.heap[w5.heap.size]?=some (.cells #[.slice (some ⟨ge5,0,none⟩) es.length ec5,.slice (some ⟨gb5,0,none⟩) bs.length bc5,.slice (some ⟨gq5,0,none⟩) Q.length qc5,.slice (some ⟨gt5,0,none⟩) U.length tc5] 38 (0,0))):=b9
  have HC9:Hid (Ca w9 W4.heap.size es bs ls5 us5 ge5 gb5 gq5 gt5):=c9
  have hlt9:w5.heap.size < w9.heap.size:=by omega
  clear hkk hmk y0 y1 y2 y3 b9 c9 htn HX88 HC58 hB8 hB58
  go_wp2_with (go_at_call 8; fail)
  refine heq9.mono ?_
  rintro e w10 ⟨rfl,hb10⟩
  have hB10:=fl.bt hB9 hb10
  have hs10:=hb10.size
  have b10:=bstay HX9.out hb10 hlt9
  obtain ⟨p0,p1,p2,p3⟩:=four b10
  have HX10:Hid (w10.heap[w5.heap.size]?=some (.cells #[.slice (some ⟨ge5,0,none⟩) es.length ec5,.slice (some ⟨gb5,0,none⟩) bs.length bc5,.slice (some ⟨gq5,0,none⟩) Q.length qc5,.slice (some ⟨gt5,0,none⟩) U.length tc5] 38 (0,0))):=b10
  have HC10:Hid (Ca w10 W4.heap.size es bs ls5 us5 ge5 gb5 gq5 gt5):=HC9.out.on hb10
  have hmk:=mark_ans w10 ec5 bc5 qc5 tc5 HSM.out HC10.out HS5.out
  clear heq9 x0 x1 x2 x3 o0 o1 o2 o3 b10 hb10 HX9 HC9 hB9
  go_wp2_with (go_at_call 9; fail)
  refine hmk.mono ?_
  rintro e w11 ⟨rfl,htn,cm11⟩
  have hs11:=htn.size
  have hB11:Below W3.heap.size W3 w11:=hB10.trans (htn.below hB10.size (fun k hk=>by have:=HC10.out.low hk; omega))
  have b11:w11.heap[w5.heap.size]?=some (.cells #[.slice (some ⟨ge5,0,none⟩) es.length ec5,.slice (some ⟨gb5,0,none⟩) bs.length bc5,.slice (some ⟨gq5,0,none⟩) Q.length qc5,.slice (some ⟨gt5,0,none⟩) U.length tc5] 38 (0,0)):=(htn.block _ (by omega) (fun hk=>by have:=HHI5.out _ hk; omega)).trans HX10.out
  have HCM:Hid (Cm w11 W4.heap.size es bs ls5 us5 ge5 gb5 gq5 gt5):=cm11
  have hhd:=held_ans w11 ec5 bc5 qc5 tc5 HSM.out HCM.out HS5.out
  obtain ⟨mm,hmm⟩:∃ mm:Nat,1+2*es.length+bs.length*3+qu.tot ls5+su.tot us5=mm:=⟨_,rfl⟩
  rw [hmm] at hhd ⊢
  have HMM:Hid (1+2*es.length+bs.length*3+qu.tot ls5+su.tot us5=mm):=hmm
  have hm0:decide ((mm:Int) < 0)=false:=by simp
  obtain ⟨x0,x1,x2,x3⟩:=four b11
  have HX11:Hid (w11.heap[w5.heap.size]?=some (.cells #[.slice (some ⟨ge5,0,none⟩) es.length ec5,.slice (some ⟨gb5,0,none⟩) bs.length bc5,.slice (some ⟨gq5,0,none⟩) Q.length qc5,.slice (some ⟨gt5,0,none⟩) U.length tc5] 38 (0,0))):=b11
  have hlt11:w5.heap.size < w11.heap.size:=by omega
  clear hmk p0 p1 p2 p3 b11 cm11 htn hmm HX10 hB10 HC10
  go_wp2_with (go_at_call 10; fail)
  refine hhd.mono ?_
  rintro e w12 ⟨rfl,hb12⟩
  have hs12:=hb12.size
  have hB12:=fl.bt hB11 hb12
  obtain ⟨d0,d1,d2,d3⟩:=four (bstay HBS.out.bx hB12 hlt3)
  have ht13:=to_core es bs qs ts ea ba qa ta ec bc qc tc w12 F.out.el F.out.bl F.out.ql F.out.tl FX.out.1 FX.out.2 (rl.SE.inn HBS.out.ae hB12) (rl.SB.inn HBS.out.ab hB12) (HBS.out.aq.inn hB12) (HBS.out.at_.inn hB12)
  clear hhd x0 x1 x2 x3
  go_wp2_with (go_at_call 6; fail)
  refine ht13.mono ?_
  rintro e w13 ⟨ge13,gb13,gq13,gt13,ks13,us13,rfl,co13,hb13⟩
  have him:=cqw.impl_queue es.length bs.length qs.length ts.length xn xs F.out sxn co13.g
  simp only [HQ.out (),HU.out (),HOK.out ()] at him
  have hB13:Below w11.heap.size w11 w13:=hb12.trans (hb13.mono hs12)
  clear ht13 d0 d1 d2 d3 co13 hb13 hb12 hB12
  go_wp2_with (go_at_call 7; fail)
  refine him.mono ?_
  rintro e w14 ⟨gex,gbx,gqx,gtx,ecx,bcx,qcx,tcx,lsx,usx,rfl,HIX⟩
  have hb14:=HIX.out.bel
  have hal14:=fl.bl w14 (.cells #[.slice (some ⟨gex,0,none⟩) es.length ecx,.slice (some ⟨gbx,0,none⟩) bs.length bcx,.slice (some ⟨gqx,0,none⟩) Q.length qcx,.slice (some ⟨gtx,0,none⟩) U.length tcx] 38)
  have hx12:=bnew w14 #[.slice (some ⟨gex,0,none⟩) es.length ecx,.slice (some ⟨gbx,0,none⟩) bs.length bcx,.slice (some ⟨gqx,0,none⟩) Q.length qcx,.slice (some ⟨gtx,0,none⟩) U.length tcx] 38
  have cx:=HIX.out.ca.on hal14
  obtain ⟨W14,hW14⟩:∃ W14,w14.alloc (.cells #[.slice (some ⟨gex,0,none⟩) es.length ecx,.slice (some ⟨gbx,0,none⟩) bs.length bcx,.slice (some ⟨gqx,0,none⟩) Q.length qcx,.slice (some ⟨gtx,0,none⟩) U.length tcx] 38)=W14:=⟨_,rfl⟩
  rw [hW14] at hal14 hx12 cx
  have hB14:Below w11.heap.size w11 W14:=(hB13.trans (hb14.mono hB13.size)).trans (hal14.mono (by have:=hb14.size; have:=hB13.size; omega))
  have hB314:=fl.bt hB11 hB14
  have heq14:=eq_ans W14 sea sba sqa sta ecx bcx qcx tcx sec sbc sqc stc HSM.out cx HIX.out.same (rl.SE.inn HBS.out.se hB314) (rl.SB.inn HBS.out.sb hB314) (HBS.out.sq.inn hB314) (HBS.out.st.inn hB314) HBS.out.same
  obtain ⟨x0,x1,x2,x3⟩:=four hx12
  obtain ⟨o0,o1,o2,o3⟩:=four (bstay HBS.out.out hB314 hlt6)
  clear him cx hx12 hal14 hb14 hB13 HIX
  go_wp2_with (go_at_call 8; fail)
  clear hW14
  refine heq14.mono ?_
  rintro e w15 ⟨rfl,hb15⟩
  have hB15:=fl.bt hB14 hb15
  obtain ⟨p0,p1,p2,p3⟩:=four (bstay HX11.out hB15 hlt11)
  have hhd:=held_ans w15 ec5 bc5 qc5 tc5 HSM.out (HCM.out.on hB15) HS5.out
  rw [HMM.out] at hhd
  clear heq14 x0 x1 x2 x3 o0 o1 o2 o3
  go_wp2_with (go_at_call 10; fail)
  refine hhd.mono ?_
  rintro e w16 ⟨rfl,hb16⟩
  have hB16:=fl.bt hB15 hb16
  have hfin:Below w.heap.size w w16:=hbw3.trans ((hB11.trans (hB16.mono hB11.size)).mono hbw3.size)
  clear hhd p0 p1 p2 p3
  go_wp2
  go_ret
  exact ⟨rfl,hfin⟩
end Go.Proofs.YtaoefccgdfcchaaGreat.lwCoreQueue
