/- QDropSpecM, NackKit, RegionTurn, ChainTurn. -/
import Derived.Test.YteoojodkkjepeaaGreatKn33
import Derived.Test.YteoojodkkjepeaaGreatKn01
import Derived.Test.YteoojodkkjepeaaGreatKn42
import Derived.Test.YteoojodkkjepeaaGreatKn34
import Derived.Test.YteoojodkkjepeaaGreatKn10
import Derived.Test.YteoojodkkjepeaaGreatKn41
set_option maxRecDepth 100000
set_option maxHeartbeats 8000000
set_option linter.unusedVariables false
namespace Go.Proofs.YteoojodkkjepeaaGreat.qdm
open ChangeShapes WideShapes ChangeAt RowKit fl qsp qdp qts qds
theorem owns_ownO {α:Type}{c:α->List Value}{n B g cap:Nat}{U:TypeId}{l:List α}{w:World}(hn:∀ e,(c e).length=n)(ho:w.ownsRow B U n (.slice (some ⟨g,0,none⟩) l.length cap) l.length (l.flatMap c)):fo.OwnO c n U w g 0 l l.length/\B <= g:=by
 obtain⟨_,⟨h1,_⟩ | ⟨g',cap',cur,h1,h2,h3,h4,h5,h6,h7⟩⟩:=ho
 ·cases h1
 cases h1
 refine⟨⟨cur,h3,by rw [h6,Nat.zero_add];exact Nat.mul_le_mul_right n h4,fun i e hi he j v hv=>?_⟩,h2⟩
 have hf:=flat_at hn l i e he j v hv
 rw [<- h7] at hf
 have hlt:=(List.getElem?_eq_some_iff.1 hf).1
 rw [List.length_take] at hlt
 rw [List.getElem?_take_of_lt (by omega)] at hf
 rw [Nat.zero_add,<- Array.getElem?_toList]
 exact hf
theorem own_mine {α:Type}{c:α->List Value}{n B B' g cap:Nat}{U:TypeId}{l:List α}{w:World}(hn:∀ e,(c e).length=n)(ho:w.ownsRow B U n (.slice (some ⟨g,0,none⟩) l.length cap) l.length (l.flatMap c))(hB:B' <= B):fo.Mine c n U w B' (some ⟨g,0,none⟩) l:=by
 obtain⟨h1,h2⟩:=owns_ownO hn ho
 exact .inr ⟨g,0,rfl,by omega,h1⟩
theorem fin_mine {α:Type}{c:α->List Value}{n B g cap:Nat}{U:TypeId}{l:List α}{w:World}{x0 x2 x3 x4:Value}(hn:∀ e,(c e).length=n)(h:w.ownsRow (B+2) U n (.slice (some ⟨g,0,none⟩) l.length cap) l.length (l.flatMap c)) :
  fo.Mine c n U (res5 w (B+1) x0 x2 x3 x4) B (some ⟨g,0,none⟩) l:=by
 have hb:=(owns_at h).1
 exact own_mine hn (owns_set (owns_set (owns_set (owns_set h (b:=B+1) (o:=0) (by omega) x0) (b:=B+1) (o:=1) (by omega) x2) (b:=B+1) (o:=2) (by omega) x3) (b:=B+1) (o:=3) (by omega) x4) (by omega)
theorem fin_allM {w:World}{B B' b:Nat}{ub:Option Addr}{uc:Nat}{x0 x2 x3 x4:Value}{l:List flH.Hd}(h:All w B (.slice ub l.length uc) l)(hb:b<B)(hB:B' <= B):fo.Mine flH.c 7 102 (res5 w b x0 x2 x3 x4) B' ub l:=by
 rcases all_set (o:=3) (u:=x4) (all_set (o:=2) (u:=x3) (all_set (o:=1) (u:=x2) (all_set (o:=0) (u:=x0) h hb) hb) hb) hb with⟨h1,_⟩ | ⟨g,cap,e,ho⟩
 ·exact .inl h1
 ·cases e
  exact own_mine flH.c_len ho hB
theorem spec_dropM (sn:ByteArray)(nx:Int)(es:List flM.Ms)(ms:List flH.Hd)(g h cg ch:Nat)(o t:Int)(a:Bool)(w:World)(F:Fit sn es ms)(hY:Row flM.c 5 w w.heap.size (some ⟨g,0,none⟩) es)(hE:Row flH.c 7 w w.heap.size (some ⟨h,0,none⟩) ms) :
  Calls Tryz.prog 70 #[.agg #[.string sn,.int .i64 nx,.slice (some ⟨g,0,none⟩) es.length cg,.slice (some ⟨h,0,none⟩) ms.length ch],.int .i64 o,.int .i64 t,.bool a] w fun e w'=>∃ sa ce sb cb,e=.returned (.tuple #[.agg #[.string sn,.int .i64 nx,.slice sa es.length ce,.slice sb (ansH sn nx es ms o t a).length cb],.int .i64 (ansC sn nx es ms o t a)])/\fo.Mine flM.c 5 48 w' w.heap.size sa es/\fo.Mine flH.c 7 102 w' w.heap.size sb (ansH sn nx es ms o t a)/\Below w.heap.size w w':=by
 have hWb:Below w.heap.size w ((w.alloc (.cells #[.string sn,.int .i64 nx,.slice (some ⟨g,0,none⟩) es.length cg,.slice (some ⟨h,0,none⟩) ms.length ch] 68)).alloc (.cells #[.string ⟨#[]⟩,.int .i64 0,.slice none 0 0,.slice none 0 0] 68)):=((Below.refl _ _).alloc (Nat.le_refl _) _).alloc (by simp) _
 have hcopy:=spec_copy sn nx es ms g h cg ch ((w.alloc (.cells #[.string sn,.int .i64 nx,.slice (some ⟨g,0,none⟩) es.length cg,.slice (some ⟨h,0,none⟩) ms.length ch] 68)).alloc (.cells #[.string ⟨#[]⟩,.int .i64 0,.slice none 0 0,.slice none 0 0] 68)) F (hY.inn hWb) (hE.inn hWb)
 have HF:Hid (Fit sn es ms):=F
 have HY:Hid (Row flM.c 5 w w.heap.size (some ⟨g,0,none⟩) es):=hY
 have HE:Hid (Row flH.c 7 w w.heap.size (some ⟨h,0,none⟩) ms):=hE
 have HAH:Hid (ansH sn nx es ms o t a=if okB sn nx es ms=true then left o t a ms else ms):=rfl
 have HAC:Hid (ansC sn nx es ms o t a=if okB sn nx es ms=true then ((gone o t a ms).length:Int) else 0):=rfl
 obtain⟨AH,hAH⟩:∃ AH,ansH sn nx es ms o t a=AH:=⟨_,rfl⟩
 obtain⟨AC,hAC⟩:∃ AC,ansC sn nx es ms o t a=AC:=⟨_,rfl⟩
 rw [hAH] at HAH
 rw [hAC] at HAC
 simp only [hAH,hAC]
 clear hY hE F hAH hAC
 go_enter Tryz.func70,Tryz.ntmps70
 go_wp2_with (go_at_call 115;fail)
 refine hcopy.mono ?_
 rintro e w1 ⟨g1,c1,h1,c2,rfl,oe1,om1,_,hb1⟩
 have hs:=first_out sn nx es ms g h cg ch w w1 g1 c1 h1 c2 hb1 oe1 om1
 obtain⟨X,hX⟩:∃ X,w1.alloc (.cells #[.string sn,.int .i64 nx,.slice (some ⟨g1,0,none⟩) es.length c1,.slice (some ⟨h1,0,none⟩) ms.length c2] 68)=X:=⟨_,rfl⟩
 rw [hX] at hs
 have HSP:Hid (SP w sn nx es ms g h cg ch w1.heap.size nx g1 c1 h1 c2 es X):=hs
 obtain⟨x0,x2,x3,x4⟩:=fl.q4 hs.box
 have hok:=spec_okb sn nx es ms g h cg ch X HF.out (HY.out.inn hs.bel) (HE.out.inn hs.bel)
 clear hcopy oe1 om1 hb1 hWb hs
 cases hob:okB sn nx es ms with
 | false =>
  rw [hob] at hok HAH HAC
  obtain rfl:ms=AH:=HAH.out.symm
  obtain rfl:(0:Int)=AC:=HAC.out.symm
  go_wp2_with (go_at_call 33;fail)
  clear hX
  refine hok.mono ?_
  rintro e w2 ⟨rfl,hb2⟩
  have hs:=HSP.out.on hb2
  have HS2:Hid (SP w sn nx es ms g h cg ch w1.heap.size nx g1 c1 h1 c2 es w2):=hs
  obtain⟨n0,n2,n3,n4⟩:=fl.q4 hs.out
  obtain⟨z0,z2,z3,z4⟩:=fl.q4 hs.res
  obtain⟨z0f,z2f,z3f,z4f⟩:=fl.r4 hs.res
  clear hok hs HSP x0 x2 x3 x4
  go_wp2
  refine bodyPost_ret (v:=.tuple #[.agg #[.string sn,.int .i64 nx,.slice (some ⟨g1,0,none⟩) es.length c1,.slice (some ⟨h1,0,none⟩) ms.length c2],.int .i64 0]) (by simp [results,Tryz.results70,go_sem,z0,z2,z3,z4]) rfl ⟨_,_,_,_,rfl,?_,?_,?_⟩
  ·exact fin_mine flM.c_len HS2.out.oe
  ·exact fin_mine flH.c_len HS2.out.om
  ·exact fin_below HS2.out.bel (Nat.le_succ _)
 | true =>
  rw [hob] at hok HAH HAC
  go_wp2_with (go_at_call 33;fail)
  clear hX
  refine hok.mono ?_
  rintro e w2 ⟨rfl,hb2⟩
  have hs:=HSP.out.on hb2
  have HS2:Hid (SP w sn nx es ms g h cg ch w1.heap.size nx g1 c1 h1 c2 es w2):=hs
  clear x0 x2 x3 x4
  obtain⟨x0,x2,x3,x4⟩:=fl.q4 hs.box
  have htk:=spec_take sn nx (some ⟨g,0,none⟩) es.length cg ms h ch o t a w2 HF.out.ml (HE.out.inn hs.bel)
  have hw1:w1.heap.size<w2.heap.size:=(Array.getElem?_eq_some_iff.1 hs.out).1
  have h8:=hs.h8
  clear hok hs HSP
  go_wp2_with (go_at_call 146;fail)
  refine htk.mono ?_
  rintro e w3 ⟨v,u,rfl,hk⟩
  obtain⟨GL,hGL⟩:∃ GL,gone o t a ms=GL:=⟨_,rfl⟩
  obtain⟨LL,hLL⟩:∃ LL,left o t a ms=LL:=⟨_,rfl⟩
  have HAH2:Hid (AH=left o t a ms):=HAH.out
  have HAC2:Hid (AC=((gone o t a ms).length:Int)):=HAC.out
  rw [hLL] at hk HAH2
  rw [hGL] at hk HAC2
  obtain rfl:AH=LL:=HAH2.out
  obtain rfl:AC=(GL.length:Int):=HAC2.out
  obtain⟨vb,vc,rfl⟩:=hk.av.form
  obtain⟨ub,uc,rfl⟩:=hk.au.form
  have hs:=HS2.out.on hk.bel
  have HS3:Hid (SP w sn nx es ms g h cg ch w1.heap.size nx g1 c1 h1 c2 es w3):=hs
  have HAU:Hid (All w3 w2.heap.size (.slice ub AH.length uc) AH):=hk.au
  have n4f:=bfree hs.out 3
  have hne1:w1.heap.size≠w.heap.size+1:=by omega
  have hne2:w.heap.size+1≠w1.heap.size:=by omega
  obtain⟨n0,n2,n3,n4⟩:=fl.q4 hs.out
  obtain⟨z0,z2,z3,z4⟩:=fl.q4 hs.res
  obtain⟨z0f,z2f,z3f,z4f⟩:=fl.r4 hs.res
  have hgne:g1≠w1.heap.size:=owns_ne (by decide) hs.oe hs.out
  clear htk hk hs x0 x2 x3 x4 hGL hLL HAH HAC HAH2 HAC2
  go_wp2
  refine bodyPost_ret (v:=.tuple #[.agg #[.string sn,.int .i64 nx,.slice (some ⟨g1,0,none⟩) es.length c1,.slice ub AH.length uc],.int .i64 GL.length]) (by simp [results,Tryz.results70,go_sem,z0,z2,z3,z4]) rfl ⟨_,_,_,_,rfl,?_,?_,?_⟩
  ·exact fin_mine flM.c_len (owns_set HS3.out.oe hgne _)
  ·exact fin_allM (B:=w2.heap.size) (all_set HAU.out hw1) (by have:=HS2.out.size;omega) HS2.out.bel.size
  ·exact fin_below (HS3.out.bel.setCell (by show w.heap.size <= w1.heap.size;omega) _) (Nat.le_succ _)
end Go.Proofs.YteoojodkkjepeaaGreat.qdm
namespace Go.Proofs.YteoojodkkjepeaaGreat.nkt
open ChangeShapes WideShapes ChangeAt RowKit rr ra rt fl co eb scc
structure Kn (w:World)(es:List Ex)(bs:List Bi)(qs:List qu.E)(ts:List su.E)(a0 b0 q0 t0 ec bc qc tc g1 c1 h1 c2 gn S0:Nat)(qa ta:Option Addr)(qk tk:Nat)(l:List qu.E)(us:List su.E)(W:World):Prop where
 bel:Below w.heap.size w W
 box:W.heap[w.heap.size]?=some (.cells #[.slice (some ⟨a0,0,none⟩) es.length ec,.slice (some ⟨b0,0,none⟩) bs.length bc,.slice (some ⟨q0,0,none⟩) qs.length qc,.slice (some ⟨t0,0,none⟩) ts.length tc] 39 (0,0))
 res:W.heap[w.heap.size+1]?=some (.cells #[.slice none 0 0,.slice none 0 0,.slice none 0 0,.slice none 0 0] 39 (0,0))
 gnb:W.heap[gn]?=some (.cells #[.slice (some ⟨g1,0,none⟩) es.length c1,.slice (some ⟨h1,0,none⟩) bs.length c2,.slice qa qs.length qk,.slice ta ts.length tk] 39 (0,0))
 o1:W.ownsRow (w.heap.size+2) 125 2 (.slice (some ⟨g1,0,none⟩) es.length c1) es.length (es.flatMap Go.Proofs.YteoojodkkjepeaaGreat.su.cE)
 o2:W.ownsRow (w.heap.size+2) 127 3 (.slice (some ⟨h1,0,none⟩) bs.length c2) bs.length (bs.flatMap Go.Proofs.YteoojodkkjepeaaGreat.su.cB)
 own:l=[] ∨ ∃ g,qa=some ⟨g,0,none⟩/\S0 <= g/\fo.OwnO qu.c 4 68 W g 0 l l.length
 so:W.ownsRow S0 74 5 (.slice ta ts.length tk) us.length (us.flatMap su.c)
 ea:∀ r∈l,fo.Mine flM.c 5 48 W S0 r.ra r.rs
 eb:∀ r∈l,fo.Mine flH.c 7 102 W S0 r.ha r.hs
 se:∀ r∈us,Msu W S0 r
 hs:w.heap.size+2 <= S0
 gl:w.heap.size+2 <= gn
section
variable {w:World} {es:List Ex} {bs:List Bi} {qs:List qu.E} {ts:List su.E} {a0 b0 q0 t0 ec bc qc tc g1 c1 h1 c2 gn S0:Nat} {qa ta:Option Addr} {qk tk:Nat} {l d q:List qu.E} {us:List su.E} {W W':World}
theorem Kn.on (h:Kn w es bs qs ts a0 b0 q0 t0 ec bc qc tc g1 c1 h1 c2 gn S0 qa ta qk tk l us W)(hb:Below W.heap.size W W'):Kn w es bs qs ts a0 b0 q0 t0 ec bc qc tc g1 c1 h1 c2 gn S0 qa ta qk tk l us W' :=
 ⟨h.bel.trans (hb.mono h.bel.size),bstay h.box hb (Array.getElem?_eq_some_iff.1 h.box).1,bstay h.res hb (Array.getElem?_eq_some_iff.1 h.res).1,bstay h.gnb hb (Array.getElem?_eq_some_iff.1 h.gnb).1,su.own_stays h.o1 hb,su.own_stays h.o2 hb,h.own.imp id (fun ⟨g,h1,h2,h3⟩=>⟨g,h1,h2,h3.below hb h3.lt⟩),su.own_stays h.so hb,fun r hr=>(h.ea r hr).below hb,fun r hr=>(h.eb r hr).below hb,fun r hr=>(h.se r hr).keep (fun B n q T v xs ho _ _ _=>su.own_stays ho hb),h.hs,h.gl⟩
theorem ne_blk {T T':TypeId}{g b:Nat}(hT:T≠T')(h1:∃ cur,W.heap[g]?=some (.cells cur T (0,0)))(h2:∃ cur,W.heap[b]?=some (.cells cur T' (0,0))):b≠g:=fun e=>by
 subst e
 exact rmk.ne_type hT h1 h2
theorem mine_keep {α:Type}{c:α->List Value}{n B g:Nat}{T T':TypeId}{a:Option Addr}{l:List α}(hT:T≠T')(ht:fo.Tn W W' (fun k=>k=g))(hg:∃ cur,W.heap[g]?=some (.cells cur T (0,0)))(h:fo.Mine c n T' W B a l):fo.Mine c n T' W' B a l:=h.kept ht (fun k hk e=>by subst e;exact rmk.ne_type hT hg (rmk.mine_type h hk))
theorem owns_keep {B n m g:Nat}{T T':TypeId}{v:Value}{xs:List Value}(hT:T≠T')(ht:fo.Tn W W' (fun k=>k=g))(hg:∃ cur,W.heap[g]?=some (.cells cur T (0,0)))(h:W.ownsRow B T' n v m xs):W'.ownsRow B T' n v m xs:=by
 obtain⟨cur,hc⟩:=hg
 exact h.kept (row:=some g) ⟨ht.os,ht.tape,ht.output,ht.size,fun k hk hne=>ht.block k hk (fun e=>hne (by rw [e]))⟩ (.inr (su.apart h hc (Ne.symm hT)))
theorem Kn.put {n gq:Nat}{r r':qu.E}(hn:d.length=n)(hq:qa=some ⟨gq,0,none⟩)(h:Kn w es bs qs ts a0 b0 q0 t0 ec bc qc tc g1 c1 h1 c2 gn S0 qa ta qk tk (d++r :: q) us W)(hA:fo.Mine flM.c 5 48 W S0 r'.ra r'.rs)(hH:fo.Mine flH.c 7 102 W S0 r'.ha r'.hs) :
  Kn w es bs qs ts a0 b0 q0 t0 ec bc qc tc g1 c1 h1 c2 gn S0 qa ta qk tk (d++r' :: q) us ((((W.setCell ⟨gq,n*4,none⟩ (.string r'.nm)).setCell ⟨gq,n*4+1,none⟩ (.int .i64 r'.nx)).setCell ⟨gq,n*4+2,none⟩ (.slice r'.ra r'.rs.length r'.rc)).setCell ⟨gq,n*4+3,none⟩ (.slice r'.ha r'.hs.length r'.hc)):=by
 obtain⟨ho,hlo⟩:fo.OwnO qu.c 4 68 W gq 0 (d++r :: q) (d++r :: q).length/\S0 <= gq:=by
  rcases h.own with h0 | ⟨g,h1,h2,h3⟩
  ·simp at h0
  ·rw [hq] at h1;cases h1;exact⟨h3,h2⟩
 have hg:=qu.own_g ho
 have hs:=h.hs
 have hput:=qu.own_put r' ho
 rw [hn] at hput
 have ht:fo.Tn W (fl.setRow W gq (n*4) (qu.c r')) (fun k=>k=gq):=((((fo.Tn.refl W (fun k=>k=gq)).set (g:=gq) rfl _ _).set (g:=gq) rfl _ _).set (g:=gq) rfl _ _).set (g:=gq) rfl _ _
 show Kn w es bs qs ts a0 b0 q0 t0 ec bc qc tc g1 c1 h1 c2 gn S0 qa ta qk tk (d++r' :: q) us (fl.setRow W gq (n*4) (qu.c r'))
 generalize fl.setRow W gq (n*4) (qu.c r')=W' at ht hput ⊢
 have kb:∀ (b:Nat) (cur:Array Value),W.heap[b]?=some (.cells cur 39 (0,0))->W'.heap[b]?=some (.cells cur 39 (0,0)):=fun b cur hb=>(ht.block b (Array.getElem?_eq_some_iff.1 hb).1 (ne_blk (by decide) hg ⟨cur,hb⟩)).trans hb
 refine⟨h.bel.trans (ht.below h.bel.size (fun k e=>by rw [e];omega)),kb _ _ h.box,kb _ _ h.res,kb _ _ h.gnb,owns_keep (by decide) ht hg h.o1,owns_keep (by decide) ht hg h.o2,.inr ⟨gq,hq,hlo,hput⟩,owns_keep (by decide) ht hg h.so,fun s hs=>?_,fun s hs=>?_,fun s hs=>(h.se s hs).keep (fun B n q T v xs ho h1 _ _=>owns_keep (Ne.symm h1) ht hg ho),h.hs,h.gl⟩
 ·rcases qu.mem_mid hs with rfl | hs
  ·exact mine_keep (by decide) ht hg hA
  ·exact mine_keep (by decide) ht hg (h.ea s (qu.in_mid hs))
 ·rcases qu.mem_mid hs with rfl | hs
  ·exact mine_keep (by decide) ht hg hH
  ·exact mine_keep (by decide) ht hg (h.eb s (qu.in_mid hs))
end
theorem Kn.szS {w:World}{es:List Ex}{bs:List Bi}{qs:List qu.E}{ts:List su.E}{a0 b0 q0 t0 ec bc qc tc g1 c1 h1 c2 gn S0:Nat}{qa ta:Option Addr}{qk tk:Nat}{d q:List qu.E}{r:qu.E}{us:List su.E}{W:World}(h:Kn w es bs qs ts a0 b0 q0 t0 ec bc qc tc g1 c1 h1 c2 gn S0 qa ta qk tk (d++r :: q) us W):S0 <= W.heap.size:=by
 rcases h.own with h0 | ⟨g,h1,h2,h3⟩
 ·simp at h0
 ·have:=h3.lt;omega
theorem Kn.at_ {w:World}{es:List Ex}{bs:List Bi}{qs:List qu.E}{ts:List su.E}{a0 b0 q0 t0 ec bc qc tc g1 c1 h1 c2 gn S0 gq:Nat}{ta:Option Addr}{qk tk:Nat}{d q:List qu.E}{r:qu.E}{us:List su.E}{W:World}(h:Kn w es bs qs ts a0 b0 q0 t0 ec bc qc tc g1 c1 h1 c2 gn S0 (some ⟨gq,0,none⟩) ta qk tk (d++r :: q) us W):fo.OwnO qu.c 4 68 W gq 0 (d++r :: q) (d++r :: q).length:=by
 rcases h.own with h0 | ⟨g,h1,h2,h3⟩
 ·simp at h0
 ·cases h1;exact h3
theorem Kn.cells {w:World}{es:List Ex}{bs:List Bi}{qs:List qu.E}{ts:List su.E}{a0 b0 q0 t0 ec bc qc tc g1 c1 h1 c2 gn S0 gq n:Nat}{ta:Option Addr}{qk tk:Nat}{d q:List qu.E}{r:qu.E}{us:List su.E}{W:World}(hn:d.length=n)(h:Kn w es bs qs ts a0 b0 q0 t0 ec bc qc tc g1 c1 h1 c2 gn S0 (some ⟨gq,0,none⟩) ta qk tk (d++r :: q) us W):W.cell? ⟨gq,n*4,none⟩=some (.string r.nm)/\W.cell? ⟨gq,n*4+1,none⟩=some (.int .i64 r.nx)/\W.cell? ⟨gq,n*4+2,none⟩=some (.slice r.ra r.rs.length r.rc)/\W.cell? ⟨gq,n*4+3,none⟩=some (.slice r.ha r.hs.length r.hc):=by
 subst hn
 obtain⟨cur,h1,h2,h3⟩:=h.at_
 have k:∀ (j:Nat) (v:Value),(qu.c r)[j]?=some v->W.cell? ⟨gq,d.length*4+j,none⟩=some v:=fun j v hv=>by
  have:=h3 d.length r (by simp) (qu.at_mid d q r) j v hv
  rw [Nat.zero_add] at this
  exact bcell h1 this
 exact⟨k 0 _ rfl,k 1 _ rfl,k 2 _ rfl,k 3 _ rfl⟩
theorem Kn.frees {w:World}{es:List Ex}{bs:List Bi}{qs:List qu.E}{ts:List su.E}{a0 b0 q0 t0 ec bc qc tc g1 c1 h1 c2 gn S0 gq n:Nat}{ta:Option Addr}{qk tk:Nat}{d q:List qu.E}{r:qu.E}{us:List su.E}{W:World}(hn:d.length=n)(h:Kn w es bs qs ts a0 b0 q0 t0 ec bc qc tc g1 c1 h1 c2 gn S0 (some ⟨gq,0,none⟩) ta qk tk (d++r :: q) us W):W.frozen? ⟨gq,n*4,none⟩=false/\W.frozen? ⟨gq,n*4+1,none⟩=false/\W.frozen? ⟨gq,n*4+2,none⟩=false/\W.frozen? ⟨gq,n*4+3,none⟩=false:=⟨h.at_.free _,h.at_.free _,h.at_.free _,h.at_.free _⟩
theorem kn_of {w W w1 Y:World}{es:List Ex}{bs:List Bi}{qs ks:List qu.E}{ts us:List su.E}{a0 b0 q0 t0 ec bc qc tc g1 c1 h1 c2 S0:Nat}{qa ta:Option Addr}{qk tk:Nat}(hsm:cb.Same qs ks ts us)(h:Ke W es bs g1 c1 h1 c2 S0 (.slice qa qs.length qk) (.slice ta ts.length tk) ks us w1)(hW:Below w.heap.size w W)(hS:W.heap.size=w.heap.size+2)(hA:W.heap[w.heap.size]?=some (.cells #[.slice (some ⟨a0,0,none⟩) es.length ec,.slice (some ⟨b0,0,none⟩) bs.length bc,.slice (some ⟨q0,0,none⟩) qs.length qc,.slice (some ⟨t0,0,none⟩) ts.length tc] 39 (0,0)))(hR:W.heap[w.heap.size+1]?=some (.cells #[.slice none 0 0,.slice none 0 0,.slice none 0 0,.slice none 0 0] 39 (0,0)))(hY:Below w1.heap.size w1 Y)(hN:Y.heap[w1.heap.size]?=some (.cells #[.slice (some ⟨g1,0,none⟩) es.length c1,.slice (some ⟨h1,0,none⟩) bs.length c2,.slice qa qs.length qk,.slice ta ts.length tk] 39 (0,0))):Kn w es bs qs ts a0 b0 q0 t0 ec bc qc tc g1 c1 h1 c2 w1.heap.size S0 qa ta qk tk ks us Y:=by
 have hs:=h.bel.size
 have hb:Below W.heap.size W Y:=h.bel.trans (hY.mono hs)
 have hh:=h.hs
 refine⟨hW.trans (hb.mono hW.size),bstay hA hb (by omega),bstay hR hb (by omega),hN,own_lo (su.own_stays h.o1 hY) (by omega),own_lo (su.own_stays h.o2 hY) (by omega),?_,su.own_stays h.so hY,fun r hr=>?_,fun r hr=>?_,fun r hr=>(h.se r hr).keep (fun B n q T v xs ho _ _ _=>su.own_stays ho hY),by omega,by omega⟩
 ·by_cases h0:ks=[]
  ·exact .inl h0
  ·have h1:=h.qo
   rw [<- hsm.ql] at h1
   obtain⟨_,⟨e,h2⟩ | ⟨g,cap,cur,e,hB,_⟩⟩:=id h1
   ·exact absurd (List.eq_nil_of_length_eq_zero h2) h0
   ·obtain rfl:qa=some ⟨g,0,none⟩:=(Value.slice.inj e).1
    obtain⟨k1,k2⟩:=qdm.owns_ownO qu.c_len h1
    exact .inr ⟨g,rfl,k2,k1.below hY k1.lt⟩
 ·obtain⟨g,x,e1,e2,o1,o2⟩:=h.qe r hr
  rw [e1]
  exact(qdm.own_mine flM.c_len o1 (Nat.le_refl _)).below hY
 ·obtain⟨g,x,e1,e2,o1,o2⟩:=h.qe r hr
  rw [e2]
  exact(qdm.own_mine flH.c_len o2 (Nat.le_refl _)).below hY
theorem Kn.fin {w:World}{es:List Ex}{bs:List Bi}{qs:List qu.E}{ts:List su.E}{a0 b0 q0 t0 ec bc qc tc g1 c1 h1 c2 gn S0:Nat}{qa ta:Option Addr}{qk tk:Nat}{l Q:List qu.E}{us:List su.E}{W:World}(h:Kn w es bs qs ts a0 b0 q0 t0 ec bc qc tc g1 c1 h1 c2 gn S0 qa ta qk tk l us W)(hs:cb.Same Q l ts us):Hid (cn.SA w ((((W.setCell ⟨w.heap.size+1,0,none⟩ (.slice (some ⟨g1,0,none⟩) es.length c1)).setCell ⟨w.heap.size+1,1,none⟩ (.slice (some ⟨h1,0,none⟩) bs.length c2)).setCell ⟨w.heap.size+1,2,none⟩ (.slice qa qs.length qk)).setCell ⟨w.heap.size+1,3,none⟩ (.slice ta ts.length tk)) es bs Q ts (some ⟨g1,0,none⟩) (some ⟨h1,0,none⟩) qa ta l us):=by
 have hg:∃ cur,W.heap[w.heap.size+1]?=some (.cells cur 39 (0,0)):=⟨_,h.res⟩
 have ht:fo.Tn W ((((W.setCell ⟨w.heap.size+1,0,none⟩ (.slice (some ⟨g1,0,none⟩) es.length c1)).setCell ⟨w.heap.size+1,1,none⟩ (.slice (some ⟨h1,0,none⟩) bs.length c2)).setCell ⟨w.heap.size+1,2,none⟩ (.slice qa qs.length qk)).setCell ⟨w.heap.size+1,3,none⟩ (.slice ta ts.length tk)) (fun k=>k=w.heap.size+1):=((((fo.Tn.refl W (fun k=>k=w.heap.size+1)).set (g:=w.heap.size+1) rfl _ _).set (g:=w.heap.size+1) rfl _ _).set (g:=w.heap.size+1) rfl _ _).set (g:=w.heap.size+1) rfl _ _
 generalize (((W.setCell ⟨w.heap.size+1,0,none⟩ (.slice (some ⟨g1,0,none⟩) es.length c1)).setCell ⟨w.heap.size+1,1,none⟩ (.slice (some ⟨h1,0,none⟩) bs.length c2)).setCell ⟨w.heap.size+1,2,none⟩ (.slice qa qs.length qk)).setCell ⟨w.heap.size+1,3,none⟩ (.slice ta ts.length tk)=V at ht ⊢
 have hso:=owns_keep (by decide) ht hg h.so
 have hlo:=h.hs
 refine⟨qdm.own_mine Go.Proofs.YteoojodkkjepeaaGreat.su.cE_len (owns_keep (by decide) ht hg h.o1) (by omega),qdm.own_mine Go.Proofs.YteoojodkkjepeaaGreat.su.cB_len (owns_keep (by decide) ht hg h.o2) (by omega),?_,fun r hr=>⟨mine_lo (mine_keep (by decide) ht hg (h.ea r hr)) (by omega),mine_lo (mine_keep (by decide) ht hg (h.eb r hr)) (by omega)⟩,?_,fun r hr=>?_,hs,h.bel.trans (ht.below h.bel.size (fun k e=>by rw [e];omega))⟩
 ·rcases h.own with h0 | ⟨g,rfl,hB,h3⟩
  ·exact .inl h0
  ·exact .inr ⟨g,0,rfl,by omega,h3.kept (ht.block g h3.lt (ne_blk (by decide) hg (qu.own_g h3)))⟩
 ·by_cases h0:us=[]
  ·exact .inl h0
  ·rw [<- hs.tl] at hso
   obtain⟨_,⟨e,h2⟩ | ⟨g,cap,cur,e,hB,_⟩⟩:=id hso
   ·exact absurd (List.eq_nil_of_length_eq_zero h2) h0
   ·obtain rfl:ta=some ⟨g,0,none⟩:=(Value.slice.inj e).1
    exact qdm.own_mine su.c_len hso (by omega)
 ·obtain⟨g,x,e1,e2,o1,o2⟩:=h.se r hr
  rw [e1,e2]
  exact⟨qdm.own_mine flY.c_len (owns_keep (by decide) ht hg o1) (by omega),qdm.own_mine flK.c_len (owns_keep (by decide) ht hg o2) (by omega)⟩
end Go.Proofs.YteoojodkkjepeaaGreat.nkt
namespace Go.Proofs.YteoojodkkjepeaaGreat.gt
open dn
structure Turn (ops:Array Oper)(L:Nat->Bool)(f f':Act):Prop where
 defers:f'.defers=f.defers
 size:f'.tmps.size=f.tmps.size
 same:∀ (j:Nat) (p:Oper) (q:Nat),ops[j]?=some p->p.dst=some q->L j=true->f'.tmps[q]?=f.tmps[q]?
theorem Turn.refl (ops:Array Oper)(L:Nat->Bool)(f:Act):Turn ops L f f:=⟨rfl,rfl,fun _ _ _ _ _ _=>rfl⟩
section
variable {σ:Type} {P:Program} {ops:Array Oper} {a0:Act} {fin:σ->Act} {C:σ->(Nat->Bool)->World->Prop} {Q:Exit->Act->World->Prop}
def Step (P:Program)(ops:Array Oper)(fin:σ->Act)(C:σ->(Nat->Bool)->World->Prop)(Q:Exit->Act->World->Prop)(i:Nat)(o:Oper):Prop :=
 ∀ (s:σ) (L:Nat->Bool) (w:World) (a:Act),(∀ x∈o.op.operands,a.eval x=(fin s).eval x)->(∀ e∈o.after,Region.binds .any e=true->L e.on=true)->L i=false->C s L w ->
  ∀ K:Act->World->Prop,(∀ (s':σ) (v:Value) (w':World),Turn ops L (fin s) (fin s')->(∀ d,o.dst=some d->(fin s').tmps[d]?=some v)->C s' (more L i) w'->K (a.put o.dst v) w')->o.wp P a w K Q
theorem step_val {i:Nat}{o:Oper}(hsel:∀ cs b,o.op≠.select cs b)
  (h:∀ (s:σ) (L:Nat->Bool) (w:World),(∀ e∈o.after,Region.binds .any e=true->L e.on=true)->L i=false->C s L w ->
   ∃ s' v,Turn ops L (fin s) (fin s')/\(∀ d,o.dst=some d->(fin s').tmps[d]?=some v)/\left P v (C s' (more L i)) ((execOp (fin s).eval o).run P w)):Step P ops fin C Q i o:=by
 intro s L w a ha hd h0 hC K hK
 obtain⟨s',v,hag,hv,hleft⟩:=h s L w hd h0 hC
 unfold Oper.wp
 rw [execOp_congr o hsel ha]
 generalize (execOp (fin s).eval o).run P w=r at *
 cases r with
 | ok n w' =>
  cases n <;> simp only [left] at hleft <;> simp only [Oper.upon]
  case value u =>
   obtain⟨rfl,hD⟩:=hleft
   exact hK s' _ _ hag hv hD
  case skip =>
   obtain⟨rfl,hD⟩:=hleft
   exact hK s' _ _ hag hv hD
  case enter f args =>
   exact hleft.mono fun e w'' ⟨he,hD⟩=>by subst he;exact hK s' _ _ hag hv hD
 | halt x w'=>simp only [left] at hleft
theorem Fr.turn {s s':σ}{L:Nat->Bool}{a:Act}(h:Fr ops a0 (fin s) L a)(hag:Turn ops L (fin s) (fin s')):Fr ops a0 (fin s') L a:=by
 refine⟨h.defers.trans hag.defers.symm,h.size.trans hag.size.symm,fun j p q hj hp hL=>?_,h.rest⟩
 rw [hag.same j p q hj hp hL]
 exact h.done j p q hj hp hL
theorem any_done (hok:okB ops=true)(hfin:∀ (g:σ) (s:Nat),(∀ (i:Nat) (o:Oper),ops[i]?=some o->o.dst≠some s)->a0.tmps[s]?=(fin g).tmps[s]?)
  (hstep:∀ (i:Nat) (o:Oper),ops[i]?=some o->Step P ops fin C Q i o) (hend:∀ (s:σ) (L:Nat->Bool) (w:World),(∀ i,i<ops.size->L i=true)->C s L w->Q .normal (fin s) w) :
  ∀ (fuel:Nat) (l:Array Bool) (s:σ) (a:Act) (w:World),l.size=ops.size->undone l <= fuel->Fr ops a0 (fin s) (fun j=>l.getD j false) a->C s (fun j=>l.getD j false) w->wpAny P .any ops Q fuel l a w:=by
 intro fuel
 have fin_of:∀ (l:Array Bool) (s:σ) (a:Act) (w:World),l.size=ops.size->Fr ops a0 (fin s) (fun j=>l.getD j false) a->C s (fun j=>l.getD j false) w->Region.ready .any ops l=[]->Q .normal a w:=by
  intro l s a w hs hfr hC hr
  have hall:=ready_nil hs hok hr
  have hL:∀ i,i<ops.size->(fun j=>l.getD j false) i=true:=fun i hi=>hall i i (Nat.le_refl _) hi
  rw [hfr.all (hfin s) hL]
  exact hend s _ w hL hC
 induction fuel with
 | zero =>
  intro l s a w hs hu hfr hC
  have hr:Region.ready .any ops l=[]:=by
   cases hr:Region.ready .any ops l with
   | nil=>rfl
   | cons i r =>
    obtain⟨hlt,hb,_⟩:=ready_spec hs (show i∈Region.ready .any ops l by rw [hr];simp)
    exfalso
    unfold undone at hu
    have h0:l.toList.filter (fun b=>!b)=[]:=List.eq_nil_of_length_eq_zero (by omega)
    have hm:false∈l.toList:=by
     rw [Array.getD_eq_getD_getElem?,Array.getElem?_eq_getElem hlt] at hb
     simp only [Option.getD_some] at hb
     rw [<- hb]
     simp
    have:=List.filter_eq_nil_iff.1 h0 false hm
    simp at this
  exact⟨hr,fin_of l s a w hs hfr hC hr⟩
 | succ fuel ih =>
  intro l s a w hs hu hfr hC
  refine⟨fun hr=>fin_of l s a w hs hfr hC hr,fun i hi=>?_⟩
  obtain⟨hlt,hb,o,ho,hd⟩:=ready_spec hs hi
  have hf:=fine_of hok ho
  have hs':(l.setIfInBounds i true).size=ops.size:=by simpa using hs
  have hu':undone (l.setIfInBounds i true) <= fuel:=by
   have h1:=undone_set l.toList i (by
    rw [Array.getD_eq_getD_getElem?,Array.getElem?_eq_getElem hlt] at hb
    simp only [Option.getD_some] at hb
    simp [hlt,hb])
   unfold undone at hu ⊢
   rw [Array.toList_setIfInBounds]
   omega
  have hw:Region.wanted o (yielded ops a.tmps)=true:=by simp [Region.wanted,hf.guard]
  unfold wpOp
  rw [ho]
  simp only [hw,if_true]
  left
  refine hstep i o ho s (fun j=>l.getD j false) w a (hfr.reads hf (hfin s) hd) hd hb hC _ (fun s' v w' hag hv hD=>?_)
  have hfr':=(Fr.turn hfr hag).step ho hf hv
  rw [<- more_set l hlt] at hfr' hD
  exact ih _ _ _ _ hs' hu' hfr' hD
def Each (P:Program)(ops:Array Oper)(fin:σ->Act)(C:σ->(Nat->Bool)->World->Prop)(Q:Exit->Act->World->Prop):Nat->List Oper->Prop
 | _,[]=>True
 | n,o :: r=>Step P ops fin C Q n o/\Each P ops fin C Q (n+1) r
theorem each_get:∀ (l:List Oper) (n:Nat),Each P ops fin C Q n l->∀ (i:Nat) (o:Oper),l[i]?=some o->Step P ops fin C Q (n+i) o
 | [],_,_,i,o,h=>by simp at h
 | x :: r,n,h,0,o,ho=>by simp at ho;subst ho;exact h.1
 | x :: r,n,h,i+1,o,ho=>by
  have:=each_get r (n+1) h.2 i o (by simpa using ho)
  rwa [show n+(i+1)=n+1+i by omega]
theorem region_ghost {id:Nat}{l:List Oper}{w:World}(fin:σ->Act)(C:σ->(Nat->Bool)->World->Prop)(s0:σ)(hm:P.follows .mixedOrders=true)(hok:okB l.toArray=true)
  (hdef:a0.defers=(fin s0).defers) (hsz:∀ s,a0.tmps.size=(fin s).tmps.size) (ks:List Nat) (hks:((List.range a0.tmps.size).filter fun s=>!keepB l s)=ks) (hkeep:∀ g,gh.Kept a0.tmps (fin g).tmps ks)
  (hC:C s0 (fun _=>false) w.drew) (hstep:Each P l.toArray fin C Q 0 l) (hend:∀ (s:σ) (L:Nat->Bool) (w':World),(∀ i,i<l.length->L i=true)->C s L w'->Q .normal (fin s) w') :
  (Code.region id l.toArray true).wp P Q a0 w:=by
 refine wp_region_any hm ?_
 have hL0:(fun j=>(Array.replicate l.toArray.size false).getD j false)=fun _=>false:=by
  funext j
  simp only [Array.getD_eq_getD_getElem?,Array.getElem?_replicate]
  split <;> rfl
 refine any_done (a0:=a0) (fin:=fin) (C:=C) hok (fun g s hs=>?_) (fun i o hi=>?_) (fun s L w' hL hD=>hend s L w' (fun i hi=>hL i (by simpa using hi)) hD) _ _ s0 _ _ (by simp) ?_ ?_ ?_
 ·by_cases hlt:s<a0.tmps.size
  ·refine gh.kept_get ks (hkeep g) s ?_
   rw [<- hks,List.mem_filter]
   refine⟨by simpa using hlt,?_⟩
   rw [Bool.not_eq_true']
   unfold keepB
   rw [List.any_eq_false]
   intro o ho
   obtain⟨i,hi⟩:=List.getElem?_of_mem ho
   have:=hs i o (by simpa using hi)
   simpa using this
  ·rw [Array.getElem?_eq_none (by omega),Array.getElem?_eq_none (by rw [<- hsz];omega)]
 ·have:=each_get l 0 hstep i o (by simpa using hi)
  rwa [Nat.zero_add] at this
 ·unfold undone
  refine Nat.le_trans (List.length_filter_le _ _) (by simp)
 ·rw [hL0]
  exact⟨hdef,hsz s0,fun i o s _ _ h=>(by cases h),fun s _=>rfl⟩
 ·rw [hL0]
  exact hC
end
end Go.Proofs.YteoojodkkjepeaaGreat.gt
namespace Go.Proofs.YteoojodkkjepeaaGreat.cht
open dn
open chn (Cn on off up shut at_m next_m)
def waitB (l:List Oper)(i:Nat):List Nat->List Nat->Bool
 | _,[]=>true
 | ys,z :: zs=>((z == i) || (match l[z]? with | some o=>o.after.any fun e=>Region.binds .any e && ys.contains e.on | none=>false)) && waitB l i (z :: ys) zs
def slotB (l:List Oper)(zs qz:List Nat):Bool:=(List.range l.length).all fun j=>match l[j]? with | some o=>(match o.dst with | some q=>!(qz.contains q) || zs.contains j | none=>true) | none=>true
theorem wait_not {l:List Oper}{i:Nat}{L:Nat->Bool}(hc:∀ (i:Nat) (o:Oper),l[i]?=some o->L i=true->∀ e∈o.after,Region.binds .any e=true->L e.on=true)(h0:L i=false):∀ (zs ys:List Nat),(∀ y∈ys,L y=false)->waitB l i ys zs=true->∀ z∈zs,L z=false
 | [],_,_,_,z,hz=>by cases hz
 | x :: zs,ys,hy,hw,z,hz=>by
  simp only [waitB,Bool.and_eq_true,Bool.or_eq_true] at hw
  have hx:L x=false:=by
   rcases hw.1 with h | h
   ·rw [beq_iff_eq] at h;rw [h];exact h0
   ·cases ho:l[x]? with
    | none=>rw [ho] at h;cases h
    | some o =>
     rw [ho] at h
     simp only [Array.any_eq_true,Bool.and_eq_true,List.contains_iff_mem] at h
     obtain⟨n,hn,hb,hm⟩:=h
     cases hL:L x with
     | false=>rfl
     | true =>
      have:=hc x o ho hL _ (Array.getElem_mem hn) hb
      rw [hy _ hm] at this
      cases this
  rcases List.mem_cons.1 hz with rfl | hz
  ·exact hx
  ·exact wait_not hc h0 zs (x :: ys) (fun y hy'=>by rcases List.mem_cons.1 hy' with rfl | h;exact hx;exact hy y h) hw.2 z hz
theorem slot_in {l:List Oper}{zs qz:List Nat}(h:slotB l zs qz=true){j:Nat}{o:Oper}{q:Nat}(hj:l[j]?=some o)(hq:o.dst=some q)(hm:q∈qz):j∈zs:=by
 have hlt:=(List.getElem?_eq_some_iff.1 hj).1
 have:=List.all_eq_true.1 h j (List.mem_range.2 hlt)
 rw [hj] at this
 simp only [hq] at this
 simp only [Bool.or_eq_true,Bool.not_eq_true',List.contains_iff_mem] at this
 rcases this with h1 | h1
 ·exact absurd hm (by simpa using h1)
 ·exact h1
theorem turn_of {l:List Oper}{L:Nat->Bool}{zs qz:List Nat}{a:Act}{ws ws':List (Nat × Value)}(hz:∀ z∈zs,L z=false)(hs:slotB l zs qz=true)(h:∀ q,q ∉ qz->ws'.lookup q=ws.lookup q):gt.Turn l.toArray L (dk.sets a ws) (dk.sets a ws'):=by
 refine⟨by rw [dk.sets_defers,dk.sets_defers],by rw [dk.sets_size,dk.sets_size],fun j p q hj hp hL=>?_⟩
 have hq:q ∉ qz:=fun hm=>by
  have:=hz j (slot_in hs (by simpa using hj) hp hm)
  rw [this] at hL
  cases hL
 rw [dk.sets_get,dk.sets_get,h q hq]
theorem lookup_but {A B B':List (Nat × Value)}{qz:List Nat}(h1:B.map (·.1)=qz)(h2:B'.map (·.1)=qz){q:Nat}(hq:q ∉ qz):(A++B').lookup q=(A++B).lookup q:=by
 have no:∀ C:List (Nat × Value),q ∉ C.map (·.1)->C.lookup q=none:=fun C hC=>by
  induction C with
  | nil=>rfl
  | cons x r ih =>
   obtain⟨t,v⟩:=x
   simp only [List.map_cons,List.mem_cons,not_or] at hC
   rw [List.lookup_cons,beq_false_of_ne hC.1]
   exact ih hC.2
 induction A with
 | nil=>rw [List.nil_append,List.nil_append,no B (by rw [h1];exact hq),no B' (by rw [h2];exact hq)]
 | cons x r ih =>
  obtain⟨t,v⟩:=x
  rw [List.cons_append,List.cons_append,List.lookup_cons,List.lookup_cons,ih]
section
variable {σ:Type} {P:Program} {act:Act} {ws:σ->List (Nat × Value)} {l:List Oper} {js:List Nat} {S:σ->Nat->World->Prop} {Q:Exit->Act->World->Prop} {i:Nat} {o:Oper}
theorem quiet (m:Nat)(hl:l[i]?=some o)(hi:i ∉ js)(hm:m=js.length ∨ ∃ j oj,js[m]?=some j/\l[j]?=some oj/\∃ e∈oj.after,Region.binds .any e=true/\e.on=i)(hsel:∀ cs b,o.op≠.select cs b)(u:σ->Value)
  (hd:∀ s d,o.dst=some d->(dk.sets act (ws s)).tmps[d]?=some (u s)) (hrun:∀ s k W,k <= m->S s k W->(execOp (dk.sets act (ws s)).eval o).run P W=.ok (.value (u s)) W):gt.Step P l.toArray (fun s=>dk.sets act (ws s)) (Cn l js S) Q i o:=by
 refine gt.step_val hsel fun s L W hdp h0 hC=>⟨s,u s,gt.Turn.refl _ _ _,hd s,?_⟩
 obtain⟨hc,k,hk,hL,hS⟩:=hC
 have hkm:k <= m:=by
  rcases hm with rfl | ⟨j,oj,hj,hoj,e,he,hb,hon⟩
  ·exact hk
  ·rcases Nat.lt_or_ge m k with h | h
   ·have h1:L j=true:=by rw [hL m j hj];simpa using h
    have:=hc j oj hoj h1 e he hb
    rw [hon,h0] at this
    cases this
   ·exact h
 rw [hrun s k W hkm hS]
 refine⟨rfl,shut hl hdp hc,k,hk,fun m' j hj=>?_,hS⟩
 rw [off L (fun e=>hi (by rw [<- e];exact List.mem_of_getElem? hj))]
 exact hL m' j hj
theorem eff (m:Nat)(zs qz:List Nat)(hz:waitB l i [] zs=true)(hq:slotB l zs qz=true)(hl:l[i]?=some o)(hnd:js.Nodup)(hm:js[m]?=some i)(hdep:m=0 ∨ ∃ e∈o.after,Region.binds .any e=true/\js[m - 1]?=some e.on)(hsel:∀ cs b,o.op≠.select cs b)
  (h:∀ s W,S s m W->∃ s' v,(∀ q,q ∉ qz->(ws s').lookup q=(ws s).lookup q)/\(∀ d,o.dst=some d->(dk.sets act (ws s')).tmps[d]?=some v)/\left P v (S s' (m+1)) ((execOp (dk.sets act (ws s)).eval o).run P W)):gt.Step P l.toArray (fun s=>dk.sets act (ws s)) (Cn l js S) Q i o:=by
 refine gt.step_val hsel fun s L W hdp h0 hC=>?_
 obtain⟨hc,k,hk,hL,hS⟩:=hC
 obtain rfl:=at_m hL hm h0 hdep hdp
 obtain⟨s',v,h1,h2,h3⟩:=h s W hS
 refine⟨s',v,turn_of (wait_not hc h0 zs [] (fun y hy=>by cases hy) hz) hq h1,h2,?_⟩
 have hlt:=(List.getElem?_eq_some_iff.1 hm).1
 have hnew:∀ W',S s' (k+1) W'->Cn l js S s' (more L i) W':=fun W' hS'=>⟨shut hl hdp hc,k+1,hlt,next_m hnd hm hL,hS'⟩
 generalize (execOp (dk.sets act (ws s)).eval o).run P W=r at *
 cases r with
 | ok n w' =>
  cases n <;> simp only [left] at h3 ⊢
  case value u=>exact⟨h3.1,hnew _ h3.2⟩
  case skip=>exact⟨h3.1,hnew _ h3.2⟩
  case enter f args=>exact h3.mono fun e w'' ⟨he,hD⟩=>⟨he,hnew _ hD⟩
 | halt x w'=>simp only [left] at h3
theorem call (m:Nat)(zs qz:List Nat)(hz:waitB l i [] zs=true)(hq:slotB l zs qz=true)(hl:l[i]?=some o)(hnd:js.Nodup)(hm:js[m]?=some i)(hdep:m=0 ∨ ∃ e∈o.after,Region.binds .any e=true/\js[m - 1]?=some e.on)(hsel:∀ cs b,o.op≠.select cs b)(f:FuncId)(args:Array Value)
  (h:∀ s W,S s m W->(execOp (dk.sets act (ws s)).eval o).run P W=.ok (.enter f args) W/\Calls P f args W fun e w'=>∃ s' v,e=.returned v/\(∀ q,q ∉ qz->(ws s').lookup q=(ws s).lookup q)/\(∀ d,o.dst=some d->(dk.sets act (ws s')).tmps[d]?=some v)/\S s' (m+1) w'):gt.Step P l.toArray (fun s=>dk.sets act (ws s)) (Cn l js S) Q i o:=by
 intro s L W a ha hdp h0 hC K hK
 obtain⟨hc,k,hk,hL,hS⟩:=hC
 obtain rfl:=at_m hL hm h0 hdep hdp
 obtain⟨h1,h2⟩:=h s W hS
 have hlt:=(List.getElem?_eq_some_iff.1 hm).1
 unfold Oper.wp
 rw [execOp_congr o hsel ha,h1]
 simp only [Oper.upon]
 exact h2.mono fun e w' ⟨s',v,he,ht,hv,hS'⟩=>by
  subst he
  exact hK s' _ _ (turn_of (wait_not hc h0 zs [] (fun y hy=>by cases hy) hz) hq ht) hv ⟨shut hl hdp hc,k+1,hlt,next_m hnd hm hL,hS'⟩
theorem skip {D:World->Prop}{r:Result Next}{w':World}(h:r=.ok .skip w')(hD:D w'):left P undef D r:=by rw [h];exact⟨rfl,hD⟩
theorem sto (m:Nat)(hl:l[i]?=some o)(hnd:js.Nodup)(hm:js[m]?=some i)(hdep:m=0 ∨ ∃ e∈o.after,Region.binds .any e=true/\js[m - 1]?=some e.on)(hsel:∀ cs b,o.op≠.select cs b)(hdst:o.dst=none)
  (h:∀ s W,S s m W->∃ w',(execOp (dk.sets act (ws s)).eval o).run P W=.ok .skip w'/\S s (m+1) w'):gt.Step P l.toArray (fun s=>dk.sets act (ws s)) (Cn l js S) Q i o:=by
 refine eff m [] [] rfl (by simp only [slotB,List.all_eq_true];intro x _;split;(split <;> rfl);rfl) hl hnd hm hdep hsel fun s W hS=>?_
 obtain⟨w',h1,h2⟩:=h s W hS
 exact⟨s,undef,fun _ _=>rfl,fun d hd=>(by rw [hdst] at hd;cases hd),skip h1 h2⟩
theorem region {id:Nat}{w:World}(ks:List Nat)(s0:σ)(hm:P.follows .mixedOrders=true)(hok:okB l.toArray=true)(hw:∀ g,(ws g).map (·.1)=ks)(hks:(ks.all fun t=>keepB l t)=true)(hjs:∀ j∈js,j<l.length)(hS:S s0 0 w.drew)
  (hstep:gt.Each P l.toArray (fun g=>dk.sets act (ws g)) (Cn l js S) Q 0 l) (hend:∀ s w',S s js.length w'->Q .normal (dk.sets act (ws s)) w'):(Code.region id l.toArray true).wp P Q act w:=by
 refine gt.region_ghost (fun g=>dk.sets act (ws g)) (Cn l js S) s0 hm hok (dk.sets_defers act _).symm (fun s=>(dk.sets_size act (ws s)).symm) _ rfl (fun g=>dk.kept_of _ (dk.keeps (ws g) (hw g) hks)) ⟨fun i o _ h=>(by cases h),0,Nat.zero_le _,fun m j _=>by simp,hS⟩ hstep fun s L w' hL hC=>?_
 obtain⟨_,k,hk,hLk,hS'⟩:=hC
 have:k=js.length:=by
  rcases Nat.lt_or_ge k js.length with h | h
  ·have h1:=hLk k js[k] (List.getElem?_eq_getElem h)
   rw [hL _ (hjs _ (List.getElem_mem h))] at h1
   simp at h1
  ·omega
 subst this
 exact hend s w' hS'
end
end Go.Proofs.YteoojodkkjepeaaGreat.cht
