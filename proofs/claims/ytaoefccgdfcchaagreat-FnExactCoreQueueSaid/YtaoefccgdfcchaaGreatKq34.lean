/- CqSpec. -/
import Derived.Test.YtaoefccgdfcchaaGreatKq31
import Derived.Test.YtaoefccgdfcchaaGreatKq32
import Derived.Test.YtaoefccgdfcchaaGreatKq20
import Derived.Test.YtaoefccgdfcchaaGreatKq33
set_option maxRecDepth 100000
set_option maxHeartbeats 8000000
set_option linter.unusedVariables false
namespace Go.Proofs.YtaoefccgdfcchaaGreat.cqs
open ChangeShapes WideShapes ChangeAt RowKit rc rr ra rt fl co scc cqk
def PQ (w:World) (es:List Ex) (bs:List Bi) (Q:List qu.E) (U:List su.E) (G:Bool) (e:Ending) (w':World):Prop:=∃ sea sba sqa sta sec sbc sqc stc ls us,e=.returned (.tuple #[.agg #[.slice sea es.length sec,.slice sba bs.length sbc,.slice sqa Q.length sqc,.slice sta U.length stc],.bool G])/\Hid (cn.SA w w' es bs Q U sea sba sqa sta ls us)
theorem own_form {w:World} {B n m:Nat} {U:TypeId} {v:Value} {xs:List Value} (h:w.ownsRow B U n v m xs):∃ b c,v=.slice b m c:=by
 obtain ⟨_,⟨rfl,h0⟩ | ⟨g,cap,cur,rfl,_⟩⟩:=h
 ·subst h0; exact ⟨none,0,rfl⟩
 ·exact ⟨_,_,rfl⟩
theorem J0_up:(⟨0,5,8,9,14,16⟩:ta.J).up:=by unfold ta.J.up; decide
theorem oneT (l:List su.E):∀ u ∈ l.flatMap su.c,u.oneCell'=true:=fun u hu=>by
 obtain ⟨e,_,he⟩:=List.mem_flatMap.1 hu
 simp [su.c] at he
 rcases he with rfl | rfl | rfl | rfl | rfl <;> rfl
theorem oneQ (l:List qu.E):∀ u ∈ l.flatMap qu.c,u.oneCell'=true:=fun u hu=>by
 obtain ⟨e,_,he⟩:=List.mem_flatMap.1 hu
 simp [qu.c] at he
 rcases he with rfl | rfl | rfl | rfl <;> rfl
theorem spec_queue (es:List Ex) (bs:List Bi) (qs:List qu.E) (ts:List su.E) (a0 b0 q0 t0 ec bc qc tc:Nat) (name:ByteArray) (st:Bool) (Q:List qu.E) (U:List su.E) (G:Bool) (w:World) (F:cb.Fit es bs qs ts) (hn:name.size <= 1048576) (hE:RE w a0 es) (hB:RB w b0 bs) (hQ:qu.R w q0 qs) (hT:su.R w t0 ts) (hqr:∀ r ∈ qs,∃ g h,r.ra=some ⟨g,0,none⟩/\r.ha=some ⟨h,0,none⟩/\Row flM.c 5 w w.heap.size r.ra r.rs/\Row flH.c 7 w w.heap.size r.ha r.hs) (htr:∀ r ∈ ts,cb.At w r) (hok:∀ V,Below w.heap.size w V->Calls Tryz.prog 17 #[.agg #[.slice (some ⟨a0,0,none⟩) es.length ec,.slice (some ⟨b0,0,none⟩) bs.length bc,.slice (some ⟨q0,0,none⟩) qs.length qc,.slice (some ⟨t0,0,none⟩) ts.length tc]] V fun e w'=>e=.returned (.bool (okC es bs qs ts))/\Below V.heap.size V w') (h20:okC es bs qs ts=true->qs.length <= 20/\ts.length <= 20) (hans:cqp.Ans es bs qs ts name st Q U G) :
  Calls Tryz.prog 5 #[.agg #[.slice (some ⟨a0,0,none⟩) es.length ec,.slice (some ⟨b0,0,none⟩) bs.length bc,.slice (some ⟨q0,0,none⟩) qs.length qc,.slice (some ⟨t0,0,none⟩) ts.length tc],.string name,.bool st] w (PQ w es bs Q U G):=by
 suffices hall:∀ PO:Ending->World->Prop,(∀ e w',PQ w es bs Q U G e w'->PO e w')->Calls Tryz.prog 5 #[.agg #[.slice (some ⟨a0,0,none⟩) es.length ec,.slice (some ⟨b0,0,none⟩) bs.length bc,.slice (some ⟨q0,0,none⟩) qs.length qc,.slice (some ⟨t0,0,none⟩) ts.length tc],.string name,.bool st] w PO from hall _ (fun _ _ h=>h)
 intro PO hPO
 have HPO:Hid (∀ e w',PQ w es bs Q U G e w'->PO e w'):=hPO
 have HCS:Hid (cqp.Ans es bs qs ts name st Q U G):=hans
 have H20:Hid (okC es bs qs ts=true->qs.length <= 20/\ts.length <= 20):=h20
 have HNM:Hid (name.size <= 1048576):=hn
 clear hans hPO h20 hn
 have hWb:Below w.heap.size w ((w.alloc (.cells #[.slice (some ⟨a0,0,none⟩) es.length ec,.slice (some ⟨b0,0,none⟩) bs.length bc,.slice (some ⟨q0,0,none⟩) qs.length qc,.slice (some ⟨t0,0,none⟩) ts.length tc] 38)).alloc (.cells #[.slice none 0 0,.slice none 0 0,.slice none 0 0,.slice none 0 0] 38)):=((Below.refl _ _).alloc (Nat.le_refl _) _).alloc (by simp) _
 have hA:=bold (bnew w #[.slice (some ⟨a0,0,none⟩) es.length ec,.slice (some ⟨b0,0,none⟩) bs.length bc,.slice (some ⟨q0,0,none⟩) qs.length qc,.slice (some ⟨t0,0,none⟩) ts.length tc] 38) (.cells #[.slice none 0 0,.slice none 0 0,.slice none 0 0,.slice none 0 0] 38)
 have hR:=bnew (w.alloc (.cells #[.slice (some ⟨a0,0,none⟩) es.length ec,.slice (some ⟨b0,0,none⟩) bs.length bc,.slice (some ⟨q0,0,none⟩) qs.length qc,.slice (some ⟨t0,0,none⟩) ts.length tc] 38)) #[.slice none 0 0,.slice none 0 0,.slice none 0 0,.slice none 0 0] 38
 rw [World.size_alloc] at hR
 have hS:((w.alloc (.cells #[.slice (some ⟨a0,0,none⟩) es.length ec,.slice (some ⟨b0,0,none⟩) bs.length bc,.slice (some ⟨q0,0,none⟩) qs.length qc,.slice (some ⟨t0,0,none⟩) ts.length tc] 38)).alloc (.cells #[.slice none 0 0,.slice none 0 0,.slice none 0 0,.slice none 0 0] 38)).heap.size=w.heap.size+2:=by simp
 obtain ⟨W,hW⟩:∃ W,((w.alloc (.cells #[.slice (some ⟨a0,0,none⟩) es.length ec,.slice (some ⟨b0,0,none⟩) bs.length bc,.slice (some ⟨q0,0,none⟩) qs.length qc,.slice (some ⟨t0,0,none⟩) ts.length tc] 38)).alloc (.cells #[.slice none 0 0,.slice none 0 0,.slice none 0 0,.slice none 0 0] 38))=W:=⟨_,rfl⟩
 rw [hW] at hWb hA hR hS
 have HRW:Hid (RE w a0 es/\RB w b0 bs/\qu.R w q0 qs/\su.R w t0 ts/\(∀ r ∈ qs,∃ g h,r.ra=some ⟨g,0,none⟩/\r.ha=some ⟨h,0,none⟩/\Row flM.c 5 w w.heap.size r.ra r.rs/\Row flH.c 7 w w.heap.size r.ha r.hs)/\∀ r ∈ ts,cb.At w r):=⟨hE,hB,hQ,hT,hqr,htr⟩
 have HF:Hid (cb.Fit es bs qs ts):=F
 have HCP:Hid (∀ V,Below w.heap.size w V->Calls Tryz.prog 14 #[.agg #[.slice (some ⟨a0,0,none⟩) es.length ec,.slice (some ⟨b0,0,none⟩) bs.length bc,.slice (some ⟨q0,0,none⟩) qs.length qc,.slice (some ⟨t0,0,none⟩) ts.length tc]] V fun r w'=>∃ (g1 c1 h1 c2 gn S0:Nat) (x y:Value) (ks:List qu.E) (us:List su.E),r=.returned (.agg #[.slice (some ⟨g1,0,none⟩) es.length c1,.slice (some ⟨h1,0,none⟩) bs.length c2,x,y])/\Hid (cb.Same qs ks ts us)/\Hid (Ke V es bs g1 c1 h1 c2 S0 x y ks us w')):=fun V hV=>scc.spec_copy es bs qs ts a0 b0 q0 t0 ec bc qc tc V F (hE.below hV) (hB.below hV) (hQ.below hV) (hT.below hV) (fun r hr=>by obtain ⟨g,h,h1,h2,h3,h4⟩:=hqr r hr; exact ⟨g,h,h1,h2,h3.inn hV,h4.inn hV⟩) (fun r hr=>(htr r hr).below hV)
 have hcopy:=HCP.out W hWb
 obtain ⟨x0,x1,x2,x3⟩:=fl.q4 hA
 have HAB:Hid (W.heap[w.heap.size]?=some (.cells #[.slice (some ⟨a0,0,none⟩) es.length ec,.slice (some ⟨b0,0,none⟩) bs.length bc,.slice (some ⟨q0,0,none⟩) qs.length qc,.slice (some ⟨t0,0,none⟩) ts.length tc] 38 (0,0))/\W.heap[w.heap.size+1]?=some (.cells #[.slice none 0 0,.slice none 0 0,.slice none 0 0,.slice none 0 0] 38 (0,0))):=⟨hA,hR⟩
 have HOK:Hid (∀ V,Below w.heap.size w V->Calls Tryz.prog 17 #[.agg #[.slice (some ⟨a0,0,none⟩) es.length ec,.slice (some ⟨b0,0,none⟩) bs.length bc,.slice (some ⟨q0,0,none⟩) qs.length qc,.slice (some ⟨t0,0,none⟩) ts.length tc]] V fun e w'=>e=.returned (.bool (okC es bs qs ts))/\Below V.heap.size V w'):=hok
 have HWB:Hid (Below w.heap.size w W):=hWb
 have HS2:Hid (W.heap.size=w.heap.size+2):=hS
 clear hE hB hQ hT hqr htr F hA hR hok hS
 go_enter Tryz.func5,Tryz.ntmps5
 go_wp2_with (go_at_call 14; fail)
 clear hW x0 x1 x2 x3
 refine hcopy.mono ?_
 rintro e w1 ⟨g1,c1,h1,c2,gn0,S0,x,y,ks,us,rfl,HSM,HKE⟩
 obtain ⟨qa,qk,hxf⟩:∃ b c,x=.slice b ks.length c:=own_form HKE.out.qo
 obtain ⟨tu,tk,hyf⟩:∃ b c,y=.slice b us.length c:=own_form HKE.out.so
 subst hxf hyf
 have hal:=fl.bl w1 (.cells #[.slice (some ⟨g1,0,none⟩) es.length c1,.slice (some ⟨h1,0,none⟩) bs.length c2,.slice qa ks.length qk,.slice tu us.length tk] 38)
 have HG0:Hid (Kq w es bs qs ts name a0 b0 q0 t0 ec bc qc tc g1 c1 h1 c2 w1.heap.size (w.heap.size+2) (.slice qa ks.length qk) (.slice tu us.length tk) ks us (w1.alloc (.cells #[.slice (some ⟨g1,0,none⟩) es.length c1,.slice (some ⟨h1,0,none⟩) bs.length c2,.slice qa ks.length qk,.slice tu us.length tk] 38))):=kq_of HKE.out HWB.out (by rw [HS2.out]; omega) HAB.out.1 HAB.out.2 hal (bnew w1 _ _)
 obtain ⟨Y,hY⟩:∃ Y,w1.alloc (.cells #[.slice (some ⟨g1,0,none⟩) es.length c1,.slice (some ⟨h1,0,none⟩) bs.length c2,.slice qa ks.length qk,.slice tu us.length tk] 38)=Y:=⟨_,rfl⟩
 rw [hY] at HG0
 have hatQ:=fun V (hV:Below w.heap.size w V)=>qu.spec_at qs (some ⟨q0,0,none⟩) (some ⟨a0,0,none⟩) (some ⟨b0,0,none⟩) (some ⟨t0,0,none⟩) qc es.length ec bs.length bc ts.length tc name V HF.out.ql (qrow (HRW.out.2.2.1.below hV))
 have hatT:=fun V (hV:Below w.heap.size w V)=>su.spec_at ts (some ⟨t0,0,none⟩) (some ⟨a0,0,none⟩) (some ⟨b0,0,none⟩) (some ⟨q0,0,none⟩) tc es.length ec bs.length bc qs.length qc name V HF.out.tl (trow (HRW.out.2.2.2.1.below hV))
 obtain ⟨x0,x1,x2,x3⟩:=fl.q4 HG0.out.box
 clear hcopy HKE hal hWb
 obtain ⟨pq,hpq⟩:∃ z,qu.place qs name=z:=⟨_,rfl⟩
 obtain ⟨pt,hpt⟩:∃ z,su.place ts name=z:=⟨_,rfl⟩
 obtain ⟨ok,hokv⟩:∃ z,okC es bs qs ts=z:=⟨_,rfl⟩
 have HBB:Hid (Below w.heap.size w Y):=HG0.out.bel
 have hlt:=(Array.getElem?_eq_some_iff.1 HG0.out.box).1
 have r0:∀ N:qi.Cls Y,N.x.cell? ⟨w.heap.size,0,none⟩=some (.slice (some ⟨a0,0,none⟩) es.length ec):=fun N=>bcell (bstay HG0.out.box N.h hlt) rfl
 have r1:∀ N:qi.Cls Y,N.x.cell? ⟨w.heap.size,1,none⟩=some (.slice (some ⟨b0,0,none⟩) bs.length bc):=fun N=>bcell (bstay HG0.out.box N.h hlt) rfl
 have r2:∀ N:qi.Cls Y,N.x.cell? ⟨w.heap.size,2,none⟩=some (.slice (some ⟨q0,0,none⟩) qs.length qc):=fun N=>bcell (bstay HG0.out.box N.h hlt) rfl
 have r3:∀ N:qi.Cls Y,N.x.cell? ⟨w.heap.size,3,none⟩=some (.slice (some ⟨t0,0,none⟩) ts.length tc):=fun N=>bcell (bstay HG0.out.box N.h hlt) rfl
 have kq:∀ N:qi.Cls Y,Calls Tryz.prog 15 #[.agg #[.slice (some ⟨a0,0,none⟩) es.length ec,.slice (some ⟨b0,0,none⟩) bs.length bc,.slice (some ⟨q0,0,none⟩) qs.length qc,.slice (some ⟨t0,0,none⟩) ts.length tc],.string name] N.x fun e w'=>e=.returned (.int .i64 pq)/\qi.T Y w':=fun N=>(hatQ N.x (HBB.out.trans (Below.mono N.h HBB.out.size))).mono fun e w' h=>⟨by rw [<- hpq]; exact h.1,Below.trans N.h (h.2.mono (Below.size N.h))⟩
 have kt:∀ N:qi.Cls Y,Calls Tryz.prog 16 #[.agg #[.slice (some ⟨a0,0,none⟩) es.length ec,.slice (some ⟨b0,0,none⟩) bs.length bc,.slice (some ⟨q0,0,none⟩) qs.length qc,.slice (some ⟨t0,0,none⟩) ts.length tc],.string name] N.x fun e w'=>e=.returned (.int .i64 pt)/\qi.T Y w':=fun N=>(hatT N.x (HBB.out.trans (Below.mono N.h HBB.out.size))).mono fun e w' h=>⟨by rw [<- hpt]; exact h.1,Below.trans N.h (h.2.mono (Below.size N.h))⟩
 clear hatQ hatT
 go_wp2
 clear hY x0 x1 x2 x3
 refine qi.region_in Y (qi.T.refl Y) (by kernel_rfl) (by kernel_rfl) ?_
 repeat (go_big_quiet_step (first | (go_at_call 15; refine (kq _).mono ?_; rintro e wx ⟨rfl,hTx⟩; exact ⟨rfl,⟨wx,hTx⟩,rfl⟩) | (go_at_call 16; refine (kt _).mono ?_; rintro e wx ⟨rfl,hTx⟩; exact ⟨rfl,⟨wx,hTx⟩,rfl⟩)))
 refine wpQuiet_nil ?_
 rintro _ ⟨N,rfl⟩
 have hN:Below Y.heap.size Y N.x:=N.h
 generalize N.x=w2 at hN ⊢
 clear N kq kt r0 r1 r2 r3
 have HG2:Hid (Kq w es bs qs ts name a0 b0 q0 t0 ec bc qc tc g1 c1 h1 c2 w1.heap.size (w.heap.size+2) (.slice qa ks.length qk) (.slice tu us.length tk) ks us w2):=HG0.out.on hN
 clear HG0 hN HBB hlt
 have k:=HOK.out w2 HG2.out.bel
 rw [hokv] at k
 obtain ⟨x0,x1,x2,x3⟩:=fl.q4 HG2.out.box
 go_wp2_with (go_at_call 17; fail)
 clear x0 x1 x2 x3
 refine k.mono ?_
 rintro e w3 ⟨rfl,hb3⟩
 have HG:Hid (Kq w es bs qs ts name a0 b0 q0 t0 ec bc qc tc g1 c1 h1 c2 w1.heap.size (w.heap.size+2) (.slice qa ks.length qk) (.slice tu us.length tk) ks us w3):=HG2.out.on hb3
 clear k HG2 hb3
 have hcs:=cqp.ans_cases HCS.out
 rw [hpq,hpt,hokv] at hcs
 clear HCS
 rcases hcs with ⟨rfl,rfl,rfl,rfl⟩ | ⟨rfl,dq,dt,rfl,rfl,rfl⟩ | ⟨rfl,dq,dt,rfl,rfl,hG⟩ | ⟨rfl,dq,dt,rfl,hq0,hT2⟩ | ⟨rfl,dq,dt,rfl,hu0,hQ2⟩
 ·clear hpq hpt hokv HOK HCP H20 HRW HF
  have HFN:=HG.out.fin HSM.out
  obtain ⟨z0,z1,z2,z3⟩:=fl.q4 HG.out.res
  obtain ⟨f0,f1,f2,f3⟩:=fl.r4 HG.out.res
  obtain ⟨n0,n1,n2,n3⟩:=fl.q4 HG.out.gnb
  have hg1:w1.heap.size ≠ w.heap.size+1:=by have:=HG.out.gl; omega
  have hg3:w.heap.size+1 ≠ w1.heap.size:=by omega
  go_wp2
  exact bodyPost_ret (v:=.tuple #[.agg #[.slice (some ⟨g1,0,none⟩) es.length c1,.slice (some ⟨h1,0,none⟩) bs.length c2,.slice qa ks.length qk,.slice tu us.length tk],.bool false]) (by simp [results,Tryz.results5,go_sem,z0,z1,z2,z3]) rfl (HPO.out _ _ ⟨some ⟨g1,0,none⟩,some ⟨h1,0,none⟩,qa,tu,c1,c2,qk,tk,ks,us,by rw [HSM.out.ql,HSM.out.tl] <;> rfl,HFN.out _ (by repeat' (first | apply fo.Tn.set | exact fo.Tn.of _ (Below.drew (Below.refl _ _)) | exact fo.Tn.refl _ _ | (show _=_; omega)))⟩)
 ·have e1:decide ((0:Int) <= pq)=true:=decide_eq_true dq
  have e2:decide ((0:Int) <= pt)=false:=decide_eq_false dt
  clear hpq hpt hokv HOK HCP H20 HRW HF
  cases st with
  | true =>
   have HFN:=HG.out.fin HSM.out
   obtain ⟨z0,z1,z2,z3⟩:=fl.q4 HG.out.res
   obtain ⟨f0,f1,f2,f3⟩:=fl.r4 HG.out.res
   obtain ⟨n0,n1,n2,n3⟩:=fl.q4 HG.out.gnb
   have hg1:w1.heap.size ≠ w.heap.size+1:=by have:=HG.out.gl; omega
   have hg3:w.heap.size+1 ≠ w1.heap.size:=by omega
   go_wp2
   exact bodyPost_ret (v:=.tuple #[.agg #[.slice (some ⟨g1,0,none⟩) es.length c1,.slice (some ⟨h1,0,none⟩) bs.length c2,.slice qa ks.length qk,.slice tu us.length tk],.bool false]) (by simp [results,Tryz.results5,go_sem,z0,z1,z2,z3]) rfl (HPO.out _ _ ⟨some ⟨g1,0,none⟩,some ⟨h1,0,none⟩,qa,tu,c1,c2,qk,tk,ks,us,by rw [HSM.out.ql,HSM.out.tl] <;> rfl,HFN.out _ (by repeat' (first | apply fo.Tn.set | exact fo.Tn.of _ (Below.drew (Below.refl _ _)) | exact fo.Tn.refl _ _ | (show _=_; omega)))⟩)
  | false =>
   have HFN:=HG.out.fin HSM.out
   obtain ⟨z0,z1,z2,z3⟩:=fl.q4 HG.out.res
   obtain ⟨f0,f1,f2,f3⟩:=fl.r4 HG.out.res
   obtain ⟨n0,n1,n2,n3⟩:=fl.q4 HG.out.gnb
   have hg1:w1.heap.size ≠ w.heap.size+1:=by have:=HG.out.gl; omega
   have hg3:w.heap.size+1 ≠ w1.heap.size:=by omega
   go_wp2
   exact bodyPost_ret (v:=.tuple #[.agg #[.slice (some ⟨g1,0,none⟩) es.length c1,.slice (some ⟨h1,0,none⟩) bs.length c2,.slice qa ks.length qk,.slice tu us.length tk],.bool true]) (by simp [results,Tryz.results5,go_sem,z0,z1,z2,z3]) rfl (HPO.out _ _ ⟨some ⟨g1,0,none⟩,some ⟨h1,0,none⟩,qa,tu,c1,c2,qk,tk,ks,us,by rw [HSM.out.ql,HSM.out.tl] <;> rfl,HFN.out _ (by repeat' (first | apply fo.Tn.set | exact fo.Tn.of _ (Below.drew (Below.refl _ _)) | exact fo.Tn.refl _ _ | (show _=_; omega)))⟩)
 ·have e1:decide ((0:Int) <= pq)=false:=decide_eq_false dq
  have e2:decide ((0:Int) <= pt)=true:=decide_eq_true dt
  clear hpq hpt hokv HOK HCP H20 HRW HF
  cases st with
  | true =>
   subst hG
   have HFN:=HG.out.fin HSM.out
   obtain ⟨z0,z1,z2,z3⟩:=fl.q4 HG.out.res
   obtain ⟨f0,f1,f2,f3⟩:=fl.r4 HG.out.res
   obtain ⟨n0,n1,n2,n3⟩:=fl.q4 HG.out.gnb
   have hg1:w1.heap.size ≠ w.heap.size+1:=by have:=HG.out.gl; omega
   have hg3:w.heap.size+1 ≠ w1.heap.size:=by omega
   go_wp2
   exact bodyPost_ret (v:=.tuple #[.agg #[.slice (some ⟨g1,0,none⟩) es.length c1,.slice (some ⟨h1,0,none⟩) bs.length c2,.slice qa ks.length qk,.slice tu us.length tk],.bool true]) (by simp [results,Tryz.results5,go_sem,z0,z1,z2,z3]) rfl (HPO.out _ _ ⟨some ⟨g1,0,none⟩,some ⟨h1,0,none⟩,qa,tu,c1,c2,qk,tk,ks,us,by rw [HSM.out.ql,HSM.out.tl] <;> rfl,HFN.out _ (by repeat' (first | apply fo.Tn.set | exact fo.Tn.of _ (Below.drew (Below.refl _ _)) | exact fo.Tn.refl _ _ | (show _=_; omega)))⟩)
  | false =>
   subst hG
   have HFN:=HG.out.fin HSM.out
   obtain ⟨z0,z1,z2,z3⟩:=fl.q4 HG.out.res
   obtain ⟨f0,f1,f2,f3⟩:=fl.r4 HG.out.res
   obtain ⟨n0,n1,n2,n3⟩:=fl.q4 HG.out.gnb
   have hg1:w1.heap.size ≠ w.heap.size+1:=by have:=HG.out.gl; omega
   have hg3:w.heap.size+1 ≠ w1.heap.size:=by omega
   go_wp2
   exact bodyPost_ret (v:=.tuple #[.agg #[.slice (some ⟨g1,0,none⟩) es.length c1,.slice (some ⟨h1,0,none⟩) bs.length c2,.slice qa ks.length qk,.slice tu us.length tk],.bool false]) (by simp [results,Tryz.results5,go_sem,z0,z1,z2,z3]) rfl (HPO.out _ _ ⟨some ⟨g1,0,none⟩,some ⟨h1,0,none⟩,qa,tu,c1,c2,qk,tk,ks,us,by rw [HSM.out.ql,HSM.out.tl] <;> rfl,HFN.out _ (by repeat' (first | apply fo.Tn.set | exact fo.Tn.of _ (Below.drew (Below.refl _ _)) | exact fo.Tn.refl _ _ | (show _=_; omega)))⟩)
 ·have e1:decide ((0:Int) <= pq)=false:=decide_eq_false dq
  have e2:decide ((0:Int) <= pt)=false:=decide_eq_false dt
  have HT2:Hid (Q=qs/\((okC es bs qs (cqp.insT ts name)=false/\U=ts/\G=false) ∨ (okC es bs qs (cqp.insT ts name)=true/\U=cqp.insT ts name/\G=true))):=⟨hq0,hT2⟩
  clear hT2 hq0 hpq hpt
  have HOKV:Hid (okC es bs qs ts=true):=hokv
  clear hokv
  go_wp2
  go_loopw [11] (fun v wr=>∃ k:Nat,k <= ts.length/\v=.int .i64 k/\Hid (∀ (i:Nat) a,i < k->ts[i]?=some a->cmpT a.nm name < 0)/\Hid (wr=w3)) (fun v _=>ts.length - (intOf v).toNat)
  case atStart=>exact ⟨0,Nat.zero_le _,rfl,fun i a h=>by omega,rfl⟩
  case round =>
   obtain ⟨k,hk,rfl,hlow,hwr⟩:=hrel
   have hbig:ts.length <= 1048576:=HF.out.tl
   obtain rfl:=hwr.out.symm
   clear hwr
   have x3:w3.cell? ⟨w.heap.size,3,none⟩=some (.slice (some ⟨t0,0,none⟩) ts.length tc):=bcell HG.out.box rfl
   by_cases hkl:k < ts.length
   ·have g0:ts[k]?=some ts[k]:=List.getElem?_eq_getElem hkl
    have y0:=(HRW.out.2.2.2.1.below HG.out.bel).2 k _ g0 |>.1
    have HG0:Hid (ts[k]?=some ts[k]):=g0
    obtain ⟨⟨nm,lo,nx,ra,rc,rs,ha,hc,hs⟩,he⟩:∃ e,ts[k]=e:=⟨_,rfl⟩
    rw [he] at y0 HG0
    simp only at y0
    have i2:(k:Int) < (ts.length:Int):=by omega
    clear g0 he
    cases hls:Op.bytesLess nm.toList name.toList with
    | true =>
     have hnext:Hid (∀ (i:Nat) a,i < k+1->ts[i]?=some a->cmpT a.nm name < 0):=fun i a hi ha=>by
      by_cases e:i=k
      ·subst e; rw [HG0.out] at ha; cases ha; exact Go.Proofs.YtaoefccgdfcchaaGreat.ro.cmp_neg.2 hls
      ·exact hlow.out i a (by omega) ha
     go_wp2
     go_roundw
     case rel=>exact ⟨k+1,by omega,by go_num,hnext,by first | exact (trivial:True) | exact (rfl:w3=w3)⟩
     case measure=>simp [intOf]; omega
    | false =>
     have HPS:Hid (cqp.posT ts name=k):=cqp.pos_of hk hlow.out (fun a ha=>by
      rw [HG0.out] at ha; cases ha
      rcases Int.lt_or_le (cmpT nm name) 0 with h | h
      ·have:=Go.Proofs.YtaoefccgdfcchaaGreat.ro.cmp_neg.1 h; rw [show Op.bytesLess nm.toList name.toList=true from this] at hls; cases hls
      ·exact h)
     have hkl2:k <= us.length:=by rw [HSM.out.tl]; exact hk
     have hl20:us.length <= 20:=by rw [HSM.out.tl]; exact (H20.out HOKV.out).2
     have HSL:Hid ((tu=none/\us.length=0/\tk=0) ∨ ∃ g,tu=some ⟨g,0,none⟩/\us.length <= tk):=tab.form HG.out.so
     obtain ⟨i1,hi,hz0,hz1,hz2⟩:=ins.infoX
     go_wp2
     refine tab.region (p:=⟨w3,54,5,(us.take k).flatMap su.c,[Value.string name,Value.int .i64 0,Value.int .i64 0,Value.slice none 0 0,Value.slice none 0 0],(us.drop k).flatMap su.c,k,us.length - k,w1.heap.size,3⟩) (fun g=>[(64,.slice (some ⟨g.e0,0,none⟩) 0 0),(65,.pointer (some ⟨w1.heap.size,3,none⟩)),(66,.slice tu us.length tk),(67,.int .i64 k),(68,tab.cut1 tu k tk),(69,g.v1),(70,.string name),(71,.agg #[.string name,.int .i64 0,.int .i64 0,.slice none 0 0,.slice none 0 0]),(72,.slice (some ⟨g.h,0,none⟩) 1 1),(73,g.v2),(74,.pointer (some ⟨w1.heap.size,3,none⟩)),(75,.slice tu us.length tk),(76,.int .i64 k),(77,tab.cut2 tu k us.length tk 5),(78,g.v3),(79,.pointer (some ⟨w1.heap.size,3,none⟩))]) [64,65,66,67,68,69,70,71,72,73,74,75,76,77,78,79] ⟨0,5,8,9,14,16⟩ ⟨0,.slice none 0 0,0,.slice none 0 0,.slice none 0 0⟩ rfl (by kernel_rfl) (by kernel_rfl) (fun _=>rfl) (by kernel_rfl) ?each ?fin
     case each =>
      refine ⟨tab.lift rfl (ta.st0 (x:=⟨0,5,8,9,14,16⟩) (d:=64) (idx:=0) J0_up (by simp) rfl (by simp) (fun g=>rfl) (fun g=>rfl) (fun g e=>rfl) (fun s W=>by simp [execOp,go_sem])),?_⟩
      refine ⟨tab.quiet rfl (by decide) (by simp) (.pointer (some ⟨w1.heap.size,3,none⟩)) (by rintro s _ ⟨⟩; exact dk.sets_on _ (by simp) _ rfl) (fun L hc h0=>tab.back hc (j:=16) rfl ⟨⟨1,.phase⟩,by simp,rfl,rfl⟩ h0) (fun s W hb=>by simp [execOp,go_sem,Act.eval,dk.sets_get,List.lookup]),?_⟩
      refine ⟨tab.quiet rfl (by decide) (by simp) (.slice tu us.length tk) (by rintro s _ ⟨⟩; exact dk.sets_on _ (by simp) _ rfl) (fun L hc h0=>tab.back hc (j:=16) rfl ⟨⟨2,.phase⟩,by simp,rfl,rfl⟩ h0) (fun s W hb=>by have c:W.cell? ⟨w1.heap.size,3,none⟩=some (.slice tu us.length tk):=bcell (bstay HG.out.gnb hb (Array.getElem?_eq_some_iff.1 HG.out.gnb).1) rfl; simp [execOp,go_sem,Act.eval,dk.sets_get,List.lookup,c]),?_⟩
      refine ⟨tab.quiet rfl (by decide) (by simp) (.int .i64 k) (by rintro s _ ⟨⟩; exact dk.sets_on _ (by simp) _ rfl) (fun L hc h0=>tab.back hc (j:=16) rfl ⟨⟨3,.phase⟩,by simp,rfl,rfl⟩ h0) (fun s W hb=>by simp [execOp,go_sem,Act.eval,dk.sets_get,List.lookup]),?_⟩
      refine ⟨tab.quiet rfl (by decide) (by simp) (tab.cut1 tu k tk) (by rintro s _ ⟨⟩; exact dk.sets_on _ (by simp) _ rfl) (fun L hc h0=>tab.back hc (j:=16) rfl ⟨⟨4,.phase⟩,by simp,rfl,rfl⟩ h0) (fun s W hb=>?cut1),?_⟩
      case cut1 =>
       rcases HSL.out with ⟨e1,e2,e3⟩ | ⟨gg,e1,e2⟩
       ·have k0:k=0:=by omega
        subst e1 k0 e3
        simp [execOp,go_sem,Act.eval,dk.sets_get,List.lookup,tab.cut1,e2]
       ·subst e1
        have h3:k <= tk:=by omega
        simp [execOp,go_sem,Act.eval,dk.sets_get,List.lookup,tab.cut1,h3]
      refine ⟨tab.st1 (x:=⟨0,5,8,9,14,16⟩) (d:=69) (s1:=64) (s2:=68) (idx:=5) (sv:=(tab.cut1 tu k tk)) rfl J0_up Tryz.underlying36 hi hz0 hz1 hz2 rfl (by show 0 < 5; decide) rfl rfl ⟨by simp,by simp,by simp⟩ (fun g=>rfl) (fun g=>rfl) (fun g=>rfl) (fun g=>rfl) (fun g v=>rfl) (fun W hb=>tab.src1 su.c_len (su.own_stays HG.out.so hb) hkl2) (oneT _) (by show k <= 1048576; omega) (by show (0+k)*80 <= 140737488355328; omega) ⟨⟨0,.data⟩,by simp,rfl,rfl⟩,?_⟩
      refine ⟨tab.quiet rfl (by decide) (by simp) (.string name) (by rintro s _ ⟨⟩; exact dk.sets_on _ (by simp) _ rfl) (fun L hc h0=>tab.back hc (j:=16) rfl ⟨⟨6,.phase⟩,by simp,rfl,rfl⟩ h0) (fun s W hb=>by simp [execOp,go_sem,Act.eval,dk.sets_get,List.lookup]),?_⟩
      refine ⟨tab.quiet rfl (by decide) (by simp) (.agg #[.string name,.int .i64 0,.int .i64 0,.slice none 0 0,.slice none 0 0]) (by rintro s _ ⟨⟩; exact dk.sets_on _ (by simp) _ rfl) (fun L hc h0=>tab.back hc (j:=16) rfl ⟨⟨7,.phase⟩,by simp,rfl,rfl⟩ h0) (fun s W hb=>by simp [execOp,go_sem,Act.eval,dk.sets_get,List.lookup]),?_⟩
      refine ⟨tab.lift rfl (ta.st2 (x:=⟨0,5,8,9,14,16⟩) (d:=72) (idx:=8) J0_up (by simp) rfl (by simp) (fun g=>rfl) (fun g=>rfl) (fun g e=>rfl) (fun s W=>by simp [execOp,go_sem,Act.eval,dk.sets_get,List.lookup])),?_⟩
      refine ⟨tab.lift rfl (ta.st3 (x:=⟨0,5,8,9,14,16⟩) (d:=73) (s1:=69) (s2:=72) (idx:=9) J0_up Tryz.underlying36 hi hz0 hz1 hz2 rfl (by show 0 < 5; decide) rfl rfl ⟨by simp,by simp,by simp⟩ (fun g=>rfl) (fun g=>rfl) (fun g=>rfl) (fun g=>rfl) (fun g v=>rfl) rfl (by intro u hu; simp at hu; rcases hu with rfl | rfl | rfl <;> rfl) (by show k <= 1048576; omega) (by show (k+1)*80 <= 140737488355328; omega) ⟨⟨5,.data⟩,by simp,rfl,rfl⟩ ⟨⟨8,.data⟩,by simp,rfl,rfl⟩),?_⟩
      refine ⟨tab.quiet rfl (by decide) (by simp) (.pointer (some ⟨w1.heap.size,3,none⟩)) (by rintro s _ ⟨⟩; exact dk.sets_on _ (by simp) _ rfl) (fun L hc h0=>tab.back hc (j:=16) rfl ⟨⟨10,.phase⟩,by simp,rfl,rfl⟩ h0) (fun s W hb=>by simp [execOp,go_sem,Act.eval,dk.sets_get,List.lookup]),?_⟩
      refine ⟨tab.quiet rfl (by decide) (by simp) (.slice tu us.length tk) (by rintro s _ ⟨⟩; exact dk.sets_on _ (by simp) _ rfl) (fun L hc h0=>tab.back hc (j:=16) rfl ⟨⟨11,.phase⟩,by simp,rfl,rfl⟩ h0) (fun s W hb=>by have c:W.cell? ⟨w1.heap.size,3,none⟩=some (.slice tu us.length tk):=bcell (bstay HG.out.gnb hb (Array.getElem?_eq_some_iff.1 HG.out.gnb).1) rfl; simp [execOp,go_sem,Act.eval,dk.sets_get,List.lookup,c]),?_⟩
      refine ⟨tab.quiet rfl (by decide) (by simp) (.int .i64 k) (by rintro s _ ⟨⟩; exact dk.sets_on _ (by simp) _ rfl) (fun L hc h0=>tab.back hc (j:=16) rfl ⟨⟨12,.phase⟩,by simp,rfl,rfl⟩ h0) (fun s W hb=>by simp [execOp,go_sem,Act.eval,dk.sets_get,List.lookup]),?_⟩
      refine ⟨tab.quiet rfl (by decide) (by simp) (tab.cut2 tu k us.length tk 5) (by rintro s _ ⟨⟩; exact dk.sets_on _ (by simp) _ rfl) (fun L hc h0=>tab.back hc (j:=16) rfl ⟨⟨13,.phase⟩,by simp,rfl,rfl⟩ h0) (fun s W hb=>?cut2),?_⟩
      case cut2 =>
       rcases HSL.out with ⟨e1,e2,e3⟩ | ⟨gg,e1,e2⟩
       ·have k0:k=0:=by omega
        subst e1 k0 e3
        simp [execOp,go_sem,Act.eval,dk.sets_get,List.lookup,tab.cut2,e2]
       ·subst e1
        by_cases h4:tk=k
        ·simp [execOp,go_sem,Act.eval,dk.sets_get,List.lookup,tab.cut2,h4,hkl2]
        ·simp [execOp,go_sem,Act.eval,dk.sets_get,List.lookup,tab.cut2,h4,hkl2]
      refine ⟨tab.st4 (x:=⟨0,5,8,9,14,16⟩) (d:=78) (s1:=73) (s2:=77) (idx:=14) (sv:=(tab.cut2 tu k us.length tk 5)) rfl J0_up Tryz.underlying36 hi hz0 hz1 hz2 rfl (by show 0 < 5; decide) rfl rfl ⟨by simp,by simp,by simp⟩ (fun g=>rfl) (fun g=>rfl) (fun g=>rfl) (fun g=>rfl) (fun g v=>rfl) (fun W hb=>tab.src2 su.c_len (su.own_stays HG.out.so hb) hkl2) (oneT _) (by show k <= 1048576/\us.length - k <= 1048576; omega) (by show (k+1+(us.length - k))*80 <= 140737488355328; omega) ⟨⟨9,.data⟩,by simp,rfl,rfl⟩,?_⟩
      refine ⟨tab.quiet rfl (by decide) (by simp) (.pointer (some ⟨w1.heap.size,3,none⟩)) (by rintro s _ ⟨⟩; exact dk.sets_on _ (by simp) _ rfl) (fun L hc h0=>tab.back hc (j:=16) rfl ⟨⟨15,.data⟩,by simp,rfl,rfl⟩ h0) (fun s W hb=>by simp [execOp,go_sem,Act.eval,dk.sets_get,List.lookup]),?_⟩
      exact ⟨tab.lift rfl (ta.st5 (x:=⟨0,5,8,9,14,16⟩) J0_up (by simp) rfl (Array.getElem?_eq_some_iff.1 HG.out.gnb).1 (fun s W h hv=>by obtain ⟨av,nv,cv,hv⟩:=hv; have hu:=h _ _ HG.out.gnb; have c:W.cell? ⟨w1.heap.size,3,none⟩=some (.slice tu us.length tk):=bcell hu rfl; have f:=bfree hu 3; rw [hv]; simp [execOp,go_sem,Act.eval,dk.sets_get,List.lookup,c,f]) ⟨⟨14,.data⟩,by simp,rfl,rfl⟩),trivial⟩
     case fin =>
      intro g L W5 hL hC
      obtain ⟨V,hV,hWV,hown⟩:=ta.done hC J0_up (N:=17) (by decide) hL
      replace hown:W5.ownsRow w3.heap.size 54 5 g.v3 (k+1+(us.length - k)) ((us.take k).flatMap su.c++[Value.string name,Value.int .i64 0,Value.int .i64 0,Value.slice none 0 0,Value.slice none 0 0]++(us.drop k).flatMap su.c):=hown
      have hps:us.take k++cqp.newT name :: us.drop k=cqp.insT us name:=by
       unfold cqp.insT
       rw [cqp.posT_same HSM.out,HPS.out]
      have hlen:k+1+(us.length - k)=(cqp.insT us name).length:=by rw [cqp.insT_len]; omega
      have hfl:(us.take k).flatMap su.c++[Value.string name,Value.int .i64 0,Value.int .i64 0,Value.slice none 0 0,Value.slice none 0 0]++(us.drop k).flatMap su.c=(cqp.insT us name).flatMap su.c:=by rw [<- hps]; simp [su.c,cqp.newT]
      rw [hlen,hfl] at hown
      obtain ⟨a3,c3,hv3⟩:=own_form hown
      rw [hv3] at hown hWV
      replace hV:Below w3.heap.size w3 V:=hV
      replace hWV:W5=V.setCell ⟨w1.heap.size,3,none⟩ (.slice a3 (cqp.insT us name).length c3):=hWV
      have hlow:w.heap.size+2 <= w3.heap.size:=by have:=HG.out.gl; have:=(Array.getElem?_eq_some_iff.1 HG.out.gnb).1; omega
      have HG5:Hid (Kq w es bs qs ts name a0 b0 q0 t0 ec bc qc tc g1 c1 h1 c2 w1.heap.size (w.heap.size+2) (.slice qa ks.length qk) (.slice a3 (cqp.insT us name).length c3) ks (cqp.insT us name) W5):=by
       rw [hWV] at hown ⊢
       exact HG.out.putT hV hown (fun r hr=>cqp.ins_mem hr) hlow
      have F5:=cb.fit_same HF.out HSM.out
      have hk5:=HG5.out.ok (by rw [<- hps]; exact fit_t F5 hl20 HNM.out hkl2) HNM.out
      have HSM5:Hid (cb.Same qs ks (cqp.insT ts name) (cqp.insT us name)):=cqp.same_insT HSM.out
      rw [cb.ok_same HSM5.out] at hk5
      obtain ⟨o0,o1,o2,o3⟩:=fl.q4 HG5.out.gnb
      obtain ⟨n5,hn5⟩:∃ n5,(cqp.insT us name).length=n5:=⟨_,rfl⟩
      have HN5:Hid (∀ _:Unit,(cqp.insT us name).length=n5):=fun _=>hn5
      rw [hn5] at hk5 o3 HG5 hv3
      simp only [dk.sets,hv3]
      clear hC hL hV hWV hown hlen hv3 hn5 hps hfl F5 hi hz0 hz1 hz2 HSL hlow
      go_wp2_with (go_at_call 17; fail)
      clear o0 o1 o2 o3
      refine hk5.mono ?_
      rintro e w6 ⟨rfl,hb6⟩
      have HG6:Hid (Kq w es bs qs ts name a0 b0 q0 t0 ec bc qc tc g1 c1 h1 c2 w1.heap.size (w.heap.size+2) (.slice qa ks.length qk) (.slice a3 n5 c3) ks (cqp.insT us name) w6):=HG5.out.on hb6
      clear hk5 HG5 hb6 HG
      obtain ⟨hq0,⟨hk0,hu0,rfl⟩ | ⟨hk0,hu0,rfl⟩⟩:=HT2.out
      ·rw [hk0]
       have hcp:=HCP.out w6 HG6.out.bel
       obtain ⟨x0,x1,x2,x3⟩:=fl.q4 HG6.out.box
       go_wp2_with (go_at_call 14; fail)
       clear x0 x1 x2 x3
       refine hcp.mono ?_
       rintro e w7 ⟨g7,c7,h7,d7,gn7,S7,x7,y7,ks7,us7,rfl,HSM7,HKE7⟩
       obtain ⟨qa7,qk7,hxf⟩:∃ b c,x7=.slice b ks7.length c:=own_form HKE7.out.qo
       obtain ⟨ta7,tk7,hyf⟩:∃ b c,y7=.slice b us7.length c:=own_form HKE7.out.so
       subst hxf hyf
       have hres:=bstay HG6.out.res HKE7.out.bel (Array.getElem?_eq_some_iff.1 HG6.out.res).1
       have HFN:=cn.sa_res (v0:=.slice (some ⟨g7,0,none⟩) es.length c7) (v1:=.slice (some ⟨h7,0,none⟩) bs.length d7) (v2:=.slice qa7 ks7.length qk7) (v3:=.slice ta7 us7.length tk7) HG6.out.bel (ke_sa HKE7.out HSM7.out) hres (by omega)
       obtain ⟨z0,z1,z2,z3⟩:=fl.q4 hres
       obtain ⟨f0,f1,f2,f3⟩:=fl.r4 hres
       go_wp2
       exact bodyPost_ret (v:=.tuple #[.agg #[.slice (some ⟨g7,0,none⟩) es.length c7,.slice (some ⟨h7,0,none⟩) bs.length d7,.slice qa7 ks7.length qk7,.slice ta7 us7.length tk7],.bool false]) (by simp [results,Tryz.results5,go_sem,z0,z1,z2,z3]) rfl (HPO.out _ _ ⟨some ⟨g7,0,none⟩,some ⟨h7,0,none⟩,qa7,ta7,c7,d7,qk7,tk7,ks7,us7,by rw [hq0,hu0,HSM7.out.ql,HSM7.out.tl],by rw [hq0,hu0]; exact HFN⟩)
      ·rw [hk0]
       have HFN:=HG6.out.fin (Q:=Q) (U:=U) (by rw [hq0,hu0]; exact HSM5.out)
       obtain ⟨z0,z1,z2,z3⟩:=fl.q4 HG6.out.res
       obtain ⟨f0,f1,f2,f3⟩:=fl.r4 HG6.out.res
       obtain ⟨n0,n1,n2,n3⟩:=fl.q4 HG6.out.gnb
       have hg1:w1.heap.size ≠ w.heap.size+1:=by have:=HG6.out.gl; omega
       have hg3:w.heap.size+1 ≠ w1.heap.size:=by omega
       go_wp2
       exact bodyPost_ret (v:=.tuple #[.agg #[.slice (some ⟨g1,0,none⟩) es.length c1,.slice (some ⟨h1,0,none⟩) bs.length c2,.slice qa ks.length qk,.slice a3 n5 c3],.bool true]) (by simp [results,Tryz.results5,go_sem,z0,z1,z2,z3]) rfl (HPO.out _ _ ⟨some ⟨g1,0,none⟩,some ⟨h1,0,none⟩,qa,a3,c1,c2,qk,c3,ks,cqp.insT us name,by rw [hq0,hu0,<- HSM5.out.ql,<- HSM5.out.tl,HN5.out ()],HFN.out _ (by repeat' (first | apply fo.Tn.set | exact fo.Tn.of _ (Below.drew (Below.refl _ _)) | exact fo.Tn.refl _ _ | (show _=_; omega)))⟩)
   ·have HPS:Hid (cqp.posT ts name=k):=cqp.pos_of hk hlow.out (fun a ha=>by have:=(List.getElem?_eq_some_iff.1 ha).1; omega)
    have i2:¬ (k:Int) < (ts.length:Int):=by omega
    have hkl2:k <= us.length:=by rw [HSM.out.tl]; exact hk
    have hl20:us.length <= 20:=by rw [HSM.out.tl]; exact (H20.out HOKV.out).2
    have HSL:Hid ((tu=none/\us.length=0/\tk=0) ∨ ∃ g,tu=some ⟨g,0,none⟩/\us.length <= tk):=tab.form HG.out.so
    obtain ⟨i1,hi,hz0,hz1,hz2⟩:=ins.infoX
    go_wp2
    refine tab.region (p:=⟨w3,54,5,(us.take k).flatMap su.c,[Value.string name,Value.int .i64 0,Value.int .i64 0,Value.slice none 0 0,Value.slice none 0 0],(us.drop k).flatMap su.c,k,us.length - k,w1.heap.size,3⟩) (fun g=>[(64,.slice (some ⟨g.e0,0,none⟩) 0 0),(65,.pointer (some ⟨w1.heap.size,3,none⟩)),(66,.slice tu us.length tk),(67,.int .i64 k),(68,tab.cut1 tu k tk),(69,g.v1),(70,.string name),(71,.agg #[.string name,.int .i64 0,.int .i64 0,.slice none 0 0,.slice none 0 0]),(72,.slice (some ⟨g.h,0,none⟩) 1 1),(73,g.v2),(74,.pointer (some ⟨w1.heap.size,3,none⟩)),(75,.slice tu us.length tk),(76,.int .i64 k),(77,tab.cut2 tu k us.length tk 5),(78,g.v3),(79,.pointer (some ⟨w1.heap.size,3,none⟩))]) [64,65,66,67,68,69,70,71,72,73,74,75,76,77,78,79] ⟨0,5,8,9,14,16⟩ ⟨0,.slice none 0 0,0,.slice none 0 0,.slice none 0 0⟩ rfl (by kernel_rfl) (by kernel_rfl) (fun _=>rfl) (by kernel_rfl) ?each ?fin
    case each =>
     refine ⟨tab.lift rfl (ta.st0 (x:=⟨0,5,8,9,14,16⟩) (d:=64) (idx:=0) J0_up (by simp) rfl (by simp) (fun g=>rfl) (fun g=>rfl) (fun g e=>rfl) (fun s W=>by simp [execOp,go_sem])),?_⟩
     refine ⟨tab.quiet rfl (by decide) (by simp) (.pointer (some ⟨w1.heap.size,3,none⟩)) (by rintro s _ ⟨⟩; exact dk.sets_on _ (by simp) _ rfl) (fun L hc h0=>tab.back hc (j:=16) rfl ⟨⟨1,.phase⟩,by simp,rfl,rfl⟩ h0) (fun s W hb=>by simp [execOp,go_sem,Act.eval,dk.sets_get,List.lookup]),?_⟩
     refine ⟨tab.quiet rfl (by decide) (by simp) (.slice tu us.length tk) (by rintro s _ ⟨⟩; exact dk.sets_on _ (by simp) _ rfl) (fun L hc h0=>tab.back hc (j:=16) rfl ⟨⟨2,.phase⟩,by simp,rfl,rfl⟩ h0) (fun s W hb=>by have c:W.cell? ⟨w1.heap.size,3,none⟩=some (.slice tu us.length tk):=bcell (bstay HG.out.gnb hb (Array.getElem?_eq_some_iff.1 HG.out.gnb).1) rfl; simp [execOp,go_sem,Act.eval,dk.sets_get,List.lookup,c]),?_⟩
     refine ⟨tab.quiet rfl (by decide) (by simp) (.int .i64 k) (by rintro s _ ⟨⟩; exact dk.sets_on _ (by simp) _ rfl) (fun L hc h0=>tab.back hc (j:=16) rfl ⟨⟨3,.phase⟩,by simp,rfl,rfl⟩ h0) (fun s W hb=>by simp [execOp,go_sem,Act.eval,dk.sets_get,List.lookup]),?_⟩
     refine ⟨tab.quiet rfl (by decide) (by simp) (tab.cut1 tu k tk) (by rintro s _ ⟨⟩; exact dk.sets_on _ (by simp) _ rfl) (fun L hc h0=>tab.back hc (j:=16) rfl ⟨⟨4,.phase⟩,by simp,rfl,rfl⟩ h0) (fun s W hb=>?cut1),?_⟩
     case cut1 =>
      rcases HSL.out with ⟨e1,e2,e3⟩ | ⟨gg,e1,e2⟩
      ·have k0:k=0:=by omega
       subst e1 k0 e3
       simp [execOp,go_sem,Act.eval,dk.sets_get,List.lookup,tab.cut1,e2]
      ·subst e1
       have h3:k <= tk:=by omega
       simp [execOp,go_sem,Act.eval,dk.sets_get,List.lookup,tab.cut1,h3]
     refine ⟨tab.st1 (x:=⟨0,5,8,9,14,16⟩) (d:=69) (s1:=64) (s2:=68) (idx:=5) (sv:=(tab.cut1 tu k tk)) rfl J0_up Tryz.underlying36 hi hz0 hz1 hz2 rfl (by show 0 < 5; decide) rfl rfl ⟨by simp,by simp,by simp⟩ (fun g=>rfl) (fun g=>rfl) (fun g=>rfl) (fun g=>rfl) (fun g v=>rfl) (fun W hb=>tab.src1 su.c_len (su.own_stays HG.out.so hb) hkl2) (oneT _) (by show k <= 1048576; omega) (by show (0+k)*80 <= 140737488355328; omega) ⟨⟨0,.data⟩,by simp,rfl,rfl⟩,?_⟩
     refine ⟨tab.quiet rfl (by decide) (by simp) (.string name) (by rintro s _ ⟨⟩; exact dk.sets_on _ (by simp) _ rfl) (fun L hc h0=>tab.back hc (j:=16) rfl ⟨⟨6,.phase⟩,by simp,rfl,rfl⟩ h0) (fun s W hb=>by simp [execOp,go_sem,Act.eval,dk.sets_get,List.lookup]),?_⟩
     refine ⟨tab.quiet rfl (by decide) (by simp) (.agg #[.string name,.int .i64 0,.int .i64 0,.slice none 0 0,.slice none 0 0]) (by rintro s _ ⟨⟩; exact dk.sets_on _ (by simp) _ rfl) (fun L hc h0=>tab.back hc (j:=16) rfl ⟨⟨7,.phase⟩,by simp,rfl,rfl⟩ h0) (fun s W hb=>by simp [execOp,go_sem,Act.eval,dk.sets_get,List.lookup]),?_⟩
     refine ⟨tab.lift rfl (ta.st2 (x:=⟨0,5,8,9,14,16⟩) (d:=72) (idx:=8) J0_up (by simp) rfl (by simp) (fun g=>rfl) (fun g=>rfl) (fun g e=>rfl) (fun s W=>by simp [execOp,go_sem,Act.eval,dk.sets_get,List.lookup])),?_⟩
     refine ⟨tab.lift rfl (ta.st3 (x:=⟨0,5,8,9,14,16⟩) (d:=73) (s1:=69) (s2:=72) (idx:=9) J0_up Tryz.underlying36 hi hz0 hz1 hz2 rfl (by show 0 < 5; decide) rfl rfl ⟨by simp,by simp,by simp⟩ (fun g=>rfl) (fun g=>rfl) (fun g=>rfl) (fun g=>rfl) (fun g v=>rfl) rfl (by intro u hu; simp at hu; rcases hu with rfl | rfl | rfl <;> rfl) (by show k <= 1048576; omega) (by show (k+1)*80 <= 140737488355328; omega) ⟨⟨5,.data⟩,by simp,rfl,rfl⟩ ⟨⟨8,.data⟩,by simp,rfl,rfl⟩),?_⟩
     refine ⟨tab.quiet rfl (by decide) (by simp) (.pointer (some ⟨w1.heap.size,3,none⟩)) (by rintro s _ ⟨⟩; exact dk.sets_on _ (by simp) _ rfl) (fun L hc h0=>tab.back hc (j:=16) rfl ⟨⟨10,.phase⟩,by simp,rfl,rfl⟩ h0) (fun s W hb=>by simp [execOp,go_sem,Act.eval,dk.sets_get,List.lookup]),?_⟩
     refine ⟨tab.quiet rfl (by decide) (by simp) (.slice tu us.length tk) (by rintro s _ ⟨⟩; exact dk.sets_on _ (by simp) _ rfl) (fun L hc h0=>tab.back hc (j:=16) rfl ⟨⟨11,.phase⟩,by simp,rfl,rfl⟩ h0) (fun s W hb=>by have c:W.cell? ⟨w1.heap.size,3,none⟩=some (.slice tu us.length tk):=bcell (bstay HG.out.gnb hb (Array.getElem?_eq_some_iff.1 HG.out.gnb).1) rfl; simp [execOp,go_sem,Act.eval,dk.sets_get,List.lookup,c]),?_⟩
     refine ⟨tab.quiet rfl (by decide) (by simp) (.int .i64 k) (by rintro s _ ⟨⟩; exact dk.sets_on _ (by simp) _ rfl) (fun L hc h0=>tab.back hc (j:=16) rfl ⟨⟨12,.phase⟩,by simp,rfl,rfl⟩ h0) (fun s W hb=>by simp [execOp,go_sem,Act.eval,dk.sets_get,List.lookup]),?_⟩
     refine ⟨tab.quiet rfl (by decide) (by simp) (tab.cut2 tu k us.length tk 5) (by rintro s _ ⟨⟩; exact dk.sets_on _ (by simp) _ rfl) (fun L hc h0=>tab.back hc (j:=16) rfl ⟨⟨13,.phase⟩,by simp,rfl,rfl⟩ h0) (fun s W hb=>?cut2),?_⟩
     case cut2 =>
      rcases HSL.out with ⟨e1,e2,e3⟩ | ⟨gg,e1,e2⟩
      ·have k0:k=0:=by omega
       subst e1 k0 e3
       simp [execOp,go_sem,Act.eval,dk.sets_get,List.lookup,tab.cut2,e2]
      ·subst e1
       by_cases h4:tk=k
       ·simp [execOp,go_sem,Act.eval,dk.sets_get,List.lookup,tab.cut2,h4,hkl2]
       ·simp [execOp,go_sem,Act.eval,dk.sets_get,List.lookup,tab.cut2,h4,hkl2]
     refine ⟨tab.st4 (x:=⟨0,5,8,9,14,16⟩) (d:=78) (s1:=73) (s2:=77) (idx:=14) (sv:=(tab.cut2 tu k us.length tk 5)) rfl J0_up Tryz.underlying36 hi hz0 hz1 hz2 rfl (by show 0 < 5; decide) rfl rfl ⟨by simp,by simp,by simp⟩ (fun g=>rfl) (fun g=>rfl) (fun g=>rfl) (fun g=>rfl) (fun g v=>rfl) (fun W hb=>tab.src2 su.c_len (su.own_stays HG.out.so hb) hkl2) (oneT _) (by show k <= 1048576/\us.length - k <= 1048576; omega) (by show (k+1+(us.length - k))*80 <= 140737488355328; omega) ⟨⟨9,.data⟩,by simp,rfl,rfl⟩,?_⟩
     refine ⟨tab.quiet rfl (by decide) (by simp) (.pointer (some ⟨w1.heap.size,3,none⟩)) (by rintro s _ ⟨⟩; exact dk.sets_on _ (by simp) _ rfl) (fun L hc h0=>tab.back hc (j:=16) rfl ⟨⟨15,.data⟩,by simp,rfl,rfl⟩ h0) (fun s W hb=>by simp [execOp,go_sem,Act.eval,dk.sets_get,List.lookup]),?_⟩
     exact ⟨tab.lift rfl (ta.st5 (x:=⟨0,5,8,9,14,16⟩) J0_up (by simp) rfl (Array.getElem?_eq_some_iff.1 HG.out.gnb).1 (fun s W h hv=>by obtain ⟨av,nv,cv,hv⟩:=hv; have hu:=h _ _ HG.out.gnb; have c:W.cell? ⟨w1.heap.size,3,none⟩=some (.slice tu us.length tk):=bcell hu rfl; have f:=bfree hu 3; rw [hv]; simp [execOp,go_sem,Act.eval,dk.sets_get,List.lookup,c,f]) ⟨⟨14,.data⟩,by simp,rfl,rfl⟩),trivial⟩
    case fin =>
     intro g L W5 hL hC
     obtain ⟨V,hV,hWV,hown⟩:=ta.done hC J0_up (N:=17) (by decide) hL
     replace hown:W5.ownsRow w3.heap.size 54 5 g.v3 (k+1+(us.length - k)) ((us.take k).flatMap su.c++[Value.string name,Value.int .i64 0,Value.int .i64 0,Value.slice none 0 0,Value.slice none 0 0]++(us.drop k).flatMap su.c):=hown
     have hps:us.take k++cqp.newT name :: us.drop k=cqp.insT us name:=by
      unfold cqp.insT
      rw [cqp.posT_same HSM.out,HPS.out]
     have hlen:k+1+(us.length - k)=(cqp.insT us name).length:=by rw [cqp.insT_len]; omega
     have hfl:(us.take k).flatMap su.c++[Value.string name,Value.int .i64 0,Value.int .i64 0,Value.slice none 0 0,Value.slice none 0 0]++(us.drop k).flatMap su.c=(cqp.insT us name).flatMap su.c:=by rw [<- hps]; simp [su.c,cqp.newT]
     rw [hlen,hfl] at hown
     obtain ⟨a3,c3,hv3⟩:=own_form hown
     rw [hv3] at hown hWV
     replace hV:Below w3.heap.size w3 V:=hV
     replace hWV:W5=V.setCell ⟨w1.heap.size,3,none⟩ (.slice a3 (cqp.insT us name).length c3):=hWV
     have hlow:w.heap.size+2 <= w3.heap.size:=by have:=HG.out.gl; have:=(Array.getElem?_eq_some_iff.1 HG.out.gnb).1; omega
     have HG5:Hid (Kq w es bs qs ts name a0 b0 q0 t0 ec bc qc tc g1 c1 h1 c2 w1.heap.size (w.heap.size+2) (.slice qa ks.length qk) (.slice a3 (cqp.insT us name).length c3) ks (cqp.insT us name) W5):=by
      rw [hWV] at hown ⊢
      exact HG.out.putT hV hown (fun r hr=>cqp.ins_mem hr) hlow
     have F5:=cb.fit_same HF.out HSM.out
     have hk5:=HG5.out.ok (by rw [<- hps]; exact fit_t F5 hl20 HNM.out hkl2) HNM.out
     have HSM5:Hid (cb.Same qs ks (cqp.insT ts name) (cqp.insT us name)):=cqp.same_insT HSM.out
     rw [cb.ok_same HSM5.out] at hk5
     obtain ⟨o0,o1,o2,o3⟩:=fl.q4 HG5.out.gnb
     obtain ⟨n5,hn5⟩:∃ n5,(cqp.insT us name).length=n5:=⟨_,rfl⟩
     have HN5:Hid (∀ _:Unit,(cqp.insT us name).length=n5):=fun _=>hn5
     rw [hn5] at hk5 o3 HG5 hv3
     simp only [dk.sets,hv3]
     clear hC hL hV hWV hown hlen hv3 hn5 hps hfl F5 hi hz0 hz1 hz2 HSL hlow
     go_wp2_with (go_at_call 17; fail)
     clear o0 o1 o2 o3
     refine hk5.mono ?_
     rintro e w6 ⟨rfl,hb6⟩
     have HG6:Hid (Kq w es bs qs ts name a0 b0 q0 t0 ec bc qc tc g1 c1 h1 c2 w1.heap.size (w.heap.size+2) (.slice qa ks.length qk) (.slice a3 n5 c3) ks (cqp.insT us name) w6):=HG5.out.on hb6
     clear hk5 HG5 hb6 HG
     obtain ⟨hq0,⟨hk0,hu0,rfl⟩ | ⟨hk0,hu0,rfl⟩⟩:=HT2.out
     ·rw [hk0]
      have hcp:=HCP.out w6 HG6.out.bel
      obtain ⟨x0,x1,x2,x3⟩:=fl.q4 HG6.out.box
      go_wp2_with (go_at_call 14; fail)
      clear x0 x1 x2 x3
      refine hcp.mono ?_
      rintro e w7 ⟨g7,c7,h7,d7,gn7,S7,x7,y7,ks7,us7,rfl,HSM7,HKE7⟩
      obtain ⟨qa7,qk7,hxf⟩:∃ b c,x7=.slice b ks7.length c:=own_form HKE7.out.qo
      obtain ⟨ta7,tk7,hyf⟩:∃ b c,y7=.slice b us7.length c:=own_form HKE7.out.so
      subst hxf hyf
      have hres:=bstay HG6.out.res HKE7.out.bel (Array.getElem?_eq_some_iff.1 HG6.out.res).1
      have HFN:=cn.sa_res (v0:=.slice (some ⟨g7,0,none⟩) es.length c7) (v1:=.slice (some ⟨h7,0,none⟩) bs.length d7) (v2:=.slice qa7 ks7.length qk7) (v3:=.slice ta7 us7.length tk7) HG6.out.bel (ke_sa HKE7.out HSM7.out) hres (by omega)
      obtain ⟨z0,z1,z2,z3⟩:=fl.q4 hres
      obtain ⟨f0,f1,f2,f3⟩:=fl.r4 hres
      go_wp2
      exact bodyPost_ret (v:=.tuple #[.agg #[.slice (some ⟨g7,0,none⟩) es.length c7,.slice (some ⟨h7,0,none⟩) bs.length d7,.slice qa7 ks7.length qk7,.slice ta7 us7.length tk7],.bool false]) (by simp [results,Tryz.results5,go_sem,z0,z1,z2,z3]) rfl (HPO.out _ _ ⟨some ⟨g7,0,none⟩,some ⟨h7,0,none⟩,qa7,ta7,c7,d7,qk7,tk7,ks7,us7,by rw [hq0,hu0,HSM7.out.ql,HSM7.out.tl],by rw [hq0,hu0]; exact HFN⟩)
     ·rw [hk0]
      have HFN:=HG6.out.fin (Q:=Q) (U:=U) (by rw [hq0,hu0]; exact HSM5.out)
      obtain ⟨z0,z1,z2,z3⟩:=fl.q4 HG6.out.res
      obtain ⟨f0,f1,f2,f3⟩:=fl.r4 HG6.out.res
      obtain ⟨n0,n1,n2,n3⟩:=fl.q4 HG6.out.gnb
      have hg1:w1.heap.size ≠ w.heap.size+1:=by have:=HG6.out.gl; omega
      have hg3:w.heap.size+1 ≠ w1.heap.size:=by omega
      go_wp2
      exact bodyPost_ret (v:=.tuple #[.agg #[.slice (some ⟨g1,0,none⟩) es.length c1,.slice (some ⟨h1,0,none⟩) bs.length c2,.slice qa ks.length qk,.slice a3 n5 c3],.bool true]) (by simp [results,Tryz.results5,go_sem,z0,z1,z2,z3]) rfl (HPO.out _ _ ⟨some ⟨g1,0,none⟩,some ⟨h1,0,none⟩,qa,a3,c1,c2,qk,c3,ks,cqp.insT us name,by rw [hq0,hu0,<- HSM5.out.ql,<- HSM5.out.tl,HN5.out ()],HFN.out _ (by repeat' (first | apply fo.Tn.set | exact fo.Tn.of _ (Below.drew (Below.refl _ _)) | exact fo.Tn.refl _ _ | (show _=_; omega)))⟩)
 ·have e1:decide ((0:Int) <= pq)=false:=decide_eq_false dq
  have e2:decide ((0:Int) <= pt)=false:=decide_eq_false dt
  have HQ2:Hid (U=ts/\((okC es bs (cqp.insQ qs name) ts=false/\Q=qs/\G=false) ∨ (okC es bs (cqp.insQ qs name) ts=true/\Q=cqp.insQ qs name/\G=true))):=⟨hu0,hQ2⟩
  clear hQ2 hu0 hpq hpt
  have HOKV:Hid (okC es bs qs ts=true):=hokv
  clear hokv
  go_wp2
  go_loopw [11] (fun v wr=>∃ k:Nat,k <= qs.length/\v=.int .i64 k/\Hid (∀ (i:Nat) a,i < k->qs[i]?=some a->cmpT a.nm name < 0)/\Hid (wr=w3)) (fun v _=>qs.length - (intOf v).toNat)
  case atStart=>exact ⟨0,Nat.zero_le _,rfl,fun i a h=>by omega,rfl⟩
  case round =>
   obtain ⟨k,hk,rfl,hlow,hwr⟩:=hrel
   have hbig:qs.length <= 1048576:=HF.out.ql
   obtain rfl:=hwr.out.symm
   clear hwr
   have x2:w3.cell? ⟨w.heap.size,2,none⟩=some (.slice (some ⟨q0,0,none⟩) qs.length qc):=bcell HG.out.box rfl
   by_cases hkl:k < qs.length
   ·have g0:qs[k]?=some qs[k]:=List.getElem?_eq_getElem hkl
    have y0:=(HRW.out.2.2.1.below HG.out.bel).2 k _ g0 |>.1
    have HG0:Hid (qs[k]?=some qs[k]):=g0
    obtain ⟨⟨nm,nx,ra,rc,rs,ha,hc,hs⟩,he⟩:∃ e,qs[k]=e:=⟨_,rfl⟩
    rw [he] at y0 HG0
    simp only at y0
    have i2:(k:Int) < (qs.length:Int):=by omega
    clear g0 he
    cases hls:Op.bytesLess nm.toList name.toList with
    | true =>
     have hnext:Hid (∀ (i:Nat) a,i < k+1->qs[i]?=some a->cmpT a.nm name < 0):=fun i a hi ha=>by
      by_cases e:i=k
      ·subst e; rw [HG0.out] at ha; cases ha; exact Go.Proofs.YtaoefccgdfcchaaGreat.ro.cmp_neg.2 hls
      ·exact hlow.out i a (by omega) ha
     go_wp2
     go_roundw
     case rel=>exact ⟨k+1,by omega,by go_num,hnext,by first | exact (trivial:True) | exact (rfl:w3=w3)⟩
     case measure=>simp [intOf]; omega
    | false =>
     have HPS:Hid (cqp.posQ qs name=k):=cqp.pos_of hk hlow.out (fun a ha=>by
      rw [HG0.out] at ha; cases ha
      rcases Int.lt_or_le (cmpT nm name) 0 with h | h
      ·have:=Go.Proofs.YtaoefccgdfcchaaGreat.ro.cmp_neg.1 h; rw [show Op.bytesLess nm.toList name.toList=true from this] at hls; cases hls
      ·exact h)
     have hkl2:k <= ks.length:=by rw [HSM.out.ql]; exact hk
     have hl20:ks.length <= 20:=by rw [HSM.out.ql]; exact (H20.out HOKV.out).1
     have HSL:Hid ((qa=none/\ks.length=0/\qk=0) ∨ ∃ g,qa=some ⟨g,0,none⟩/\ks.length <= qk):=tab.form HG.out.qo
     obtain ⟨i1,hi,hz0,hz1,hz2⟩:=inq.infoX
     go_wp2
     refine tab.region (p:=⟨w3,58,4,(ks.take k).flatMap qu.c,[Value.string name,Value.int .i64 1,Value.slice none 0 0,Value.slice none 0 0],(ks.drop k).flatMap qu.c,k,ks.length - k,w1.heap.size,2⟩) (fun g=>[(97,.slice (some ⟨g.e0,0,none⟩) 0 0),(98,.pointer (some ⟨w1.heap.size,2,none⟩)),(99,.slice qa ks.length qk),(100,.int .i64 k),(101,tab.cut1 qa k qk),(102,g.v1),(103,.string name),(104,.agg #[.string name,.int .i64 1,.slice none 0 0,.slice none 0 0]),(105,.slice (some ⟨g.h,0,none⟩) 1 1),(106,g.v2),(107,.pointer (some ⟨w1.heap.size,2,none⟩)),(108,.slice qa ks.length qk),(109,.int .i64 k),(110,tab.cut2 qa k ks.length qk 4),(111,g.v3),(112,.pointer (some ⟨w1.heap.size,2,none⟩))]) [97,98,99,100,101,102,103,104,105,106,107,108,109,110,111,112] ⟨0,5,8,9,14,16⟩ ⟨0,.slice none 0 0,0,.slice none 0 0,.slice none 0 0⟩ rfl (by kernel_rfl) (by kernel_rfl) (fun _=>rfl) (by kernel_rfl) ?each ?fin
     case each =>
      refine ⟨tab.lift rfl (ta.st0 (x:=⟨0,5,8,9,14,16⟩) (d:=97) (idx:=0) J0_up (by simp) rfl (by simp) (fun g=>rfl) (fun g=>rfl) (fun g e=>rfl) (fun s W=>by simp [execOp,go_sem])),?_⟩
      refine ⟨tab.quiet rfl (by decide) (by simp) (.pointer (some ⟨w1.heap.size,2,none⟩)) (by rintro s _ ⟨⟩; exact dk.sets_on _ (by simp) _ rfl) (fun L hc h0=>tab.back hc (j:=16) rfl ⟨⟨1,.phase⟩,by simp,rfl,rfl⟩ h0) (fun s W hb=>by simp [execOp,go_sem,Act.eval,dk.sets_get,List.lookup]),?_⟩
      refine ⟨tab.quiet rfl (by decide) (by simp) (.slice qa ks.length qk) (by rintro s _ ⟨⟩; exact dk.sets_on _ (by simp) _ rfl) (fun L hc h0=>tab.back hc (j:=16) rfl ⟨⟨2,.phase⟩,by simp,rfl,rfl⟩ h0) (fun s W hb=>by have c:W.cell? ⟨w1.heap.size,2,none⟩=some (.slice qa ks.length qk):=bcell (bstay HG.out.gnb hb (Array.getElem?_eq_some_iff.1 HG.out.gnb).1) rfl; simp [execOp,go_sem,Act.eval,dk.sets_get,List.lookup,c]),?_⟩
      refine ⟨tab.quiet rfl (by decide) (by simp) (.int .i64 k) (by rintro s _ ⟨⟩; exact dk.sets_on _ (by simp) _ rfl) (fun L hc h0=>tab.back hc (j:=16) rfl ⟨⟨3,.phase⟩,by simp,rfl,rfl⟩ h0) (fun s W hb=>by simp [execOp,go_sem,Act.eval,dk.sets_get,List.lookup]),?_⟩
      refine ⟨tab.quiet rfl (by decide) (by simp) (tab.cut1 qa k qk) (by rintro s _ ⟨⟩; exact dk.sets_on _ (by simp) _ rfl) (fun L hc h0=>tab.back hc (j:=16) rfl ⟨⟨4,.phase⟩,by simp,rfl,rfl⟩ h0) (fun s W hb=>?cut1),?_⟩
      case cut1 =>
       rcases HSL.out with ⟨e1,e2,e3⟩ | ⟨gg,e1,e2⟩
       ·have k0:k=0:=by omega
        subst e1 k0 e3
        simp [execOp,go_sem,Act.eval,dk.sets_get,List.lookup,tab.cut1,e2]
       ·subst e1
        have h3:k <= qk:=by omega
        simp [execOp,go_sem,Act.eval,dk.sets_get,List.lookup,tab.cut1,h3]
      refine ⟨tab.st1 (x:=⟨0,5,8,9,14,16⟩) (d:=102) (s1:=97) (s2:=101) (idx:=5) (sv:=(tab.cut1 qa k qk)) rfl J0_up Tryz.underlying35 hi hz0 hz1 hz2 rfl (by show 0 < 4; decide) rfl rfl ⟨by simp,by simp,by simp⟩ (fun g=>rfl) (fun g=>rfl) (fun g=>rfl) (fun g=>rfl) (fun g v=>rfl) (fun W hb=>tab.src1 qu.c_len (su.own_stays HG.out.qo hb) hkl2) (oneQ _) (by show k <= 1048576; omega) (by show (0+k)*72 <= 140737488355328; omega) ⟨⟨0,.data⟩,by simp,rfl,rfl⟩,?_⟩
      refine ⟨tab.quiet rfl (by decide) (by simp) (.string name) (by rintro s _ ⟨⟩; exact dk.sets_on _ (by simp) _ rfl) (fun L hc h0=>tab.back hc (j:=16) rfl ⟨⟨6,.phase⟩,by simp,rfl,rfl⟩ h0) (fun s W hb=>by simp [execOp,go_sem,Act.eval,dk.sets_get,List.lookup]),?_⟩
      refine ⟨tab.quiet rfl (by decide) (by simp) (.agg #[.string name,.int .i64 1,.slice none 0 0,.slice none 0 0]) (by rintro s _ ⟨⟩; exact dk.sets_on _ (by simp) _ rfl) (fun L hc h0=>tab.back hc (j:=16) rfl ⟨⟨7,.phase⟩,by simp,rfl,rfl⟩ h0) (fun s W hb=>by simp [execOp,go_sem,Act.eval,dk.sets_get,List.lookup]),?_⟩
      refine ⟨tab.lift rfl (ta.st2 (x:=⟨0,5,8,9,14,16⟩) (d:=105) (idx:=8) J0_up (by simp) rfl (by simp) (fun g=>rfl) (fun g=>rfl) (fun g e=>rfl) (fun s W=>by simp [execOp,go_sem,Act.eval,dk.sets_get,List.lookup])),?_⟩
      refine ⟨tab.lift rfl (ta.st3 (x:=⟨0,5,8,9,14,16⟩) (d:=106) (s1:=102) (s2:=105) (idx:=9) J0_up Tryz.underlying35 hi hz0 hz1 hz2 rfl (by show 0 < 4; decide) rfl rfl ⟨by simp,by simp,by simp⟩ (fun g=>rfl) (fun g=>rfl) (fun g=>rfl) (fun g=>rfl) (fun g v=>rfl) rfl (by intro u hu; simp at hu; rcases hu with rfl | rfl | rfl <;> rfl) (by show k <= 1048576; omega) (by show (k+1)*72 <= 140737488355328; omega) ⟨⟨5,.data⟩,by simp,rfl,rfl⟩ ⟨⟨8,.data⟩,by simp,rfl,rfl⟩),?_⟩
      refine ⟨tab.quiet rfl (by decide) (by simp) (.pointer (some ⟨w1.heap.size,2,none⟩)) (by rintro s _ ⟨⟩; exact dk.sets_on _ (by simp) _ rfl) (fun L hc h0=>tab.back hc (j:=16) rfl ⟨⟨10,.phase⟩,by simp,rfl,rfl⟩ h0) (fun s W hb=>by simp [execOp,go_sem,Act.eval,dk.sets_get,List.lookup]),?_⟩
      refine ⟨tab.quiet rfl (by decide) (by simp) (.slice qa ks.length qk) (by rintro s _ ⟨⟩; exact dk.sets_on _ (by simp) _ rfl) (fun L hc h0=>tab.back hc (j:=16) rfl ⟨⟨11,.phase⟩,by simp,rfl,rfl⟩ h0) (fun s W hb=>by have c:W.cell? ⟨w1.heap.size,2,none⟩=some (.slice qa ks.length qk):=bcell (bstay HG.out.gnb hb (Array.getElem?_eq_some_iff.1 HG.out.gnb).1) rfl; simp [execOp,go_sem,Act.eval,dk.sets_get,List.lookup,c]),?_⟩
      refine ⟨tab.quiet rfl (by decide) (by simp) (.int .i64 k) (by rintro s _ ⟨⟩; exact dk.sets_on _ (by simp) _ rfl) (fun L hc h0=>tab.back hc (j:=16) rfl ⟨⟨12,.phase⟩,by simp,rfl,rfl⟩ h0) (fun s W hb=>by simp [execOp,go_sem,Act.eval,dk.sets_get,List.lookup]),?_⟩
      refine ⟨tab.quiet rfl (by decide) (by simp) (tab.cut2 qa k ks.length qk 4) (by rintro s _ ⟨⟩; exact dk.sets_on _ (by simp) _ rfl) (fun L hc h0=>tab.back hc (j:=16) rfl ⟨⟨13,.phase⟩,by simp,rfl,rfl⟩ h0) (fun s W hb=>?cut2),?_⟩
      case cut2 =>
       rcases HSL.out with ⟨e1,e2,e3⟩ | ⟨gg,e1,e2⟩
       ·have k0:k=0:=by omega
        subst e1 k0 e3
        simp [execOp,go_sem,Act.eval,dk.sets_get,List.lookup,tab.cut2,e2]
       ·subst e1
        by_cases h4:qk=k
        ·simp [execOp,go_sem,Act.eval,dk.sets_get,List.lookup,tab.cut2,h4,hkl2]
        ·simp [execOp,go_sem,Act.eval,dk.sets_get,List.lookup,tab.cut2,h4,hkl2]
      refine ⟨tab.st4 (x:=⟨0,5,8,9,14,16⟩) (d:=111) (s1:=106) (s2:=110) (idx:=14) (sv:=(tab.cut2 qa k ks.length qk 4)) rfl J0_up Tryz.underlying35 hi hz0 hz1 hz2 rfl (by show 0 < 4; decide) rfl rfl ⟨by simp,by simp,by simp⟩ (fun g=>rfl) (fun g=>rfl) (fun g=>rfl) (fun g=>rfl) (fun g v=>rfl) (fun W hb=>tab.src2 qu.c_len (su.own_stays HG.out.qo hb) hkl2) (oneQ _) (by show k <= 1048576/\ks.length - k <= 1048576; omega) (by show (k+1+(ks.length - k))*72 <= 140737488355328; omega) ⟨⟨9,.data⟩,by simp,rfl,rfl⟩,?_⟩
      refine ⟨tab.quiet rfl (by decide) (by simp) (.pointer (some ⟨w1.heap.size,2,none⟩)) (by rintro s _ ⟨⟩; exact dk.sets_on _ (by simp) _ rfl) (fun L hc h0=>tab.back hc (j:=16) rfl ⟨⟨15,.data⟩,by simp,rfl,rfl⟩ h0) (fun s W hb=>by simp [execOp,go_sem,Act.eval,dk.sets_get,List.lookup]),?_⟩
      exact ⟨tab.lift rfl (ta.st5 (x:=⟨0,5,8,9,14,16⟩) J0_up (by simp) rfl (Array.getElem?_eq_some_iff.1 HG.out.gnb).1 (fun s W h hv=>by obtain ⟨av,nv,cv,hv⟩:=hv; have hu:=h _ _ HG.out.gnb; have c:W.cell? ⟨w1.heap.size,2,none⟩=some (.slice qa ks.length qk):=bcell hu rfl; have f:=bfree hu 2; rw [hv]; simp [execOp,go_sem,Act.eval,dk.sets_get,List.lookup,c,f]) ⟨⟨14,.data⟩,by simp,rfl,rfl⟩),trivial⟩
     case fin =>
      intro g L W5 hL hC
      obtain ⟨V,hV,hWV,hown⟩:=ta.done hC J0_up (N:=17) (by decide) hL
      replace hown:W5.ownsRow w3.heap.size 58 4 g.v3 (k+1+(ks.length - k)) ((ks.take k).flatMap qu.c++[Value.string name,Value.int .i64 1,Value.slice none 0 0,Value.slice none 0 0]++(ks.drop k).flatMap qu.c):=hown
      have hps:ks.take k++cqp.newQ name :: ks.drop k=cqp.insQ ks name:=by
       unfold cqp.insQ
       rw [cqp.posQ_same HSM.out,HPS.out]
      have hlen:k+1+(ks.length - k)=(cqp.insQ ks name).length:=by rw [cqp.insQ_len]; omega
      have hfl:(ks.take k).flatMap qu.c++[Value.string name,Value.int .i64 1,Value.slice none 0 0,Value.slice none 0 0]++(ks.drop k).flatMap qu.c=(cqp.insQ ks name).flatMap qu.c:=by rw [<- hps]; simp [qu.c,cqp.newQ]
      rw [hlen,hfl] at hown
      obtain ⟨a3,c3,hv3⟩:=own_form hown
      rw [hv3] at hown hWV
      replace hV:Below w3.heap.size w3 V:=hV
      replace hWV:W5=V.setCell ⟨w1.heap.size,2,none⟩ (.slice a3 (cqp.insQ ks name).length c3):=hWV
      have hlow:w.heap.size+2 <= w3.heap.size:=by have:=HG.out.gl; have:=(Array.getElem?_eq_some_iff.1 HG.out.gnb).1; omega
      have HG5:Hid (Kq w es bs qs ts name a0 b0 q0 t0 ec bc qc tc g1 c1 h1 c2 w1.heap.size (w.heap.size+2) (.slice a3 (cqp.insQ ks name).length c3) (.slice tu us.length tk) (cqp.insQ ks name) us W5):=by
       rw [hWV] at hown ⊢
       exact HG.out.putQ hV hown (fun r hr=>cqp.ins_mem hr) hlow
      have F5:=cb.fit_same HF.out HSM.out
      have hk5:=HG5.out.ok (by rw [<- hps]; exact fit_q F5 hl20 HNM.out hkl2) HNM.out
      have HSM5:Hid (cb.Same (cqp.insQ qs name) (cqp.insQ ks name) ts us):=cqp.same_insQ HSM.out
      rw [cb.ok_same HSM5.out] at hk5
      obtain ⟨o0,o1,o2,o3⟩:=fl.q4 HG5.out.gnb
      obtain ⟨n5,hn5⟩:∃ n5,(cqp.insQ ks name).length=n5:=⟨_,rfl⟩
      have HN5:Hid (∀ _:Unit,(cqp.insQ ks name).length=n5):=fun _=>hn5
      rw [hn5] at hk5 o2 HG5 hv3
      simp only [dk.sets,hv3]
      clear hC hL hV hWV hown hlen hv3 hn5 hps hfl F5 hi hz0 hz1 hz2 HSL hlow
      go_wp2_with (go_at_call 17; fail)
      clear o0 o1 o2 o3
      refine hk5.mono ?_
      rintro e w6 ⟨rfl,hb6⟩
      have HG6:Hid (Kq w es bs qs ts name a0 b0 q0 t0 ec bc qc tc g1 c1 h1 c2 w1.heap.size (w.heap.size+2) (.slice a3 n5 c3) (.slice tu us.length tk) (cqp.insQ ks name) us w6):=HG5.out.on hb6
      clear hk5 HG5 hb6 HG
      obtain ⟨hu0,⟨hk0,hq0,rfl⟩ | ⟨hk0,hq0,rfl⟩⟩:=HQ2.out
      ·rw [hk0]
       have hcp:=HCP.out w6 HG6.out.bel
       obtain ⟨x0,x1,x2,x3⟩:=fl.q4 HG6.out.box
       go_wp2_with (go_at_call 14; fail)
       clear x0 x1 x2 x3
       refine hcp.mono ?_
       rintro e w7 ⟨g7,c7,h7,d7,gn7,S7,x7,y7,ks7,us7,rfl,HSM7,HKE7⟩
       obtain ⟨qa7,qk7,hxf⟩:∃ b c,x7=.slice b ks7.length c:=own_form HKE7.out.qo
       obtain ⟨ta7,tk7,hyf⟩:∃ b c,y7=.slice b us7.length c:=own_form HKE7.out.so
       subst hxf hyf
       have hres:=bstay HG6.out.res HKE7.out.bel (Array.getElem?_eq_some_iff.1 HG6.out.res).1
       have HFN:=cn.sa_res (v0:=.slice (some ⟨g7,0,none⟩) es.length c7) (v1:=.slice (some ⟨h7,0,none⟩) bs.length d7) (v2:=.slice qa7 ks7.length qk7) (v3:=.slice ta7 us7.length tk7) HG6.out.bel (ke_sa HKE7.out HSM7.out) hres (by omega)
       obtain ⟨z0,z1,z2,z3⟩:=fl.q4 hres
       obtain ⟨f0,f1,f2,f3⟩:=fl.r4 hres
       go_wp2
       exact bodyPost_ret (v:=.tuple #[.agg #[.slice (some ⟨g7,0,none⟩) es.length c7,.slice (some ⟨h7,0,none⟩) bs.length d7,.slice qa7 ks7.length qk7,.slice ta7 us7.length tk7],.bool false]) (by simp [results,Tryz.results5,go_sem,z0,z1,z2,z3]) rfl (HPO.out _ _ ⟨some ⟨g7,0,none⟩,some ⟨h7,0,none⟩,qa7,ta7,c7,d7,qk7,tk7,ks7,us7,by rw [hq0,hu0,HSM7.out.ql,HSM7.out.tl],by rw [hq0,hu0]; exact HFN⟩)
      ·rw [hk0]
       have HFN:=HG6.out.fin (Q:=Q) (U:=U) (by rw [hq0,hu0]; exact HSM5.out)
       obtain ⟨z0,z1,z2,z3⟩:=fl.q4 HG6.out.res
       obtain ⟨f0,f1,f2,f3⟩:=fl.r4 HG6.out.res
       obtain ⟨n0,n1,n2,n3⟩:=fl.q4 HG6.out.gnb
       have hg1:w1.heap.size ≠ w.heap.size+1:=by have:=HG6.out.gl; omega
       have hg3:w.heap.size+1 ≠ w1.heap.size:=by omega
       go_wp2
       exact bodyPost_ret (v:=.tuple #[.agg #[.slice (some ⟨g1,0,none⟩) es.length c1,.slice (some ⟨h1,0,none⟩) bs.length c2,.slice a3 n5 c3,.slice tu us.length tk],.bool true]) (by simp [results,Tryz.results5,go_sem,z0,z1,z2,z3]) rfl (HPO.out _ _ ⟨some ⟨g1,0,none⟩,some ⟨h1,0,none⟩,a3,tu,c1,c2,c3,tk,cqp.insQ ks name,us,by rw [hq0,hu0,<- HSM5.out.ql,<- HSM5.out.tl,HN5.out ()],HFN.out _ (by repeat' (first | apply fo.Tn.set | exact fo.Tn.of _ (Below.drew (Below.refl _ _)) | exact fo.Tn.refl _ _ | (show _=_; omega)))⟩)
   ·have HPS:Hid (cqp.posQ qs name=k):=cqp.pos_of hk hlow.out (fun a ha=>by have:=(List.getElem?_eq_some_iff.1 ha).1; omega)
    have i2:¬ (k:Int) < (qs.length:Int):=by omega
    have hkl2:k <= ks.length:=by rw [HSM.out.ql]; exact hk
    have hl20:ks.length <= 20:=by rw [HSM.out.ql]; exact (H20.out HOKV.out).1
    have HSL:Hid ((qa=none/\ks.length=0/\qk=0) ∨ ∃ g,qa=some ⟨g,0,none⟩/\ks.length <= qk):=tab.form HG.out.qo
    obtain ⟨i1,hi,hz0,hz1,hz2⟩:=inq.infoX
    go_wp2
    refine tab.region (p:=⟨w3,58,4,(ks.take k).flatMap qu.c,[Value.string name,Value.int .i64 1,Value.slice none 0 0,Value.slice none 0 0],(ks.drop k).flatMap qu.c,k,ks.length - k,w1.heap.size,2⟩) (fun g=>[(97,.slice (some ⟨g.e0,0,none⟩) 0 0),(98,.pointer (some ⟨w1.heap.size,2,none⟩)),(99,.slice qa ks.length qk),(100,.int .i64 k),(101,tab.cut1 qa k qk),(102,g.v1),(103,.string name),(104,.agg #[.string name,.int .i64 1,.slice none 0 0,.slice none 0 0]),(105,.slice (some ⟨g.h,0,none⟩) 1 1),(106,g.v2),(107,.pointer (some ⟨w1.heap.size,2,none⟩)),(108,.slice qa ks.length qk),(109,.int .i64 k),(110,tab.cut2 qa k ks.length qk 4),(111,g.v3),(112,.pointer (some ⟨w1.heap.size,2,none⟩))]) [97,98,99,100,101,102,103,104,105,106,107,108,109,110,111,112] ⟨0,5,8,9,14,16⟩ ⟨0,.slice none 0 0,0,.slice none 0 0,.slice none 0 0⟩ rfl (by kernel_rfl) (by kernel_rfl) (fun _=>rfl) (by kernel_rfl) ?each ?fin
    case each =>
     refine ⟨tab.lift rfl (ta.st0 (x:=⟨0,5,8,9,14,16⟩) (d:=97) (idx:=0) J0_up (by simp) rfl (by simp) (fun g=>rfl) (fun g=>rfl) (fun g e=>rfl) (fun s W=>by simp [execOp,go_sem])),?_⟩
     refine ⟨tab.quiet rfl (by decide) (by simp) (.pointer (some ⟨w1.heap.size,2,none⟩)) (by rintro s _ ⟨⟩; exact dk.sets_on _ (by simp) _ rfl) (fun L hc h0=>tab.back hc (j:=16) rfl ⟨⟨1,.phase⟩,by simp,rfl,rfl⟩ h0) (fun s W hb=>by simp [execOp,go_sem,Act.eval,dk.sets_get,List.lookup]),?_⟩
     refine ⟨tab.quiet rfl (by decide) (by simp) (.slice qa ks.length qk) (by rintro s _ ⟨⟩; exact dk.sets_on _ (by simp) _ rfl) (fun L hc h0=>tab.back hc (j:=16) rfl ⟨⟨2,.phase⟩,by simp,rfl,rfl⟩ h0) (fun s W hb=>by have c:W.cell? ⟨w1.heap.size,2,none⟩=some (.slice qa ks.length qk):=bcell (bstay HG.out.gnb hb (Array.getElem?_eq_some_iff.1 HG.out.gnb).1) rfl; simp [execOp,go_sem,Act.eval,dk.sets_get,List.lookup,c]),?_⟩
     refine ⟨tab.quiet rfl (by decide) (by simp) (.int .i64 k) (by rintro s _ ⟨⟩; exact dk.sets_on _ (by simp) _ rfl) (fun L hc h0=>tab.back hc (j:=16) rfl ⟨⟨3,.phase⟩,by simp,rfl,rfl⟩ h0) (fun s W hb=>by simp [execOp,go_sem,Act.eval,dk.sets_get,List.lookup]),?_⟩
     refine ⟨tab.quiet rfl (by decide) (by simp) (tab.cut1 qa k qk) (by rintro s _ ⟨⟩; exact dk.sets_on _ (by simp) _ rfl) (fun L hc h0=>tab.back hc (j:=16) rfl ⟨⟨4,.phase⟩,by simp,rfl,rfl⟩ h0) (fun s W hb=>?cut1),?_⟩
     case cut1 =>
      rcases HSL.out with ⟨e1,e2,e3⟩ | ⟨gg,e1,e2⟩
      ·have k0:k=0:=by omega
       subst e1 k0 e3
       simp [execOp,go_sem,Act.eval,dk.sets_get,List.lookup,tab.cut1,e2]
      ·subst e1
       have h3:k <= qk:=by omega
       simp [execOp,go_sem,Act.eval,dk.sets_get,List.lookup,tab.cut1,h3]
     refine ⟨tab.st1 (x:=⟨0,5,8,9,14,16⟩) (d:=102) (s1:=97) (s2:=101) (idx:=5) (sv:=(tab.cut1 qa k qk)) rfl J0_up Tryz.underlying35 hi hz0 hz1 hz2 rfl (by show 0 < 4; decide) rfl rfl ⟨by simp,by simp,by simp⟩ (fun g=>rfl) (fun g=>rfl) (fun g=>rfl) (fun g=>rfl) (fun g v=>rfl) (fun W hb=>tab.src1 qu.c_len (su.own_stays HG.out.qo hb) hkl2) (oneQ _) (by show k <= 1048576; omega) (by show (0+k)*72 <= 140737488355328; omega) ⟨⟨0,.data⟩,by simp,rfl,rfl⟩,?_⟩
     refine ⟨tab.quiet rfl (by decide) (by simp) (.string name) (by rintro s _ ⟨⟩; exact dk.sets_on _ (by simp) _ rfl) (fun L hc h0=>tab.back hc (j:=16) rfl ⟨⟨6,.phase⟩,by simp,rfl,rfl⟩ h0) (fun s W hb=>by simp [execOp,go_sem,Act.eval,dk.sets_get,List.lookup]),?_⟩
     refine ⟨tab.quiet rfl (by decide) (by simp) (.agg #[.string name,.int .i64 1,.slice none 0 0,.slice none 0 0]) (by rintro s _ ⟨⟩; exact dk.sets_on _ (by simp) _ rfl) (fun L hc h0=>tab.back hc (j:=16) rfl ⟨⟨7,.phase⟩,by simp,rfl,rfl⟩ h0) (fun s W hb=>by simp [execOp,go_sem,Act.eval,dk.sets_get,List.lookup]),?_⟩
     refine ⟨tab.lift rfl (ta.st2 (x:=⟨0,5,8,9,14,16⟩) (d:=105) (idx:=8) J0_up (by simp) rfl (by simp) (fun g=>rfl) (fun g=>rfl) (fun g e=>rfl) (fun s W=>by simp [execOp,go_sem,Act.eval,dk.sets_get,List.lookup])),?_⟩
     refine ⟨tab.lift rfl (ta.st3 (x:=⟨0,5,8,9,14,16⟩) (d:=106) (s1:=102) (s2:=105) (idx:=9) J0_up Tryz.underlying35 hi hz0 hz1 hz2 rfl (by show 0 < 4; decide) rfl rfl ⟨by simp,by simp,by simp⟩ (fun g=>rfl) (fun g=>rfl) (fun g=>rfl) (fun g=>rfl) (fun g v=>rfl) rfl (by intro u hu; simp at hu; rcases hu with rfl | rfl | rfl <;> rfl) (by show k <= 1048576; omega) (by show (k+1)*72 <= 140737488355328; omega) ⟨⟨5,.data⟩,by simp,rfl,rfl⟩ ⟨⟨8,.data⟩,by simp,rfl,rfl⟩),?_⟩
     refine ⟨tab.quiet rfl (by decide) (by simp) (.pointer (some ⟨w1.heap.size,2,none⟩)) (by rintro s _ ⟨⟩; exact dk.sets_on _ (by simp) _ rfl) (fun L hc h0=>tab.back hc (j:=16) rfl ⟨⟨10,.phase⟩,by simp,rfl,rfl⟩ h0) (fun s W hb=>by simp [execOp,go_sem,Act.eval,dk.sets_get,List.lookup]),?_⟩
     refine ⟨tab.quiet rfl (by decide) (by simp) (.slice qa ks.length qk) (by rintro s _ ⟨⟩; exact dk.sets_on _ (by simp) _ rfl) (fun L hc h0=>tab.back hc (j:=16) rfl ⟨⟨11,.phase⟩,by simp,rfl,rfl⟩ h0) (fun s W hb=>by have c:W.cell? ⟨w1.heap.size,2,none⟩=some (.slice qa ks.length qk):=bcell (bstay HG.out.gnb hb (Array.getElem?_eq_some_iff.1 HG.out.gnb).1) rfl; simp [execOp,go_sem,Act.eval,dk.sets_get,List.lookup,c]),?_⟩
     refine ⟨tab.quiet rfl (by decide) (by simp) (.int .i64 k) (by rintro s _ ⟨⟩; exact dk.sets_on _ (by simp) _ rfl) (fun L hc h0=>tab.back hc (j:=16) rfl ⟨⟨12,.phase⟩,by simp,rfl,rfl⟩ h0) (fun s W hb=>by simp [execOp,go_sem,Act.eval,dk.sets_get,List.lookup]),?_⟩
     refine ⟨tab.quiet rfl (by decide) (by simp) (tab.cut2 qa k ks.length qk 4) (by rintro s _ ⟨⟩; exact dk.sets_on _ (by simp) _ rfl) (fun L hc h0=>tab.back hc (j:=16) rfl ⟨⟨13,.phase⟩,by simp,rfl,rfl⟩ h0) (fun s W hb=>?cut2),?_⟩
     case cut2 =>
      rcases HSL.out with ⟨e1,e2,e3⟩ | ⟨gg,e1,e2⟩
      ·have k0:k=0:=by omega
       subst e1 k0 e3
       simp [execOp,go_sem,Act.eval,dk.sets_get,List.lookup,tab.cut2,e2]
      ·subst e1
       by_cases h4:qk=k
       ·simp [execOp,go_sem,Act.eval,dk.sets_get,List.lookup,tab.cut2,h4,hkl2]
       ·simp [execOp,go_sem,Act.eval,dk.sets_get,List.lookup,tab.cut2,h4,hkl2]
     refine ⟨tab.st4 (x:=⟨0,5,8,9,14,16⟩) (d:=111) (s1:=106) (s2:=110) (idx:=14) (sv:=(tab.cut2 qa k ks.length qk 4)) rfl J0_up Tryz.underlying35 hi hz0 hz1 hz2 rfl (by show 0 < 4; decide) rfl rfl ⟨by simp,by simp,by simp⟩ (fun g=>rfl) (fun g=>rfl) (fun g=>rfl) (fun g=>rfl) (fun g v=>rfl) (fun W hb=>tab.src2 qu.c_len (su.own_stays HG.out.qo hb) hkl2) (oneQ _) (by show k <= 1048576/\ks.length - k <= 1048576; omega) (by show (k+1+(ks.length - k))*72 <= 140737488355328; omega) ⟨⟨9,.data⟩,by simp,rfl,rfl⟩,?_⟩
     refine ⟨tab.quiet rfl (by decide) (by simp) (.pointer (some ⟨w1.heap.size,2,none⟩)) (by rintro s _ ⟨⟩; exact dk.sets_on _ (by simp) _ rfl) (fun L hc h0=>tab.back hc (j:=16) rfl ⟨⟨15,.data⟩,by simp,rfl,rfl⟩ h0) (fun s W hb=>by simp [execOp,go_sem,Act.eval,dk.sets_get,List.lookup]),?_⟩
     exact ⟨tab.lift rfl (ta.st5 (x:=⟨0,5,8,9,14,16⟩) J0_up (by simp) rfl (Array.getElem?_eq_some_iff.1 HG.out.gnb).1 (fun s W h hv=>by obtain ⟨av,nv,cv,hv⟩:=hv; have hu:=h _ _ HG.out.gnb; have c:W.cell? ⟨w1.heap.size,2,none⟩=some (.slice qa ks.length qk):=bcell hu rfl; have f:=bfree hu 2; rw [hv]; simp [execOp,go_sem,Act.eval,dk.sets_get,List.lookup,c,f]) ⟨⟨14,.data⟩,by simp,rfl,rfl⟩),trivial⟩
    case fin =>
     intro g L W5 hL hC
     obtain ⟨V,hV,hWV,hown⟩:=ta.done hC J0_up (N:=17) (by decide) hL
     replace hown:W5.ownsRow w3.heap.size 58 4 g.v3 (k+1+(ks.length - k)) ((ks.take k).flatMap qu.c++[Value.string name,Value.int .i64 1,Value.slice none 0 0,Value.slice none 0 0]++(ks.drop k).flatMap qu.c):=hown
     have hps:ks.take k++cqp.newQ name :: ks.drop k=cqp.insQ ks name:=by
      unfold cqp.insQ
      rw [cqp.posQ_same HSM.out,HPS.out]
     have hlen:k+1+(ks.length - k)=(cqp.insQ ks name).length:=by rw [cqp.insQ_len]; omega
     have hfl:(ks.take k).flatMap qu.c++[Value.string name,Value.int .i64 1,Value.slice none 0 0,Value.slice none 0 0]++(ks.drop k).flatMap qu.c=(cqp.insQ ks name).flatMap qu.c:=by rw [<- hps]; simp [qu.c,cqp.newQ]
     rw [hlen,hfl] at hown
     obtain ⟨a3,c3,hv3⟩:=own_form hown
     rw [hv3] at hown hWV
     replace hV:Below w3.heap.size w3 V:=hV
     replace hWV:W5=V.setCell ⟨w1.heap.size,2,none⟩ (.slice a3 (cqp.insQ ks name).length c3):=hWV
     have hlow:w.heap.size+2 <= w3.heap.size:=by have:=HG.out.gl; have:=(Array.getElem?_eq_some_iff.1 HG.out.gnb).1; omega
     have HG5:Hid (Kq w es bs qs ts name a0 b0 q0 t0 ec bc qc tc g1 c1 h1 c2 w1.heap.size (w.heap.size+2) (.slice a3 (cqp.insQ ks name).length c3) (.slice tu us.length tk) (cqp.insQ ks name) us W5):=by
      rw [hWV] at hown ⊢
      exact HG.out.putQ hV hown (fun r hr=>cqp.ins_mem hr) hlow
     have F5:=cb.fit_same HF.out HSM.out
     have hk5:=HG5.out.ok (by rw [<- hps]; exact fit_q F5 hl20 HNM.out hkl2) HNM.out
     have HSM5:Hid (cb.Same (cqp.insQ qs name) (cqp.insQ ks name) ts us):=cqp.same_insQ HSM.out
     rw [cb.ok_same HSM5.out] at hk5
     obtain ⟨o0,o1,o2,o3⟩:=fl.q4 HG5.out.gnb
     obtain ⟨n5,hn5⟩:∃ n5,(cqp.insQ ks name).length=n5:=⟨_,rfl⟩
     have HN5:Hid (∀ _:Unit,(cqp.insQ ks name).length=n5):=fun _=>hn5
     rw [hn5] at hk5 o2 HG5 hv3
     simp only [dk.sets,hv3]
     clear hC hL hV hWV hown hlen hv3 hn5 hps hfl F5 hi hz0 hz1 hz2 HSL hlow
     go_wp2_with (go_at_call 17; fail)
     clear o0 o1 o2 o3
     refine hk5.mono ?_
     rintro e w6 ⟨rfl,hb6⟩
     have HG6:Hid (Kq w es bs qs ts name a0 b0 q0 t0 ec bc qc tc g1 c1 h1 c2 w1.heap.size (w.heap.size+2) (.slice a3 n5 c3) (.slice tu us.length tk) (cqp.insQ ks name) us w6):=HG5.out.on hb6
     clear hk5 HG5 hb6 HG
     obtain ⟨hu0,⟨hk0,hq0,rfl⟩ | ⟨hk0,hq0,rfl⟩⟩:=HQ2.out
     ·rw [hk0]
      have hcp:=HCP.out w6 HG6.out.bel
      obtain ⟨x0,x1,x2,x3⟩:=fl.q4 HG6.out.box
      go_wp2_with (go_at_call 14; fail)
      clear x0 x1 x2 x3
      refine hcp.mono ?_
      rintro e w7 ⟨g7,c7,h7,d7,gn7,S7,x7,y7,ks7,us7,rfl,HSM7,HKE7⟩
      obtain ⟨qa7,qk7,hxf⟩:∃ b c,x7=.slice b ks7.length c:=own_form HKE7.out.qo
      obtain ⟨ta7,tk7,hyf⟩:∃ b c,y7=.slice b us7.length c:=own_form HKE7.out.so
      subst hxf hyf
      have hres:=bstay HG6.out.res HKE7.out.bel (Array.getElem?_eq_some_iff.1 HG6.out.res).1
      have HFN:=cn.sa_res (v0:=.slice (some ⟨g7,0,none⟩) es.length c7) (v1:=.slice (some ⟨h7,0,none⟩) bs.length d7) (v2:=.slice qa7 ks7.length qk7) (v3:=.slice ta7 us7.length tk7) HG6.out.bel (ke_sa HKE7.out HSM7.out) hres (by omega)
      obtain ⟨z0,z1,z2,z3⟩:=fl.q4 hres
      obtain ⟨f0,f1,f2,f3⟩:=fl.r4 hres
      go_wp2
      exact bodyPost_ret (v:=.tuple #[.agg #[.slice (some ⟨g7,0,none⟩) es.length c7,.slice (some ⟨h7,0,none⟩) bs.length d7,.slice qa7 ks7.length qk7,.slice ta7 us7.length tk7],.bool false]) (by simp [results,Tryz.results5,go_sem,z0,z1,z2,z3]) rfl (HPO.out _ _ ⟨some ⟨g7,0,none⟩,some ⟨h7,0,none⟩,qa7,ta7,c7,d7,qk7,tk7,ks7,us7,by rw [hq0,hu0,HSM7.out.ql,HSM7.out.tl],by rw [hq0,hu0]; exact HFN⟩)
     ·rw [hk0]
      have HFN:=HG6.out.fin (Q:=Q) (U:=U) (by rw [hq0,hu0]; exact HSM5.out)
      obtain ⟨z0,z1,z2,z3⟩:=fl.q4 HG6.out.res
      obtain ⟨f0,f1,f2,f3⟩:=fl.r4 HG6.out.res
      obtain ⟨n0,n1,n2,n3⟩:=fl.q4 HG6.out.gnb
      have hg1:w1.heap.size ≠ w.heap.size+1:=by have:=HG6.out.gl; omega
      have hg3:w.heap.size+1 ≠ w1.heap.size:=by omega
      go_wp2
      exact bodyPost_ret (v:=.tuple #[.agg #[.slice (some ⟨g1,0,none⟩) es.length c1,.slice (some ⟨h1,0,none⟩) bs.length c2,.slice a3 n5 c3,.slice tu us.length tk],.bool true]) (by simp [results,Tryz.results5,go_sem,z0,z1,z2,z3]) rfl (HPO.out _ _ ⟨some ⟨g1,0,none⟩,some ⟨h1,0,none⟩,a3,tu,c1,c2,c3,tk,cqp.insQ ks name,us,by rw [hq0,hu0,<- HSM5.out.ql,<- HSM5.out.tl,HN5.out ()],HFN.out _ (by repeat' (first | apply fo.Tn.set | exact fo.Tn.of _ (Below.drew (Below.refl _ _)) | exact fo.Tn.refl _ _ | (show _=_; omega)))⟩)
end Go.Proofs.YtaoefccgdfcchaaGreat.cqs
