/- SetSpec. -/
import Derived.Test.YteoojodkkjepeaaGreatKz38
import Derived.Test.YteoojodkkjepeaaGreatKz43
import Derived.Test.YteoojodkkjepeaaGreatKz53
set_option maxRecDepth 100000
set_option maxHeartbeats 8000000
set_option linter.unusedVariables false
namespace Go.Proofs.YteoojodkkjepeaaGreat.sts2
open ChangeShapes WideShapes ChangeAt RowKit rr ra rt fl co eb scc
theorem kn_set {w:World} {es:List Ex} {bs:List Bi} {qs:List qu.E} {ts:List su.E} {a0 b0 q0 t0 ec bc qc tc g1 c1 h1 c2 gn S0:Nat} {qa ta:Option Addr} {qk tk:Nat} {l:List qu.E} {us:List su.E} {W:World} {x j:Nat} {cur:Array Value} {v:Value} (h:nkt.Kn w es bs qs ts a0 b0 q0 t0 ec bc qc tc g1 c1 h1 c2 gn S0 qa ta qk tk l us W) (hx:W.heap[x]?=some (.cells cur 68 (0,0))) (hne:∀ g,qa=some ⟨g,0,none⟩->g ≠ x) (hlo:w.heap.size <= x):nkt.Kn w es bs qs ts a0 b0 q0 t0 ec bc qc tc g1 c1 h1 c2 gn S0 qa ta qk tk l us (W.setCell ⟨x,j,none⟩ v):=by
 have hg:∃ cur,W.heap[x]?=some (.cells cur 68 (0,0)):=⟨_,hx⟩
 have ht:fo.Tn W (W.setCell ⟨x,j,none⟩ v) (fun k=>k=x):=(fo.Tn.refl W (fun k=>k=x)).set (g:=x) rfl _ _
 generalize W.setCell ⟨x,j,none⟩ v=W' at ht ⊢
 have kb:∀ (b:Nat) (cur:Array Value),W.heap[b]?=some (.cells cur 39 (0,0))->W'.heap[b]?=some (.cells cur 39 (0,0)):=fun b cur hb=>(ht.block b (Array.getElem?_eq_some_iff.1 hb).1 (nkt.ne_blk (by decide) hg ⟨cur,hb⟩)).trans hb
 exact ⟨h.bel.trans (ht.below h.bel.size (fun k e=>by rw [e]; exact hlo)),kb _ _ h.box,kb _ _ h.res,kb _ _ h.gnb,nkt.owns_keep (by decide) ht hg h.o1,nkt.owns_keep (by decide) ht hg h.o2,h.own.imp id (fun ⟨g,e1,e2,e3⟩=>⟨g,e1,e2,e3.kept (ht.block g e3.lt (hne g e1))⟩),nkt.owns_keep (by decide) ht hg h.so,fun s hs=>nkt.mine_keep (by decide) ht hg (h.ea s hs),fun s hs=>nkt.mine_keep (by decide) ht hg (h.eb s hs),fun s hs=>(h.se s hs).keep (fun B n q T v xs ho h1 _ _=>nkt.owns_keep (Ne.symm h1) ht hg ho),h.hs,h.gl⟩
structure In (w:World) (es:List Ex) (bs:List Bi) (qs:List qu.E) (ts:List su.E) (a0 b0 q0 t0 ec bc qc tc g1 c1 h1 c2 gn S0:Nat) (qa ta:Option Addr) (qk tk:Nat) (l:List qu.E) (us:List su.E) (nb g3 c3:Nat) (nm:ByteArray) (nx:Int) (x3:Value) (L:List flM.Ms) (V:World):Prop where
 kn:nkt.Kn w es bs qs ts a0 b0 q0 t0 ec bc qc tc g1 c1 h1 c2 gn S0 qa ta qk tk l us V
 bx:V.heap[nb]?=some (.cells #[.string nm,.int .i64 nx,.slice (some ⟨g3,0,none⟩) L.length c3,x3] 68 (0,0))
 ro:fo.Mine flM.c 5 48 V S0 (some ⟨g3,0,none⟩) L
 cp:L.length <= c3
 ne:∀ g,qa=some ⟨g,0,none⟩->g ≠ nb
 lo:w.heap.size <= nb
section
variable {w:World} {es:List Ex} {bs:List Bi} {qs:List qu.E} {ts:List su.E} {a0 b0 q0 t0 ec bc qc tc g1 c1 h1 c2 gn S0:Nat} {qa ta:Option Addr} {qk tk:Nat} {l:List qu.E} {us:List su.E} {nb g3 c3 g4 c4:Nat} {nm:ByteArray} {nx:Int} {x3 y3:Value} {L L':List flM.Ms} {V V':World}
theorem In.on (h:In w es bs qs ts a0 b0 q0 t0 ec bc qc tc g1 c1 h1 c2 gn S0 qa ta qk tk l us nb g3 c3 nm nx x3 L V) (hb:Below V.heap.size V V'):In w es bs qs ts a0 b0 q0 t0 ec bc qc tc g1 c1 h1 c2 gn S0 qa ta qk tk l us nb g3 c3 nm nx x3 L V':=⟨h.kn.on hb,bstay h.bx hb (Array.getElem?_eq_some_iff.1 h.bx).1,h.ro.below hb,h.cp,h.ne,h.lo⟩
theorem In.put2 (h:In w es bs qs ts a0 b0 q0 t0 ec bc qc tc g1 c1 h1 c2 gn S0 qa ta qk tk l us nb g3 c3 nm nx x3 L V) (hr:fo.Mine flM.c 5 48 V S0 (some ⟨g4,0,none⟩) L') (hc:L'.length <= c4):In w es bs qs ts a0 b0 q0 t0 ec bc qc tc g1 c1 h1 c2 gn S0 qa ta qk tk l us nb g4 c4 nm nx x3 L' (V.setCell ⟨nb,2,none⟩ (.slice (some ⟨g4,0,none⟩) L'.length c4)):=⟨kn_set h.kn h.bx h.ne h.lo,bset h.bx 2 _,nkt.mine_keep (T:=68) (by decide) ((fo.Tn.refl V (fun k=>k=nb)).set (g:=nb) rfl _ _) ⟨_,h.bx⟩ hr,hc,h.ne,h.lo⟩
theorem In.put3 (h:In w es bs qs ts a0 b0 q0 t0 ec bc qc tc g1 c1 h1 c2 gn S0 qa ta qk tk l us nb g3 c3 nm nx x3 L V):In w es bs qs ts a0 b0 q0 t0 ec bc qc tc g1 c1 h1 c2 gn S0 qa ta qk tk l us nb g3 c3 nm nx y3 L (V.setCell ⟨nb,3,none⟩ y3):=⟨kn_set h.kn h.bx h.ne h.lo,bset h.bx 3 _,nkt.mine_keep (T:=68) (by decide) ((fo.Tn.refl V (fun k=>k=nb)).set (g:=nb) rfl _ _) ⟨_,h.bx⟩ h.ro,h.cp,h.ne,h.lo⟩
end
theorem spec_no (es:List Ex) (bs:List Bi) (qs:List qu.E) (ts:List su.E) (a0 b0 q0 t0 ec bc qc tc:Nat) (w:World) (F:cb.Fit es bs qs ts) (hE:RE w a0 es) (hB:RB w b0 bs) (hQ:qu.R w q0 qs) (hT:su.R w t0 ts) (hqr:∀ r ∈ qs,∃ g h,r.ra=some ⟨g,0,none⟩/\r.ha=some ⟨h,0,none⟩/\Row flM.c 5 w w.heap.size r.ra r.rs/\Row flH.c 7 w w.heap.size r.ha r.hs) (htr:∀ r ∈ ts,cb.At w r) (hok:(∀ V,Below w.heap.size w V->Calls Tryz.prog 11 #[.agg #[.slice (some ⟨a0,0,none⟩) es.length ec,.slice (some ⟨b0,0,none⟩) bs.length bc,.slice (some ⟨q0,0,none⟩) qs.length qc,.slice (some ⟨t0,0,none⟩) ts.length tc]] V fun e w'=>e=.returned (.bool false)/\Below V.heap.size V w')) :
  Calls Tryz.prog 28 #[.agg #[.slice (some ⟨a0,0,none⟩) es.length ec,.slice (some ⟨b0,0,none⟩) bs.length bc,.slice (some ⟨q0,0,none⟩) qs.length qc,.slice (some ⟨t0,0,none⟩) ts.length tc]] w fun e w'=>∃ sea sba sqa sta sec sbc sqc stc ls us,e=.returned (.agg #[.slice sea es.length sec,.slice sba bs.length sbc,.slice sqa (cn.done false (fun _ _ rs hs=>qbk.backs rs hs) (fun _ _ _ _=>[]) qs).length sqc,.slice sta ts.length stc])/\Hid (cn.SA w w' es bs (cn.done false (fun _ _ rs hs=>qbk.backs rs hs) (fun _ _ _ _=>[]) qs) ts sea sba sqa sta ls us):=by
 obtain ⟨W,hW,hWb,hA,hR,hS⟩:=fl.bx2 w #[.slice (some ⟨a0,0,none⟩) es.length ec,.slice (some ⟨b0,0,none⟩) bs.length bc,.slice (some ⟨q0,0,none⟩) qs.length qc,.slice (some ⟨t0,0,none⟩) ts.length tc] #[.slice none 0 0,.slice none 0 0,.slice none 0 0,.slice none 0 0] 39 39
 have hcopy:=scc.spec_copy es bs qs ts a0 b0 q0 t0 ec bc qc tc W F (hE.below hWb) (hB.below hWb) (hQ.below hWb) (hT.below hWb) (fun r hr=>by obtain ⟨g,h,h1,h2,h3,h4⟩:=hqr r hr; exact ⟨g,h,h1,h2,h3.inn hWb,h4.inn hWb⟩) (fun r hr=>(htr r hr).below hWb)
 obtain ⟨x0,x1,x2,x3⟩:=fl.q4 hA
 have HAB:Hid (W.heap[w.heap.size]?=some (.cells #[.slice (some ⟨a0,0,none⟩) es.length ec,.slice (some ⟨b0,0,none⟩) bs.length bc,.slice (some ⟨q0,0,none⟩) qs.length qc,.slice (some ⟨t0,0,none⟩) ts.length tc] 39 (0,0))/\W.heap[w.heap.size+1]?=some (.cells #[.slice none 0 0,.slice none 0 0,.slice none 0 0,.slice none 0 0] 39 (0,0))):=⟨hA,hR⟩
 have HF:Hid (cb.Fit es bs qs ts):=F
 have HOK:Hid (∀ V,Below w.heap.size w V->Calls Tryz.prog 11 #[.agg #[.slice (some ⟨a0,0,none⟩) es.length ec,.slice (some ⟨b0,0,none⟩) bs.length bc,.slice (some ⟨q0,0,none⟩) qs.length qc,.slice (some ⟨t0,0,none⟩) ts.length tc]] V fun e w'=>e=.returned (.bool false)/\Below V.heap.size V w'):=hok
 have HWB:Hid (Below w.heap.size w W):=hWb
 have HS2:Hid (W.heap.size=w.heap.size+2):=hS
 clear hE hB hQ hT hqr htr F hA hR hok hS
 go_enter Tryz.func28,Tryz.ntmps28
 go_wp2_with (go_at_call 51; fail)
 clear hW x0 x1 x2 x3
 refine hcopy.mono ?_
 rintro e w1 ⟨g1,c1,h1,c2,gn0,S0,x,y,ks,us,rfl,HSM,HKE⟩
 obtain ⟨qa,qk,hxf⟩:∃ b c,x=.slice b ks.length c:=own_form HKE.out.qo
 obtain ⟨ta,tk,hyf⟩:∃ b c,y=.slice b us.length c:=own_form HKE.out.so
 rw [HSM.out.ql] at hxf
 rw [HSM.out.tl] at hyf
 subst hxf hyf
 have hal:=fl.bl w1 (.cells #[.slice (some ⟨g1,0,none⟩) es.length c1,.slice (some ⟨h1,0,none⟩) bs.length c2,.slice qa qs.length qk,.slice ta ts.length tk] 39)
 have HK0:Hid (nkt.Kn w es bs qs ts a0 b0 q0 t0 ec bc qc tc g1 c1 h1 c2 w1.heap.size S0 qa ta qk tk ks us (w1.alloc (.cells #[.slice (some ⟨g1,0,none⟩) es.length c1,.slice (some ⟨h1,0,none⟩) bs.length c2,.slice qa qs.length qk,.slice ta ts.length tk] 39))):=nkt.kn_of HSM.out HKE.out HWB.out HS2.out HAB.out.1 HAB.out.2 hal (bnew w1 _ _)
 obtain ⟨Y,hY⟩:∃ Y,w1.alloc (.cells #[.slice (some ⟨g1,0,none⟩) es.length c1,.slice (some ⟨h1,0,none⟩) bs.length c2,.slice qa qs.length qk,.slice ta ts.length tk] 39)=Y:=⟨_,rfl⟩
 rw [hY] at HK0
 have n2:Y.cell? ⟨w1.heap.size,2,none⟩=some (.slice qa qs.length qk):=bcell HK0.out.gnb rfl
 have HAD:Hid (∀ r ∈ ks,∃ gr gh,r.ra=some ⟨gr,0,none⟩/\r.ha=some ⟨gh,0,none⟩):=fun r hr=>by obtain ⟨g,h,h1,h2,_⟩:=HKE.out.qe r hr; exact ⟨g,h,h1,h2⟩
 have HCP:Hid (∀ r ∈ ks,r.rs.length <= r.rc):=fun r hr=>by obtain ⟨g,h,h1,h2,o1,_⟩:=HKE.out.qe r hr; exact nkt.own_cap o1
 clear hcopy HKE hal HAB hWb
 have k:=HOK.out Y HK0.out.bel
 obtain ⟨x0,x1,x2,x3⟩:=fl.q4 HK0.out.box
 go_wp2_with (go_at_call 11; fail)
 clear hY x0 x1 x2 x3 n2
 refine k.mono ?_
 rintro e w2 ⟨rfl,hb2⟩
 have HK2:Hid (nkt.Kn w es bs qs ts a0 b0 q0 t0 ec bc qc tc g1 c1 h1 c2 w1.heap.size S0 qa ta qk tk ks us w2):=HK0.out.on hb2
 obtain ⟨n0,n1,n2,n3⟩:=fl.q4 HK2.out.gnb
 obtain ⟨z0,z1,z2,z3⟩:=fl.q4 HK2.out.res
 obtain ⟨f0,f1,f2,f3⟩:=fl.r4 HK2.out.res
 have HFN:=nkt.Kn.fin HK2.out HSM.out
 clear k HK0 hb2
 go_wp2
 exact bodyPost_ret (v:=.agg #[.slice (some ⟨g1,0,none⟩) es.length c1,.slice (some ⟨h1,0,none⟩) bs.length c2,.slice qa qs.length qk,.slice ta ts.length tk]) (by simp [results,Tryz.results28,go_sem,z0,z1,z2,z3]) rfl ⟨some ⟨g1,0,none⟩,some ⟨h1,0,none⟩,qa,ta,c1,c2,qk,tk,ks,us,rfl,HFN⟩
theorem spec_yes (es:List Ex) (bs:List Bi) (qs:List qu.E) (ts:List su.E) (a0 b0 q0 t0 ec bc qc tc:Nat) (w:World) (F:cb.Fit es bs qs ts) (hE:RE w a0 es) (hB:RB w b0 bs) (hQ:qu.R w q0 qs) (hT:su.R w t0 ts) (hqr:∀ r ∈ qs,∃ g h,r.ra=some ⟨g,0,none⟩/\r.ha=some ⟨h,0,none⟩/\Row flM.c 5 w w.heap.size r.ra r.rs/\Row flH.c 7 w w.heap.size r.ha r.hs) (htr:∀ r ∈ ts,cb.At w r) (hok:(∀ V,Below w.heap.size w V->Calls Tryz.prog 11 #[.agg #[.slice (some ⟨a0,0,none⟩) es.length ec,.slice (some ⟨b0,0,none⟩) bs.length bc,.slice (some ⟨q0,0,none⟩) qs.length qc,.slice (some ⟨t0,0,none⟩) ts.length tc]] V fun e w'=>e=.returned (.bool true)/\Below V.heap.size V w')) (hql:qs.length <= 20) (hqo:∀ s ∈ qs,qsp.okB s.nm s.nx s.rs s.hs=true) :
  Calls Tryz.prog 28 #[.agg #[.slice (some ⟨a0,0,none⟩) es.length ec,.slice (some ⟨b0,0,none⟩) bs.length bc,.slice (some ⟨q0,0,none⟩) qs.length qc,.slice (some ⟨t0,0,none⟩) ts.length tc]] w fun e w'=>∃ sea sba sqa sta sec sbc sqc stc ls us,e=.returned (.agg #[.slice sea es.length sec,.slice sba bs.length sbc,.slice sqa (cn.done true (fun _ _ rs hs=>qbk.backs rs hs) (fun _ _ _ _=>[]) qs).length sqc,.slice sta ts.length stc])/\Hid (cn.SA w w' es bs (cn.done true (fun _ _ rs hs=>qbk.backs rs hs) (fun _ _ _ _=>[]) qs) ts sea sba sqa sta ls us):=by
 suffices hall:∀ PO:Ending->World->Prop,(∀ e w',(∃ sea sba sqa sta sec sbc sqc stc ls us,e=.returned (.agg #[.slice sea es.length sec,.slice sba bs.length sbc,.slice sqa (cn.done true (fun _ _ rs hs=>qbk.backs rs hs) (fun _ _ _ _=>[]) qs).length sqc,.slice sta ts.length stc])/\Hid (cn.SA w w' es bs (cn.done true (fun _ _ rs hs=>qbk.backs rs hs) (fun _ _ _ _=>[]) qs) ts sea sba sqa sta ls us))->PO e w')->Calls Tryz.prog 28 #[.agg #[.slice (some ⟨a0,0,none⟩) es.length ec,.slice (some ⟨b0,0,none⟩) bs.length bc,.slice (some ⟨q0,0,none⟩) qs.length qc,.slice (some ⟨t0,0,none⟩) ts.length tc]] w PO from hall _ (fun _ _ h=>h)
 intro PO hPO
 have HPO:Hid (∀ e w',(∃ sea sba sqa sta sec sbc sqc stc ls us,e=.returned (.agg #[.slice sea es.length sec,.slice sba bs.length sbc,.slice sqa (cn.done true (fun _ _ rs hs=>qbk.backs rs hs) (fun _ _ _ _=>[]) qs).length sqc,.slice sta ts.length stc])/\Hid (cn.SA w w' es bs (cn.done true (fun _ _ rs hs=>qbk.backs rs hs) (fun _ _ _ _=>[]) qs) ts sea sba sqa sta ls us))->PO e w'):=hPO
 have HQO:Hid (∀ s ∈ qs,qsp.okB s.nm s.nx s.rs s.hs=true):=hqo
 clear hqo hPO
 obtain ⟨W,hW,hWb,hA,hR,hS⟩:=fl.bx2 w #[.slice (some ⟨a0,0,none⟩) es.length ec,.slice (some ⟨b0,0,none⟩) bs.length bc,.slice (some ⟨q0,0,none⟩) qs.length qc,.slice (some ⟨t0,0,none⟩) ts.length tc] #[.slice none 0 0,.slice none 0 0,.slice none 0 0,.slice none 0 0] 39 39
 have hcopy:=scc.spec_copy es bs qs ts a0 b0 q0 t0 ec bc qc tc W F (hE.below hWb) (hB.below hWb) (hQ.below hWb) (hT.below hWb) (fun r hr=>by obtain ⟨g,h,h1,h2,h3,h4⟩:=hqr r hr; exact ⟨g,h,h1,h2,h3.inn hWb,h4.inn hWb⟩) (fun r hr=>(htr r hr).below hWb)
 obtain ⟨x0,x1,x2,x3⟩:=fl.q4 hA
 have HAB:Hid (W.heap[w.heap.size]?=some (.cells #[.slice (some ⟨a0,0,none⟩) es.length ec,.slice (some ⟨b0,0,none⟩) bs.length bc,.slice (some ⟨q0,0,none⟩) qs.length qc,.slice (some ⟨t0,0,none⟩) ts.length tc] 39 (0,0))/\W.heap[w.heap.size+1]?=some (.cells #[.slice none 0 0,.slice none 0 0,.slice none 0 0,.slice none 0 0] 39 (0,0))):=⟨hA,hR⟩
 have HF:Hid (cb.Fit es bs qs ts):=F
 have HOK:Hid (∀ V,Below w.heap.size w V->Calls Tryz.prog 11 #[.agg #[.slice (some ⟨a0,0,none⟩) es.length ec,.slice (some ⟨b0,0,none⟩) bs.length bc,.slice (some ⟨q0,0,none⟩) qs.length qc,.slice (some ⟨t0,0,none⟩) ts.length tc]] V fun e w'=>e=.returned (.bool true)/\Below V.heap.size V w'):=hok
 have HWB:Hid (Below w.heap.size w W):=hWb
 have HS2:Hid (W.heap.size=w.heap.size+2):=hS
 clear hE hB hQ hT hqr htr F hA hR hok hS
 go_enter Tryz.func28,Tryz.ntmps28
 go_wp2_with (go_at_call 51; fail)
 clear hW x0 x1 x2 x3
 refine hcopy.mono ?_
 rintro e w1 ⟨g1,c1,h1,c2,gn0,S0,x,y,ks,us,rfl,HSM,HKE⟩
 obtain ⟨qa,qk,hxf⟩:∃ b c,x=.slice b ks.length c:=own_form HKE.out.qo
 obtain ⟨ta,tk,hyf⟩:∃ b c,y=.slice b us.length c:=own_form HKE.out.so
 rw [HSM.out.ql] at hxf
 rw [HSM.out.tl] at hyf
 subst hxf hyf
 have hal:=fl.bl w1 (.cells #[.slice (some ⟨g1,0,none⟩) es.length c1,.slice (some ⟨h1,0,none⟩) bs.length c2,.slice qa qs.length qk,.slice ta ts.length tk] 39)
 have HK0:Hid (nkt.Kn w es bs qs ts a0 b0 q0 t0 ec bc qc tc g1 c1 h1 c2 w1.heap.size S0 qa ta qk tk ks us (w1.alloc (.cells #[.slice (some ⟨g1,0,none⟩) es.length c1,.slice (some ⟨h1,0,none⟩) bs.length c2,.slice qa qs.length qk,.slice ta ts.length tk] 39))):=nkt.kn_of HSM.out HKE.out HWB.out HS2.out HAB.out.1 HAB.out.2 hal (bnew w1 _ _)
 obtain ⟨Y,hY⟩:∃ Y,w1.alloc (.cells #[.slice (some ⟨g1,0,none⟩) es.length c1,.slice (some ⟨h1,0,none⟩) bs.length c2,.slice qa qs.length qk,.slice ta ts.length tk] 39)=Y:=⟨_,rfl⟩
 rw [hY] at HK0
 have n2:Y.cell? ⟨w1.heap.size,2,none⟩=some (.slice qa qs.length qk):=bcell HK0.out.gnb rfl
 have HAD:Hid (∀ r ∈ ks,∃ gr gh,r.ra=some ⟨gr,0,none⟩/\r.ha=some ⟨gh,0,none⟩):=fun r hr=>by obtain ⟨g,h,h1,h2,_⟩:=HKE.out.qe r hr; exact ⟨g,h,h1,h2⟩
 have HCP:Hid (∀ r ∈ ks,r.rs.length <= r.rc):=fun r hr=>by obtain ⟨g,h,h1,h2,o1,_⟩:=HKE.out.qe r hr; exact nkt.own_cap o1
 clear hcopy HKE hal HAB hWb
 have k:=HOK.out Y HK0.out.bel
 obtain ⟨x0,x1,x2,x3⟩:=fl.q4 HK0.out.box
 go_wp2_with (go_at_call 11; fail)
 clear hY x0 x1 x2 x3 n2
 refine k.mono ?_
 rintro e w2 ⟨rfl,hb2⟩
 have HK2:Hid (nkt.Kn w es bs qs ts a0 b0 q0 t0 ec bc qc tc g1 c1 h1 c2 w1.heap.size S0 qa ta qk tk ks us w2):=HK0.out.on hb2
 have n2:w2.cell? ⟨w1.heap.size,2,none⟩=some (.slice qa qs.length qk):=bcell HK2.out.gnb rfl
 have HFK:Hid (cb.Fit es bs ks us):=cb.fit_same HF.out HSM.out
 have HKL:Hid (ks.length=qs.length):=HSM.out.ql
 have HOQ:Hid (∀ r ∈ ks,r.rs.length+r.hs.length <= 500):=fun r hr=>by
  obtain ⟨i,hi⟩:=List.mem_iff_getElem?.1 hr
  obtain ⟨x,hx,e1,e2,e3,e4⟩:=HSM.out.flip.q_at hi
  have:=(qsp.okB_true.1 (HQO.out x (List.mem_iff_getElem?.2 ⟨i,hx⟩))).ln
  rwa [e3,e4] at this
 clear k HK0 hb2 HQO HF HOK HWB HS2
 obtain ⟨fR,hfR⟩:∃ f,f=(fun (_:ByteArray) (_:Int) (rs:List flM.Ms) (hs:List flH.Hd)=>qbk.backs rs hs):=⟨_,rfl⟩
 obtain ⟨fH,hfH⟩:∃ f,f=(fun (_:ByteArray) (_:Int) (_:List flM.Ms) (_:List flH.Hd)=>([]:List flH.Hd)):=⟨_,rfl⟩
 have HFR:Hid (∀ nm nx rs hs,fR nm nx rs hs=qbk.backs rs hs):=fun nm nx rs hs=>by rw [hfR]
 have HFH:Hid (∀ nm nx rs hs,fH nm nx rs hs=[]):=fun nm nx rs hs=>by rw [hfH]
 have HPO2:Hid (∀ e w',(∃ sea sba sqa sta sec sbc sqc stc ls us,e=.returned (.agg #[.slice sea es.length sec,.slice sba bs.length sbc,.slice sqa (cn.done true fR fH qs).length sqc,.slice sta ts.length stc])/\Hid (cn.SA w w' es bs (cn.done true fR fH qs) ts sea sba sqa sta ls us))->PO e w'):=fun e w' h=>HPO.out e w' (by rw [hfR,hfH] at h; exact h)
 clear hfR hfH HPO
 go_wp2
 go_loopw [4] (fun x wr=>∃ (k:Nat) (d q:List qu.E),k <= qs.length/\x=.int .i64 k/\Hid (Dq fR fH ks d q k)/\Hid (nkt.Kn w es bs qs ts a0 b0 q0 t0 ec bc qc tc g1 c1 h1 c2 w1.heap.size S0 qa ta qk tk (d++q) us wr)) (fun x _=>qs.length - (intOf x).toNat)
 case atStart=>exact ⟨0,[],ks,Nat.zero_le _,rfl,⟨rfl,rfl,fun i r s hr=>by simp at hr⟩,HK2⟩
 case round =>
  obtain ⟨k,d,q,hk,rfl,hdq,hinv⟩:=hrel
  clear HK2 n2
  match q,hdq,hinv with
  | [],hdq,hinv =>
   have hk2:k=qs.length:=by have h1:=congrArg List.length hdq.out.ql; simp at h1; have:=HKL.out; omega
   subst hk2
   have HI3:Hid (nkt.Kn w es bs qs ts a0 b0 q0 t0 ec bc qc tc g1 c1 h1 c2 w1.heap.size S0 qa ta qk tk d us wr):=by have:=hinv.out; rw [List.append_nil] at this; exact this
   have HQS:Hid (cb.Same (cn.done true fR fH qs) d ts us):=cn.done_same hdq.out.dl HSM.out.tl (fun i r s hr hs=>by
    obtain ⟨x,hx,e1,e2,e3,e4⟩:=HSM.out.q_at hs
    have:=hdq.out.is i r x hr hx
    unfold Is at this
    show Is fR fH s r
    unfold Is
    rwa [e1,e2,e3,e4] at this) HSM.out.t
   obtain ⟨n0,n1,n2,n3⟩:=fl.q4 HI3.out.gnb
   obtain ⟨z0,z1,z2,z3⟩:=fl.q4 HI3.out.res
   obtain ⟨f0,f1,f2,f3⟩:=fl.r4 HI3.out.res
   have HFN:=nkt.Kn.fin HI3.out HQS.out
   clear hinv hdq
   go_wp2
   exact bodyPost_ret (v:=.agg #[.slice (some ⟨g1,0,none⟩) es.length c1,.slice (some ⟨h1,0,none⟩) bs.length c2,.slice qa qs.length qk,.slice ta ts.length tk]) (by simp [results,Tryz.results28,go_sem,z0,z1,z2,z3]) rfl (HPO2.out _ _ ⟨some ⟨g1,0,none⟩,some ⟨h1,0,none⟩,qa,ta,c1,c2,qk,tk,d,us,by rw [cn.done_len],HFN⟩)
  | r :: q,hdq,hinv =>
   have hmem:r ∈ ks/\k < ks.length:=⟨(hdq.out.more (r':=⟨r.nm,r.nx,none,0,_,none,0,_⟩) ⟨rfl,rfl,rfl,rfl⟩).2.2.2,(hdq.out.more (r':=⟨r.nm,r.nx,none,0,_,none,0,_⟩) ⟨rfl,rfl,rfl,rfl⟩).2.2.1⟩
   have hkl:k < qs.length:=by have:=HKL.out; omega
   have i2:(k:Int) < (qs.length:Int):=by omega
   obtain ⟨gr,gh,h1r,h2r⟩:=HAD.out r hmem.1
   have hcp:=HCP.out r hmem.1
   have hln:=HOQ.out r hmem.1
   have HTK:Hid (∀ r',Is fR fH r r'->Dq fR fH ks (d++[r']) q (k+1)):=fun r' hr=>(hdq.out.more hr).1
   obtain ⟨nm,nx,ra,rc,rs,ha,hc,hs⟩:=r
   simp only at h1r h2r hcp hln
   subst h1r h2r
   have hdl:=hdq.out.dl
   have n2:wr.cell? ⟨w1.heap.size,2,none⟩=some (.slice qa qs.length qk):=bcell hinv.out.gnb rfl
   obtain ⟨gq,hgq,hgl⟩:∃ g,qa=some ⟨g,0,none⟩/\S0 <= g:=by
    rcases hinv.out.own with h0 | ⟨g,h1,h2,_⟩
    ·simp at h0
    ·exact ⟨g,h1,h2⟩
   subst hgq
   obtain ⟨c0,c1',c2',c3'⟩:=nkt.Kn.cells hdl hinv.out
   simp only at c0 c1' c2' c3'
   have HDL:Hid (d.length=k):=hdl
   have hgql:gq < wr.heap.size:=hinv.out.at_.lt
   have hS0:=hinv.out.szS
   have hsz:=hinv.out.bel.size
   have hal:=fl.bl wr (.cells #[.string nm,.int .i64 nx,.slice (some ⟨gr,0,none⟩) rs.length rc,.slice (some ⟨gh,0,none⟩) hs.length hc] 68)
   have HI0:Hid (In w es bs qs ts a0 b0 q0 t0 ec bc qc tc g1 c1 h1 c2 w1.heap.size S0 (some ⟨gq,0,none⟩) ta qk tk (d++⟨nm,nx,some ⟨gr,0,none⟩,rc,rs,some ⟨gh,0,none⟩,hc,hs⟩ :: q) us wr.heap.size gr rc nm nx (.slice (some ⟨gh,0,none⟩) hs.length hc) (qbk.backs rs (hs.take 0)) (wr.alloc (.cells #[.string nm,.int .i64 nx,.slice (some ⟨gr,0,none⟩) rs.length rc,.slice (some ⟨gh,0,none⟩) hs.length hc] 68))):=⟨hinv.out.on hal,bnew wr _ _,((hinv.out.on hal).ea _ qu.mid_in),hcp,fun g e=>by cases e; omega,by omega⟩
   obtain ⟨wo,hwo⟩:∃ wo,wo=wr:=⟨_,rfl⟩
   subst hwo
   clear hdq hdl hinv hal
   go_wp2
   go_loopw [6] (fun x wr2=>∃ (j:Nat) (g3 c3:Nat),j <= hs.length/\x=.int .i64 j/\Hid (In w es bs qs ts a0 b0 q0 t0 ec bc qc tc g1 c1 h1 c2 w1.heap.size S0 (some ⟨gq,0,none⟩) ta qk tk (d++⟨nm,nx,some ⟨gr,0,none⟩,rc,rs,some ⟨gh,0,none⟩,hc,hs⟩ :: q) us wo.heap.size g3 c3 nm nx (.slice (some ⟨gh,0,none⟩) hs.length hc) (qbk.backs rs (hs.take j)) wr2)) (fun x _=>hs.length - (intOf x).toNat)
   case atStart=>exact ⟨0,gr,rc,Nat.zero_le _,rfl,HI0⟩
   case round =>
    obtain ⟨j,g3,c3,hj,rfl,hin⟩:=hrel
    clear HI0 c0 c1' c2' c3' n2
    have nbl:wo.heap.size < wr.heap.size:=(Array.getElem?_eq_some_iff.1 hin.out.bx).1
    have hS1:=hin.out.kn.szS
    have b3:wr.cell? ⟨wo.heap.size,3,none⟩=some (.slice (some ⟨gh,0,none⟩) hs.length hc):=bcell hin.out.bx rfl
    have hlL:Hid ((qbk.backs rs (hs.take j)).length=rs.length+j):=by show _=_; rw [qbk.backs_len,List.length_take,Nat.min_eq_left hj]
    by_cases hjl:j < hs.length
    ·have i3:(j:Int) < (hs.length:Int):=by omega
     have HG:Hid (hs[j]?=some hs[j]):=List.getElem?_eq_getElem hjl
     obtain ⟨⟨ht,ho,⟨q',x,y,z,ag⟩⟩,he⟩:∃ e,hs[j]=e:=⟨_,rfl⟩
     rw [he] at HG
     obtain ⟨k2,k3,k4,k5,k6⟩:=qrs.cells7 (hin.out.kn.eb _ qu.mid_in).row HG.out
     have HBT:Hid (qbk.backs rs (hs.take (j+1))=qbk.back (qbk.backs rs (hs.take j)) ⟨q',x,y,z,true⟩):=qrs.backs_take HG.out
     obtain ⟨LK,hLK⟩:∃ LK,qbk.backs rs (hs.take j)=LK:=⟨_,rfl⟩
     rw [hLK] at hin HBT hlL
     have b2:wr.cell? ⟨wo.heap.size,2,none⟩=some (.slice (some ⟨g3,0,none⟩) LK.length c3):=bcell hin.out.bx rfl
     have hst:=fl.bl wr (.cells #[.int .i64 q',.string x,.string y,.string z,.bool true] 48)
     have hbk:=qbs.spec_back LK g3 c3 ⟨q',x,y,z,true⟩ _ (by have:=hlL.out; omega) hin.out.cp (hin.out.ro.row.inn hst)
     have HRW:Hid (In w es bs qs ts a0 b0 q0 t0 ec bc qc tc g1 c1 h1 c2 w1.heap.size S0 (some ⟨gq,0,none⟩) ta qk tk (d++⟨nm,nx,some ⟨gr,0,none⟩,rc,rs,some ⟨gh,0,none⟩,hc,hs⟩ :: q) us wo.heap.size g3 c3 nm nx (.slice (some ⟨gh,0,none⟩) hs.length hc) LK (wr.alloc (.cells #[.int .i64 q',.string x,.string y,.string z,.bool true] 48))):=hin.out.on hst
     have hne5:wo.heap.size ≠ wr.heap.size:=by omega
     have hne6:wr.heap.size ≠ wo.heap.size:=by omega
     clear he hLK hst hin
     go_wp2_with (go_at_call 73; fail)
     refine hbk.mono ?_
     rintro e w4 ⟨g4,c4,rfl,how,hb4⟩
     have hR4:=HRW.out.on hb4
     have o3:w4.cell? ⟨wo.heap.size,2,none⟩=some (.slice (some ⟨g3,0,none⟩) LK.length c3):=bcell hR4.bx rfl
     have o3f:=bfree hR4.bx 2
     have hRN:=hR4.put2 (qdm.own_mine flM.c_len how (by simp only [World.size_alloc]; omega)) (nkt.own_cap how)
     rw [<- HBT.out] at hRN
     have HRN:Hid (In w es bs qs ts a0 b0 q0 t0 ec bc qc tc g1 c1 h1 c2 w1.heap.size S0 (some ⟨gq,0,none⟩) ta qk tk (d++⟨nm,nx,some ⟨gr,0,none⟩,rc,rs,some ⟨gh,0,none⟩,hc,hs⟩ :: q) us wo.heap.size g4 c4 nm nx (.slice (some ⟨gh,0,none⟩) hs.length hc) (qbk.backs rs (hs.take (j+1))) (w4.setCell ⟨wo.heap.size,2,none⟩ (.slice (some ⟨g4,0,none⟩) (qbk.backs rs (hs.take (j+1))).length c4))):=hRN
     rw [<- HBT.out]
     clear hbk how hR4 hRN b2 b3 k2 k3 k4 k5 k6 HRW
     go_wp2
     go_roundw
     case rel=>exact ⟨j+1,_,_,by omega,by go_num,HRN⟩
     case measure=>simp [intOf]; omega
    ·obtain rfl:j=hs.length:=by omega
     rw [List.take_length] at hin hlL
     have hal:Below (wr.setCell ⟨wo.heap.size,3,none⟩ (.slice (some ⟨wr.heap.size,0,none⟩) 0 0)).heap.size (wr.setCell ⟨wo.heap.size,3,none⟩ (.slice (some ⟨wr.heap.size,0,none⟩) 0 0)) ((wr.setCell ⟨wo.heap.size,3,none⟩ (.slice (some ⟨wr.heap.size,0,none⟩) 0 0)).alloc (.cells #[] 102)):=(Below.refl _ _).alloc (Nat.le_refl _) _
     have hi2:=(hin.out.put3 (y3:=.slice (some ⟨wr.heap.size,0,none⟩) 0 0)).on hal
     have b3f:=bfree hin.out.bx 3
     have HFS:Hid (fR nm nx rs hs=qbk.backs rs hs/\fH nm nx rs hs=[]):=⟨HFR.out _ _ _ _,HFH.out _ _ _ _⟩
     have HDN:Hid (Dq fR fH ks (d++[⟨nm,nx,some ⟨g3,0,none⟩,c3,qbk.backs rs hs,some ⟨wr.heap.size,0,none⟩,0,[]⟩]) q (k+1)):=HTK.out _ ⟨rfl,rfl,HFS.out.1.symm,HFS.out.2.symm⟩
     obtain ⟨LK,hLK⟩:∃ LK,qbk.backs rs hs=LK:=⟨_,rfl⟩
     rw [hLK] at hi2 HDN hin
     have HP:=nkt.Kn.put (r':=⟨nm,nx,some ⟨g3,0,none⟩,c3,LK,some ⟨wr.heap.size,0,none⟩,0,[]⟩) HDL.out rfl hi2.kn hi2.ro (.inl rfl)
     have HPT:Hid (nkt.Kn w es bs qs ts a0 b0 q0 t0 ec bc qc tc g1 c1 h1 c2 w1.heap.size S0 (some ⟨gq,0,none⟩) ta qk tk (d++⟨nm,nx,some ⟨g3,0,none⟩,c3,LK,some ⟨wr.heap.size,0,none⟩,0,[]⟩ :: q) us _):=HP
     obtain ⟨v0,v1,v2,v3⟩:=fl.q4 hi2.bx
     have v4:((wr.setCell ⟨wo.heap.size,3,none⟩ (.slice (some ⟨wr.heap.size,0,none⟩) 0 0)).alloc (.cells #[] 102)).cell? ⟨w1.heap.size,2,none⟩=some (.slice (some ⟨gq,0,none⟩) qs.length qk):=bcell hi2.kn.gnb rfl
     obtain ⟨y0,y1,y2,y3⟩:=nkt.Kn.cells HDL.out hi2.kn
     obtain ⟨u0,u1,u2,u3⟩:=nkt.Kn.frees HDL.out hi2.kn
     simp only at y0 y1 y2 y3
     have hne5:wo.heap.size ≠ wr.heap.size:=by omega
     have hne6:gq ≠ wo.heap.size:=by omega
     clear hal hi2 hin hLK HP HFS
     go_wp2
     go_roundw
     case rel=>exact ⟨k+1,_,_,by omega,by go_num,HDN,by rw [List.append_assoc]; exact HPT⟩
     case measure=>simp [intOf]; omega
end Go.Proofs.YteoojodkkjepeaaGreat.sts2
