/- NackSpecB, BackWalks. -/
import Derived.Test.YteoojodkkjepeaaGreatKz38
import Derived.Test.YteoojodkkjepeaaGreatKz44
import Derived.Test.YteoojodkkjepeaaGreatKz35
set_option maxRecDepth 100000
set_option maxHeartbeats 8000000
set_option linter.unusedVariables false
namespace Go.Proofs.YteoojodkkjepeaaGreat.nsb
open ChangeShapes WideShapes ChangeAt RowKit rr ra rt fl co eb scc
theorem spec_no (es:List Ex) (bs:List Bi) (qs:List qu.E) (ts:List su.E) (a0 b0 q0 t0 ec bc qc tc:Nat) (o t:Int) (a:Bool) (w:World) (F:cb.Fit es bs qs ts) (hE:RE w a0 es) (hB:RB w b0 bs) (hQ:qu.R w q0 qs) (hT:su.R w t0 ts) (hqr:∀ r ∈ qs,∃ g h,r.ra=some ⟨g,0,none⟩/\r.ha=some ⟨h,0,none⟩/\Row flM.c 5 w w.heap.size r.ra r.rs/\Row flH.c 7 w w.heap.size r.ha r.hs) (htr:∀ r ∈ ts,cb.At w r) (hok:(∀ V,Below w.heap.size w V->Calls Tryz.prog 11 #[.agg #[.slice (some ⟨a0,0,none⟩) es.length ec,.slice (some ⟨b0,0,none⟩) bs.length bc,.slice (some ⟨q0,0,none⟩) qs.length qc,.slice (some ⟨t0,0,none⟩) ts.length tc]] V fun e w'=>e=.returned (.bool false)/\Below V.heap.size V w')) :
  Calls Tryz.prog 24 #[.agg #[.slice (some ⟨a0,0,none⟩) es.length ec,.slice (some ⟨b0,0,none⟩) bs.length bc,.slice (some ⟨q0,0,none⟩) qs.length qc,.slice (some ⟨t0,0,none⟩) ts.length tc],.int .i64 o,.int .i64 t,.bool a,.bool true] w fun e w'=>∃ sea sba sqa sta sec sbc sqc stc ls us,e=.returned (.tuple #[.agg #[.slice sea es.length sec,.slice sba bs.length sbc,.slice sqa (cn.done false (fun nm nx rs hs=>qbk.ansR nm nx rs hs o t a) (fun nm nx rs hs=>qdp.ansH nm nx rs hs o t a) qs).length sqc,.slice sta ts.length stc],.int .i64 (0)])/\Hid (cn.SA w w' es bs (cn.done false (fun nm nx rs hs=>qbk.ansR nm nx rs hs o t a) (fun nm nx rs hs=>qdp.ansH nm nx rs hs o t a) qs) ts sea sba sqa sta ls us):=by
 suffices hall:∀ PO:Ending->World->Prop,(∀ e w',(∃ sea sba sqa sta sec sbc sqc stc ls us,e=.returned (.tuple #[.agg #[.slice sea es.length sec,.slice sba bs.length sbc,.slice sqa (cn.done false (fun nm nx rs hs=>qbk.ansR nm nx rs hs o t a) (fun nm nx rs hs=>qdp.ansH nm nx rs hs o t a) qs).length sqc,.slice sta ts.length stc],.int .i64 (0)])/\Hid (cn.SA w w' es bs (cn.done false (fun nm nx rs hs=>qbk.ansR nm nx rs hs o t a) (fun nm nx rs hs=>qdp.ansH nm nx rs hs o t a) qs) ts sea sba sqa sta ls us))->PO e w')->Calls Tryz.prog 24 #[.agg #[.slice (some ⟨a0,0,none⟩) es.length ec,.slice (some ⟨b0,0,none⟩) bs.length bc,.slice (some ⟨q0,0,none⟩) qs.length qc,.slice (some ⟨t0,0,none⟩) ts.length tc],.int .i64 o,.int .i64 t,.bool a,.bool true] w PO from hall _ (fun _ _ h=>h)
 intro PO hPO
 have HPO:Hid (∀ e w',(∃ sea sba sqa sta sec sbc sqc stc ls us,e=.returned (.tuple #[.agg #[.slice sea es.length sec,.slice sba bs.length sbc,.slice sqa (cn.done false (fun nm nx rs hs=>qbk.ansR nm nx rs hs o t a) (fun nm nx rs hs=>qdp.ansH nm nx rs hs o t a) qs).length sqc,.slice sta ts.length stc],.int .i64 (0)])/\Hid (cn.SA w w' es bs (cn.done false (fun nm nx rs hs=>qbk.ansR nm nx rs hs o t a) (fun nm nx rs hs=>qdp.ansH nm nx rs hs o t a) qs) ts sea sba sqa sta ls us))->PO e w'):=hPO
 clear hPO
 obtain ⟨W,hW,hWb,hA,hR,hS⟩:=fl.bx2 w #[.slice (some ⟨a0,0,none⟩) es.length ec,.slice (some ⟨b0,0,none⟩) bs.length bc,.slice (some ⟨q0,0,none⟩) qs.length qc,.slice (some ⟨t0,0,none⟩) ts.length tc] #[.slice none 0 0,.slice none 0 0,.slice none 0 0,.slice none 0 0] 39 39
 have hcopy:=scc.spec_copy es bs qs ts a0 b0 q0 t0 ec bc qc tc W F (hE.below hWb) (hB.below hWb) (hQ.below hWb) (hT.below hWb) (fun r hr=>by obtain ⟨g,h,h1,h2,h3,h4⟩:=hqr r hr; exact ⟨g,h,h1,h2,h3.inn hWb,h4.inn hWb⟩) (fun r hr=>(htr r hr).below hWb)
 obtain ⟨x0,x1,x2,x3⟩:=fl.q4 hA
 have HAB:Hid (W.heap[w.heap.size]?=some (.cells #[.slice (some ⟨a0,0,none⟩) es.length ec,.slice (some ⟨b0,0,none⟩) bs.length bc,.slice (some ⟨q0,0,none⟩) qs.length qc,.slice (some ⟨t0,0,none⟩) ts.length tc] 39 (0,0))/\W.heap[w.heap.size+1]?=some (.cells #[.slice none 0 0,.slice none 0 0,.slice none 0 0,.slice none 0 0] 39 (0,0))):=⟨hA,hR⟩
 have HF:Hid (cb.Fit es bs qs ts):=F
 have HOK:Hid (∀ V,Below w.heap.size w V->Calls Tryz.prog 11 #[.agg #[.slice (some ⟨a0,0,none⟩) es.length ec,.slice (some ⟨b0,0,none⟩) bs.length bc,.slice (some ⟨q0,0,none⟩) qs.length qc,.slice (some ⟨t0,0,none⟩) ts.length tc]] V fun e w'=>e=.returned (.bool false)/\Below V.heap.size V w'):=hok
 have HWB:Hid (Below w.heap.size w W):=hWb
 have HS2:Hid (W.heap.size=w.heap.size+2):=hS
 clear hE hB hQ hT hqr htr F hA hR hok hS
 go_enter Tryz.func24,Tryz.ntmps24
 go_wp2_with (go_at_call 51; fail)
 clear hW x0 x1 x2 x3
 refine hcopy.mono ?_
 rintro e w1 ⟨g1,c1,h1,c2,gn0,S0,x,y,ks,us,rfl,HSM,HKE⟩
 obtain ⟨qa,qk,hxf⟩:∃ b c,x=.slice b ks.length c:=own_form HKE.out.qo
 obtain ⟨ta,tk,hyf⟩:∃ b c,y=.slice b us.length c:=own_form HKE.out.so
 rw [HSM.out.ql] at hxf
 rw [HSM.out.tl] at hyf
 subst hxf hyf
 have hal:=fl.bl w1 (.cells #[.slice (some ⟨g1,0,none⟩) es.length c1,.slice (some ⟨h1,0,none⟩) bs.length c2,.slice qa qs.length qk,.slice ta ts.length tk] 39)
 have HK0:Hid (nkt.Kn w es bs qs ts a0 b0 q0 t0 ec bc qc tc g1 c1 h1 c2 w1.heap.size S0 qa ta qk tk ks us (w1.alloc (.cells #[.slice (some ⟨g1,0,none⟩) es.length c1,.slice (some ⟨h1,0,none⟩) bs.length c2,.slice qa qs.length qk,.slice ta ts.length tk] 39))):=nkt.kn_of HSM.out HKE.out HWB.out HS2.out HAB.out.1 HAB.out.2 hal (bnew w1 _ _)
 obtain ⟨Y,hY⟩:∃ Y,w1.alloc (.cells #[.slice (some ⟨g1,0,none⟩) es.length c1,.slice (some ⟨h1,0,none⟩) bs.length c2,.slice qa qs.length qk,.slice ta ts.length tk] 39)=Y:=⟨_,rfl⟩
 rw [hY] at HK0
 have n2:Y.cell? ⟨w1.heap.size,2,none⟩=some (.slice qa qs.length qk):=bcell HK0.out.gnb rfl
 have HAD:Hid (∀ r ∈ ks,∃ gr gh,r.ra=some ⟨gr,0,none⟩/\r.ha=some ⟨gh,0,none⟩):=fun r hr=>by obtain ⟨g,h,h1,h2,_⟩:=HKE.out.qe r hr; exact ⟨g,h,h1,h2⟩
 clear hcopy HKE hal HAB hWb
 go_wp2
 refine wp_loop_rounds 1 ?_
 rw [rounds_succ]
 by_cases hz:0 < qs.length
 ·have hzi:(0:Int) < (qs.length:Int):=by omega
  have k:=HOK.out Y HK0.out.bel
  obtain ⟨x0,x1,x2,x3⟩:=fl.q4 HK0.out.box
  go_wp2_with (go_at_call 11; fail)
  clear hY x0 x1 x2 x3 n2
  refine k.mono ?_
  rintro e w2 ⟨rfl,hb2⟩
  have HK2:Hid (nkt.Kn w es bs qs ts a0 b0 q0 t0 ec bc qc tc g1 c1 h1 c2 w1.heap.size S0 qa ta qk tk ks us w2):=HK0.out.on hb2
  obtain ⟨n0,n1,n2,n3⟩:=fl.q4 HK2.out.gnb
  obtain ⟨z0,z1,z2,z3⟩:=fl.q4 HK2.out.res
  obtain ⟨f0,f1,f2,f3⟩:=fl.r4 HK2.out.res
  have HFN:=nkt.Kn.fin HK2.out HSM.out
  clear k HK0 hb2
  go_wp2
  exact bodyPost_ret (v:=.tuple #[.agg #[.slice (some ⟨g1,0,none⟩) es.length c1,.slice (some ⟨h1,0,none⟩) bs.length c2,.slice qa qs.length qk,.slice ta ts.length tk],.int .i64 0]) (by simp [results,Tryz.results24,go_sem,z0,z1,z2,z3]) rfl (HPO.out _ _ ⟨some ⟨g1,0,none⟩,some ⟨h1,0,none⟩,qa,ta,c1,c2,qk,tk,ks,us,rfl,HFN⟩)
 ·have hz0:qs.length=0:=by omega
  have hzi:¬ (0:Int) < (qs.length:Int):=by omega
  clear hY
  obtain ⟨n0,n1,n2,n3⟩:=fl.q4 HK0.out.gnb
  obtain ⟨z0,z1,z2,z3⟩:=fl.q4 HK0.out.res
  obtain ⟨f0,f1,f2,f3⟩:=fl.r4 HK0.out.res
  have HFN:=nkt.Kn.fin HK0.out HSM.out
  clear hz0 hz
  go_wp2
  exact bodyPost_ret (v:=.tuple #[.agg #[.slice (some ⟨g1,0,none⟩) es.length c1,.slice (some ⟨h1,0,none⟩) bs.length c2,.slice qa qs.length qk,.slice ta ts.length tk],.int .i64 0]) (by simp [results,Tryz.results24,go_sem,z0,z1,z2,z3]) rfl (HPO.out _ _ ⟨some ⟨g1,0,none⟩,some ⟨h1,0,none⟩,qa,ta,c1,c2,qk,tk,ks,us,rfl,HFN⟩)
structure Gh where
 sa:Option Addr
 ce:Nat
 sb:Option Addr
 cb:Nat
def wsA (gn gq n qk i:Nat) (o t:Int) (a:Bool) (ev:Array Value):List (Nat × Value):=[(31,.pointer (some ⟨gn,2,none⟩)),(32,.slice (some ⟨gq,0,none⟩) n qk),(33,.int .i64 i),(34,.pointer (some ⟨gn,2,none⟩)),(35,.slice (some ⟨gq,0,none⟩) n qk),(36,.int .i64 i),(37,.pointer (some ⟨gq,i*4,none⟩)),(38,.agg ev),(39,.int .i64 o),(40,.int .i64 t),(41,.bool a),(45,.pointer (some ⟨gq,i*4,none⟩))]
def wsB (nm:ByteArray) (nx:Int) (L:List flM.Ms) (H:List flH.Hd) (N:Int) (s:Gh):List (Nat × Value):=[(42,.tuple #[.agg #[.string nm,.int .i64 nx,.slice s.sa L.length s.ce,.slice s.sb H.length s.cb],.int .i64 N]),(30,.tuple #[.agg #[.string nm,.int .i64 nx,.slice s.sa L.length s.ce,.slice s.sb H.length s.cb],.int .i64 N]),(43,.agg #[.string nm,.int .i64 nx,.slice s.sa L.length s.ce,.slice s.sb H.length s.cb]),(44,.int .i64 N),(15,.int .i64 N)]
def ws (gn gq n qk i:Nat) (o t:Int) (a:Bool) (ev:Array Value) (nm:ByteArray) (nx:Int) (L:List flM.Ms) (H:List flH.Hd) (N:Int) (s:Gh):List (Nat × Value):=wsA gn gq n qk i o t a ev++wsB nm nx L H N s
theorem ws_but {gn gq n qk i:Nat} {o t:Int} {a:Bool} {ev:Array Value} {nm:ByteArray} {nx:Int} {L:List flM.Ms} {H:List flH.Hd} {N:Int} {s s':Gh} (q:Nat) (hq:q ∉ [42,30,43,44,15]):(ws gn gq n qk i o t a ev nm nx L H N s').lookup q=(ws gn gq n qk i o t a ev nm nx L H N s).lookup q:=cht.lookup_but (A:=wsA gn gq n qk i o t a ev) (B:=wsB nm nx L H N s) (B':=wsB nm nx L H N s') (qz:=[42,30,43,44,15]) rfl rfl hq
def St (w:World) (es:List Ex) (bs:List Bi) (qs:List qu.E) (ts:List su.E) (a0 b0 q0 t0 ec bc qc tc g1 c1 h1 c2 gn S0:Nat) (qa ta:Option Addr) (qk tk:Nat) (d q:List qu.E) (r:qu.E) (us:List su.E) (L:List flM.Ms) (H:List flH.Hd) (s:Gh):Nat->World->Prop
 | 0,W=>nkt.Kn w es bs qs ts a0 b0 q0 t0 ec bc qc tc g1 c1 h1 c2 gn S0 qa ta qk tk (d++r :: q) us W
 | 1,W=>nkt.Kn w es bs qs ts a0 b0 q0 t0 ec bc qc tc g1 c1 h1 c2 gn S0 qa ta qk tk (d++r :: q) us W/\fo.Mine flM.c 5 48 W S0 s.sa L/\fo.Mine flH.c 7 102 W S0 s.sb H
 | _,W=>nkt.Kn w es bs qs ts a0 b0 q0 t0 ec bc qc tc g1 c1 h1 c2 gn S0 qa ta qk tk (d++⟨r.nm,r.nx,s.sa,s.ce,L,s.sb,s.cb,H⟩ :: q) us W
theorem st_out {w:World} {es:List Ex} {bs:List Bi} {qs:List qu.E} {ts:List su.E} {a0 b0 q0 t0 ec bc qc tc g1 c1 h1 c2 gn S0:Nat} {qa ta:Option Addr} {qk tk:Nat} {d q:List qu.E} {r:qu.E} {us:List su.E} {L:List flM.Ms} {H:List flH.Hd} {s:Gh} {k:Nat} {W:World} (h:St w es bs qs ts a0 b0 q0 t0 ec bc qc tc g1 c1 h1 c2 gn S0 qa ta qk tk d q r us L H s k W):W.heap[gn]?=some (.cells #[.slice (some ⟨g1,0,none⟩) es.length c1,.slice (some ⟨h1,0,none⟩) bs.length c2,.slice qa qs.length qk,.slice ta ts.length tk] 39 (0,0)) :=
 match k,h with
 | 0,h=>h.gnb
 | 1,h=>h.1.gnb
 | _+2,h=>h.gnb
theorem yes_of (fR:ByteArray->Int->List flM.Ms->List flH.Hd->List flM.Ms) (fH:ByteArray->Int->List flM.Ms->List flH.Hd->List flH.Hd) (fN:ByteArray->Int->List flM.Ms->List flH.Hd->Int) (es:List Ex) (bs:List Bi) (qs:List qu.E) (ts:List su.E) (a0 b0 q0 t0 ec bc qc tc:Nat) (o t:Int) (a:Bool) (w:World) (F:cb.Fit es bs qs ts) (hE:RE w a0 es) (hB:RB w b0 bs) (hQ:qu.R w q0 qs) (hT:su.R w t0 ts) (hqr:∀ r ∈ qs,∃ g h,r.ra=some ⟨g,0,none⟩/\r.ha=some ⟨h,0,none⟩/\Row flM.c 5 w w.heap.size r.ra r.rs/\Row flH.c 7 w w.heap.size r.ha r.hs) (htr:∀ r ∈ ts,cb.At w r) (hok:(∀ V,Below w.heap.size w V->Calls Tryz.prog 11 #[.agg #[.slice (some ⟨a0,0,none⟩) es.length ec,.slice (some ⟨b0,0,none⟩) bs.length bc,.slice (some ⟨q0,0,none⟩) qs.length qc,.slice (some ⟨t0,0,none⟩) ts.length tc]] V fun e w'=>e=.returned (.bool true)/\Below V.heap.size V w')) (hql:qs.length <= 20) (hN:∀ s ∈ qs,0 <= fN s.nm s.nx s.rs s.hs/\fN s.nm s.nx s.rs s.hs <= 1048576) (hF:(∀ (nm:ByteArray) (nx:Int) (rs:List flM.Ms) (hs:List flH.Hd) (gr gh rc hc:Nat) (V:World),qsp.Fit nm rs hs->Row flM.c 5 V V.heap.size (some ⟨gr,0,none⟩) rs->Row flH.c 7 V V.heap.size (some ⟨gh,0,none⟩) hs->Calls Tryz.prog 69 #[.agg #[.string nm,.int .i64 nx,.slice (some ⟨gr,0,none⟩) rs.length rc,.slice (some ⟨gh,0,none⟩) hs.length hc],.int .i64 o,.int .i64 t,.bool a] V fun e w'=>∃ sa ce sb cb,e=.returned (.tuple #[.agg #[.string nm,.int .i64 nx,.slice sa (fR nm nx rs hs).length ce,.slice sb (fH nm nx rs hs).length cb],.int .i64 (fN nm nx rs hs)])/\fo.Mine flM.c 5 48 w' V.heap.size sa (fR nm nx rs hs)/\fo.Mine flH.c 7 102 w' V.heap.size sb (fH nm nx rs hs)/\Below V.heap.size V w')) :
  Calls Tryz.prog 24 #[.agg #[.slice (some ⟨a0,0,none⟩) es.length ec,.slice (some ⟨b0,0,none⟩) bs.length bc,.slice (some ⟨q0,0,none⟩) qs.length qc,.slice (some ⟨t0,0,none⟩) ts.length tc],.int .i64 o,.int .i64 t,.bool a,.bool true] w fun e w'=>∃ sea sba sqa sta sec sbc sqc stc ls us,e=.returned (.tuple #[.agg #[.slice sea es.length sec,.slice sba bs.length sbc,.slice sqa (cn.done true fR fH qs).length sqc,.slice sta ts.length stc],.int .i64 (sumN fN qs)])/\Hid (cn.SA w w' es bs (cn.done true fR fH qs) ts sea sba sqa sta ls us):=by
 have HN:Hid (∀ s ∈ qs,0 <= fN s.nm s.nx s.rs s.hs/\fN s.nm s.nx s.rs s.hs <= 1048576):=hN
 have HFF:Hid (∀ (nm:ByteArray) (nx:Int) (rs:List flM.Ms) (hs:List flH.Hd) (gr gh rc hc:Nat) (V:World),qsp.Fit nm rs hs->Row flM.c 5 V V.heap.size (some ⟨gr,0,none⟩) rs->Row flH.c 7 V V.heap.size (some ⟨gh,0,none⟩) hs->Calls Tryz.prog 69 #[.agg #[.string nm,.int .i64 nx,.slice (some ⟨gr,0,none⟩) rs.length rc,.slice (some ⟨gh,0,none⟩) hs.length hc],.int .i64 o,.int .i64 t,.bool a] V fun e w'=>∃ sa ce sb cb,e=.returned (.tuple #[.agg #[.string nm,.int .i64 nx,.slice sa (fR nm nx rs hs).length ce,.slice sb (fH nm nx rs hs).length cb],.int .i64 (fN nm nx rs hs)])/\fo.Mine flM.c 5 48 w' V.heap.size sa (fR nm nx rs hs)/\fo.Mine flH.c 7 102 w' V.heap.size sb (fH nm nx rs hs)/\Below V.heap.size V w'):=hF
 clear hN hF
 obtain ⟨W,hW,hWb,hA,hR,hS⟩:=fl.bx2 w #[.slice (some ⟨a0,0,none⟩) es.length ec,.slice (some ⟨b0,0,none⟩) bs.length bc,.slice (some ⟨q0,0,none⟩) qs.length qc,.slice (some ⟨t0,0,none⟩) ts.length tc] #[.slice none 0 0,.slice none 0 0,.slice none 0 0,.slice none 0 0] 39 39
 have hcopy:=scc.spec_copy es bs qs ts a0 b0 q0 t0 ec bc qc tc W F (hE.below hWb) (hB.below hWb) (hQ.below hWb) (hT.below hWb) (fun r hr=>by obtain ⟨g,h,h1,h2,h3,h4⟩:=hqr r hr; exact ⟨g,h,h1,h2,h3.inn hWb,h4.inn hWb⟩) (fun r hr=>(htr r hr).below hWb)
 obtain ⟨x0,x1,x2,x3⟩:=fl.q4 hA
 have HAB:Hid (W.heap[w.heap.size]?=some (.cells #[.slice (some ⟨a0,0,none⟩) es.length ec,.slice (some ⟨b0,0,none⟩) bs.length bc,.slice (some ⟨q0,0,none⟩) qs.length qc,.slice (some ⟨t0,0,none⟩) ts.length tc] 39 (0,0))/\W.heap[w.heap.size+1]?=some (.cells #[.slice none 0 0,.slice none 0 0,.slice none 0 0,.slice none 0 0] 39 (0,0))):=⟨hA,hR⟩
 have HF:Hid (cb.Fit es bs qs ts):=F
 have HOK:Hid (∀ V,Below w.heap.size w V->Calls Tryz.prog 11 #[.agg #[.slice (some ⟨a0,0,none⟩) es.length ec,.slice (some ⟨b0,0,none⟩) bs.length bc,.slice (some ⟨q0,0,none⟩) qs.length qc,.slice (some ⟨t0,0,none⟩) ts.length tc]] V fun e w'=>e=.returned (.bool true)/\Below V.heap.size V w'):=hok
 have HWB:Hid (Below w.heap.size w W):=hWb
 have HS2:Hid (W.heap.size=w.heap.size+2):=hS
 clear hE hB hQ hT hqr htr F hA hR hok hS
 go_enter Tryz.func24,Tryz.ntmps24
 go_wp2_with (go_at_call 51; fail)
 clear hW x0 x1 x2 x3
 refine hcopy.mono ?_
 rintro e w1 ⟨g1,c1,h1,c2,gn0,S0,x,y,ks,us,rfl,HSM,HKE⟩
 obtain ⟨qa,qk,hxf⟩:∃ b c,x=.slice b ks.length c:=own_form HKE.out.qo
 obtain ⟨ta,tk,hyf⟩:∃ b c,y=.slice b us.length c:=own_form HKE.out.so
 rw [HSM.out.ql] at hxf
 rw [HSM.out.tl] at hyf
 subst hxf hyf
 have hal:=fl.bl w1 (.cells #[.slice (some ⟨g1,0,none⟩) es.length c1,.slice (some ⟨h1,0,none⟩) bs.length c2,.slice qa qs.length qk,.slice ta ts.length tk] 39)
 have HK0:Hid (nkt.Kn w es bs qs ts a0 b0 q0 t0 ec bc qc tc g1 c1 h1 c2 w1.heap.size S0 qa ta qk tk ks us (w1.alloc (.cells #[.slice (some ⟨g1,0,none⟩) es.length c1,.slice (some ⟨h1,0,none⟩) bs.length c2,.slice qa qs.length qk,.slice ta ts.length tk] 39))):=nkt.kn_of HSM.out HKE.out HWB.out HS2.out HAB.out.1 HAB.out.2 hal (bnew w1 _ _)
 obtain ⟨Y,hY⟩:∃ Y,w1.alloc (.cells #[.slice (some ⟨g1,0,none⟩) es.length c1,.slice (some ⟨h1,0,none⟩) bs.length c2,.slice qa qs.length qk,.slice ta ts.length tk] 39)=Y:=⟨_,rfl⟩
 rw [hY] at HK0
 have n2:Y.cell? ⟨w1.heap.size,2,none⟩=some (.slice qa qs.length qk):=bcell HK0.out.gnb rfl
 have HAD:Hid (∀ r ∈ ks,∃ gr gh,r.ra=some ⟨gr,0,none⟩/\r.ha=some ⟨gh,0,none⟩):=fun r hr=>by obtain ⟨g,h,h1,h2,_⟩:=HKE.out.qe r hr; exact ⟨g,h,h1,h2⟩
 clear hcopy HKE hal HAB hWb
 have HNK:Hid (∀ s ∈ ks,0 <= fN s.nm s.nx s.rs s.hs/\fN s.nm s.nx s.rs s.hs <= 1048576):=fun s hs=>by
  obtain ⟨i,hi⟩:=List.mem_iff_getElem?.1 hs
  obtain ⟨x,hx,e1,e2,e3,e4⟩:=HSM.out.flip.q_at hi
  have:=HN.out x (List.mem_iff_getElem?.2 ⟨i,hx⟩)
  rwa [e1,e2,e3,e4] at this
 have HFK:Hid (cb.Fit es bs ks us):=cb.fit_same HF.out HSM.out
 have HKL:Hid (ks.length=qs.length):=HSM.out.ql
 clear HN HF
 go_wp2
 go_loopw [14,13] (fun x y wr=>∃ (k:Nat) (d q:List qu.E),k <= qs.length/\x=.int .i64 k/\y=.int .i64 (sumN fN (ks.take k))/\Hid (Dq fR fH ks d q k)/\Hid (nkt.Kn w es bs qs ts a0 b0 q0 t0 ec bc qc tc g1 c1 h1 c2 w1.heap.size S0 qa ta qk tk (d++q) us wr)) (fun x _ _=>qs.length - (intOf x).toNat)
 case atStart=>exact ⟨0,[],ks,Nat.zero_le _,rfl,rfl,⟨rfl,rfl,fun i r s hr=>by simp at hr⟩,HK0⟩
 case round =>
  obtain ⟨k,d,q,hk,rfl,rfl,hdq,hinv⟩:=hrel
  clear HK0 n2
  have HSB:Hid (0 <= sumN fN (ks.take k)/\sumN fN (ks.take k) <= 20971520):=by
   have h1:=sum_le fN (ks.take k) (fun s hs=>HNK.out s (List.mem_of_mem_take hs))
   have h2:(ks.take k).length <= 20:=by have:=HKL.out; simp; omega
   show _/\_
   omega
  obtain ⟨sm,hsm⟩:∃ sm,sumN fN (ks.take k)=sm:=⟨_,rfl⟩
  have HSS:Hid (sumN fN (ks.take k)=sm):=hsm
  rw [hsm] at HSB ⊢
  have hsb:=HSB.out
  clear hsm
  match q,hdq,hinv with
  | [],hdq,hinv =>
   have hk2:k=qs.length:=by have h1:=congrArg List.length hdq.out.ql; simp at h1; have:=HKL.out; omega
   subst hk2
   have HI3:Hid (nkt.Kn w es bs qs ts a0 b0 q0 t0 ec bc qc tc g1 c1 h1 c2 w1.heap.size S0 qa ta qk tk d us wr):=by have:=hinv.out; rw [List.append_nil] at this; exact this
   have HQS:Hid (cb.Same (cn.done true fR fH qs) d ts us):=cn.done_same hdq.out.dl HSM.out.tl (fun i r s hr hs=>by
    obtain ⟨x,hx,e1,e2,e3,e4⟩:=HSM.out.q_at hs
    have:=hdq.out.is i r x hr hx
    unfold Is at this
    show Is fR fH s r
    unfold Is
    rwa [e1,e2,e3,e4] at this) HSM.out.t
   have HSQ:Hid (sm=sumN fN qs):=by have h1:=HSS.out; rw [show qs.length=ks.length from HKL.out.symm,List.take_length] at h1; rw [<- h1]; exact sum_same HSM.out
   obtain ⟨n0,n1,n2,n3⟩:=fl.q4 HI3.out.gnb
   obtain ⟨z0,z1,z2,z3⟩:=fl.q4 HI3.out.res
   obtain ⟨f0,f1,f2,f3⟩:=fl.r4 HI3.out.res
   have HFN:=nkt.Kn.fin HI3.out HQS.out
   clear hinv hdq HSS
   go_wp2
   exact bodyPost_ret (v:=.tuple #[.agg #[.slice (some ⟨g1,0,none⟩) es.length c1,.slice (some ⟨h1,0,none⟩) bs.length c2,.slice qa qs.length qk,.slice ta ts.length tk],.int .i64 sm]) (by simp [results,Tryz.results24,go_sem,z0,z1,z2,z3]) rfl ⟨some ⟨g1,0,none⟩,some ⟨h1,0,none⟩,qa,ta,c1,c2,qk,tk,d,us,by rw [cn.done_len,HSQ.out],HFN⟩
  | r :: q,hdq,hinv =>
   have hmem:r ∈ ks/\k < ks.length:=⟨(hdq.out.more (r':=⟨r.nm,r.nx,none,0,_,none,0,_⟩) ⟨rfl,rfl,rfl,rfl⟩).2.2.2,(hdq.out.more (r':=⟨r.nm,r.nx,none,0,_,none,0,_⟩) ⟨rfl,rfl,rfl,rfl⟩).2.2.1⟩
   have hkl:k < qs.length:=by have:=HKL.out; omega
   have i2:(k:Int) < (qs.length:Int):=by omega
   obtain ⟨gr,gh,h1r,h2r⟩:=HAD.out r hmem.1
   have hnb:=HNK.out r hmem.1
   have f:=HFK.out.qf r hmem.1
   have HTK:Hid (∀ r',Is fR fH r r'->Dq fR fH ks (d++[r']) q (k+1)/\ks.take (k+1)=ks.take k++[r]):=fun r' hr=>⟨(hdq.out.more hr).1,(hdq.out.more hr).2.1⟩
   obtain ⟨nm,nx,ra,rc,rs,ha,hc,hs⟩:=r
   simp only at h1r h2r hnb f
   subst h1r h2r
   have hdl:=hdq.out.dl
   have hok2:=HOK.out wr hinv.out.bel
   obtain ⟨x0,x1,x2,x3⟩:=fl.q4 hinv.out.box
   have n2:wr.cell? ⟨w1.heap.size,2,none⟩=some (.slice qa qs.length qk):=bcell hinv.out.gnb rfl
   obtain ⟨gq,hgq,hgl⟩:∃ g,qa=some ⟨g,0,none⟩/\S0 <= g:=by
    rcases hinv.out.own with h0 | ⟨g,h1,h2,_⟩
    ·simp at h0
    ·exact ⟨g,h1,h2⟩
   subst hgq
   have HDL:Hid (d.length=k):=hdl
   clear hdq hdl
   go_wp2_with (go_at_call 11; fail)
   clear x0 x1 x2 x3 n2
   refine hok2.mono ?_
   rintro e w2 ⟨rfl,hb2⟩
   have HI2:Hid (nkt.Kn w es bs qs ts a0 b0 q0 t0 ec bc qc tc g1 c1 h1 c2 w1.heap.size S0 (some ⟨gq,0,none⟩) ta qk tk (d++⟨nm,nx,some ⟨gr,0,none⟩,rc,rs,some ⟨gh,0,none⟩,hc,hs⟩ :: q) us w2):=hinv.out.on hb2
   obtain ⟨L,hL⟩:∃ L,fR nm nx rs hs=L:=⟨_,rfl⟩
   obtain ⟨H,hH⟩:∃ H,fH nm nx rs hs=H:=⟨_,rfl⟩
   obtain ⟨N,hN'⟩:∃ N,fN nm nx rs hs=N:=⟨_,rfl⟩
   have HCL:Hid (∀ V,Row flM.c 5 V V.heap.size (some ⟨gr,0,none⟩) rs->Row flH.c 7 V V.heap.size (some ⟨gh,0,none⟩) hs->Calls Tryz.prog 69 #[.agg #[.string nm,.int .i64 nx,.slice (some ⟨gr,0,none⟩) rs.length rc,.slice (some ⟨gh,0,none⟩) hs.length hc],.int .i64 o,.int .i64 t,.bool a] V fun e w'=>∃ sa ce sb cb,e=.returned (.tuple #[.agg #[.string nm,.int .i64 nx,.slice sa L.length ce,.slice sb H.length cb],.int .i64 N])/\fo.Mine flM.c 5 48 w' V.heap.size sa L/\fo.Mine flH.c 7 102 w' V.heap.size sb H/\Below V.heap.size V w'):=fun V h1 h2=>by
    have:=HFF.out nm nx rs hs gr gh rc hc V f h1 h2
    rwa [hL,hH,hN'] at this
   have HIS:Hid (∀ s:Gh,Dq fR fH ks (d++[⟨nm,nx,s.sa,s.ce,L,s.sb,s.cb,H⟩]) q (k+1)/\sumN fN (ks.take (k+1))=sm+N):=fun s=>by
    obtain ⟨k1,k2⟩:=HTK.out ⟨nm,nx,s.sa,s.ce,L,s.sb,s.cb,H⟩ ⟨rfl,rfl,hL.symm,hH.symm⟩
    exact ⟨k1,by rw [k2,sum_snoc,HSS.out]; show sm+fN nm nx rs hs=_; rw [hN']⟩
   rw [hN'] at hnb
   clear hok2 hinv hb2 hL hH hN' HTK f
   go_wp2
   refine cht.region (ws:=ws w1.heap.size gq qs.length qk k o t a #[.string nm,.int .i64 nx,.slice (some ⟨gr,0,none⟩) rs.length rc,.slice (some ⟨gh,0,none⟩) hs.length hc] nm nx L H N) (js:=[11,16]) (S:=St w es bs qs ts a0 b0 q0 t0 ec bc qc tc g1 c1 h1 c2 w1.heap.size S0 (some ⟨gq,0,none⟩) ta qk tk d q ⟨nm,nx,some ⟨gr,0,none⟩,rc,rs,some ⟨gh,0,none⟩,hc,hs⟩ us L H) [31,32,33,34,35,36,37,38,39,40,41,45,42,30,43,44,15] ⟨none,0,none,0⟩ (by kernel_rfl) (by kernel_rfl) (fun _=>rfl) (by kernel_rfl) (by decide) (HI2.out.on (Below.refl _ _).drew) ?each ?fin
   case each =>
    refine ⟨cht.quiet 2 rfl (by decide) (.inl rfl) (by simp) (fun s=>.pointer (some ⟨w1.heap.size,2,none⟩)) (by rintro s _ ⟨⟩; exact dk.sets_on _ (by simp) _ rfl) (fun s k' W hk' hS=>by simp [execOp,go_sem,Act.eval,dk.sets_get,ws,wsA,wsB,List.lookup]),?_⟩
    refine ⟨cht.quiet 2 rfl (by decide) (.inl rfl) (by simp) (fun s=>.slice (some ⟨gq,0,none⟩) qs.length qk) (by rintro s _ ⟨⟩; exact dk.sets_on _ (by simp) _ rfl) (fun s k' W hk' hS=>by have c:W.cell? ⟨w1.heap.size,2,none⟩=some (.slice (some ⟨gq,0,none⟩) qs.length qk):=bcell (st_out hS) rfl; simp [execOp,go_sem,Act.eval,dk.sets_get,ws,wsA,wsB,List.lookup,c]),?_⟩
    refine ⟨cht.quiet 2 rfl (by decide) (.inl rfl) (by simp) (fun s=>.int .i64 k) (by rintro s _ ⟨⟩; exact dk.sets_on _ (by simp) _ rfl) (fun s k' W hk' hS=>by simp [execOp,go_sem,Act.eval,dk.sets_get,ws,wsA,wsB,List.lookup]),?_⟩
    refine ⟨cht.quiet 2 rfl (by decide) (.inl rfl) (by simp) (fun s=>.pointer (some ⟨w1.heap.size,2,none⟩)) (by rintro s _ ⟨⟩; exact dk.sets_on _ (by simp) _ rfl) (fun s k' W hk' hS=>by simp [execOp,go_sem,Act.eval,dk.sets_get,ws,wsA,wsB,List.lookup]),?_⟩
    refine ⟨cht.quiet 2 rfl (by decide) (.inl rfl) (by simp) (fun s=>.slice (some ⟨gq,0,none⟩) qs.length qk) (by rintro s _ ⟨⟩; exact dk.sets_on _ (by simp) _ rfl) (fun s k' W hk' hS=>by have c:W.cell? ⟨w1.heap.size,2,none⟩=some (.slice (some ⟨gq,0,none⟩) qs.length qk):=bcell (st_out hS) rfl; simp [execOp,go_sem,Act.eval,dk.sets_get,ws,wsA,wsB,List.lookup,c]),?_⟩
    refine ⟨cht.quiet 2 rfl (by decide) (.inl rfl) (by simp) (fun s=>.int .i64 k) (by rintro s _ ⟨⟩; exact dk.sets_on _ (by simp) _ rfl) (fun s k' W hk' hS=>by simp [execOp,go_sem,Act.eval,dk.sets_get,ws,wsA,wsB,List.lookup]),?_⟩
    refine ⟨cht.quiet 2 rfl (by decide) (.inl rfl) (by simp) (fun s=>.pointer (some ⟨gq,k*4,none⟩)) (by rintro s _ ⟨⟩; exact dk.sets_on _ (by simp) _ rfl) (fun s k' W hk' hS=>by simp [execOp,go_sem,Act.eval,dk.sets_get,ws,wsA,wsB,List.lookup,hkl]),?_⟩
    refine ⟨cht.quiet 0 rfl (by decide) (.inr ⟨11,_,rfl,rfl,⟨7,.data⟩,by simp,rfl,rfl⟩) (by simp) (fun s=>.agg #[.string nm,.int .i64 nx,.slice (some ⟨gr,0,none⟩) rs.length rc,.slice (some ⟨gh,0,none⟩) hs.length hc]) (by rintro s _ ⟨⟩; exact dk.sets_on _ (by simp) _ rfl) (fun s k' W hk' hS=>by obtain rfl:k'=0:=(by omega); have hS':nkt.Kn w es bs qs ts a0 b0 q0 t0 ec bc qc tc g1 c1 h1 c2 w1.heap.size S0 (some ⟨gq,0,none⟩) ta qk tk (d++⟨nm,nx,some ⟨gr,0,none⟩,rc,rs,some ⟨gh,0,none⟩,hc,hs⟩ :: q) us W:=hS; obtain ⟨c0,c1',c2',c3'⟩:=nkt.Kn.cells HDL.out hS'; simp only at c0 c1' c2' c3'; simp [execOp,go_sem,Act.eval,dk.sets_get,ws,wsA,wsB,List.lookup,c0,c1',c2',c3']),?_⟩
    refine ⟨cht.quiet 2 rfl (by decide) (.inl rfl) (by simp) (fun s=>.int .i64 o) (by rintro s _ ⟨⟩; exact dk.sets_on _ (by simp) _ rfl) (fun s k' W hk' hS=>by simp [execOp,go_sem,Act.eval,dk.sets_get,ws,wsA,wsB,List.lookup]),?_⟩
    refine ⟨cht.quiet 2 rfl (by decide) (.inl rfl) (by simp) (fun s=>.int .i64 t) (by rintro s _ ⟨⟩; exact dk.sets_on _ (by simp) _ rfl) (fun s k' W hk' hS=>by simp [execOp,go_sem,Act.eval,dk.sets_get,ws,wsA,wsB,List.lookup]),?_⟩
    refine ⟨cht.quiet 2 rfl (by decide) (.inl rfl) (by simp) (fun s=>.bool a) (by rintro s _ ⟨⟩; exact dk.sets_on _ (by simp) _ rfl) (fun s k' W hk' hS=>by simp [execOp,go_sem,Act.eval,dk.sets_get,ws,wsA,wsB,List.lookup]),?_⟩
    refine ⟨cht.call 0 [11,12,13,14,17] [42,30,43,44,15] (by kernel_rfl) (by kernel_rfl) rfl (by decide) rfl (.inl rfl) (by simp) 69 #[.agg #[.string nm,.int .i64 nx,.slice (some ⟨gr,0,none⟩) rs.length rc,.slice (some ⟨gh,0,none⟩) hs.length hc],.int .i64 o,.int .i64 t,.bool a] (fun s W hS=>by have hS':nkt.Kn w es bs qs ts a0 b0 q0 t0 ec bc qc tc g1 c1 h1 c2 w1.heap.size S0 (some ⟨gq,0,none⟩) ta qk tk (d++⟨nm,nx,some ⟨gr,0,none⟩,rc,rs,some ⟨gh,0,none⟩,hc,hs⟩ :: q) us W:=hS; exact ⟨by simp [go_sem,Act.eval,dk.sets_get,ws,wsA,wsB,List.lookup],(HCL.out W (hS'.ea _ qu.mid_in).row (hS'.eb _ qu.mid_in).row).mono fun e w3 hh=>by obtain ⟨sa,ce,sb,cb,he,m1,m2,hb3⟩:=hh; exact ⟨⟨sa,ce,sb,cb⟩,_,he,ws_but,(by rintro _ ⟨⟩; exact dk.sets_on _ (by simp) _ rfl),hS'.on hb3,mine_lo m1 hS'.szS,mine_lo m2 hS'.szS⟩⟩),?_⟩
    refine ⟨cht.quiet 2 rfl (by decide) (.inl rfl) (by simp) (fun s=>.tuple #[.agg #[.string nm,.int .i64 nx,.slice s.sa L.length s.ce,.slice s.sb H.length s.cb],.int .i64 N]) (by rintro s _ ⟨⟩; exact dk.sets_on _ (by simp) _ rfl) (fun s k' W hk' hS=>by simp [execOp,go_sem,Act.eval,dk.sets_get,ws,wsA,wsB,List.lookup]),?_⟩
    refine ⟨cht.quiet 2 rfl (by decide) (.inl rfl) (by simp) (fun s=>.agg #[.string nm,.int .i64 nx,.slice s.sa L.length s.ce,.slice s.sb H.length s.cb]) (by rintro s _ ⟨⟩; exact dk.sets_on _ (by simp) _ rfl) (fun s k' W hk' hS=>by simp [execOp,go_sem,Act.eval,dk.sets_get,ws,wsA,wsB,List.lookup]),?_⟩
    refine ⟨cht.quiet 2 rfl (by decide) (.inl rfl) (by simp) (fun s=>.int .i64 N) (by rintro s _ ⟨⟩; exact dk.sets_on _ (by simp) _ rfl) (fun s k' W hk' hS=>by simp [execOp,go_sem,Act.eval,dk.sets_get,ws,wsA,wsB,List.lookup]),?_⟩
    refine ⟨cht.quiet 2 rfl (by decide) (.inl rfl) (by simp) (fun s=>.pointer (some ⟨gq,k*4,none⟩)) (by rintro s _ ⟨⟩; exact dk.sets_on _ (by simp) _ rfl) (fun s k' W hk' hS=>by simp [execOp,go_sem,Act.eval,dk.sets_get,ws,wsA,wsB,List.lookup,hkl]),?_⟩
    refine ⟨cht.sto 1 rfl (by decide) rfl (.inr ⟨⟨11,.chain⟩,by simp,rfl,rfl⟩) (by simp) rfl ?st,?_⟩
    case st =>
     intro s W hS
     obtain ⟨hK,m1,m2⟩:nkt.Kn w es bs qs ts a0 b0 q0 t0 ec bc qc tc g1 c1 h1 c2 w1.heap.size S0 (some ⟨gq,0,none⟩) ta qk tk (d++⟨nm,nx,some ⟨gr,0,none⟩,rc,rs,some ⟨gh,0,none⟩,hc,hs⟩ :: q) us W/\fo.Mine flM.c 5 48 W S0 s.sa L/\fo.Mine flH.c 7 102 W S0 s.sb H:=hS
     have hp:=nkt.Kn.put (r':=⟨nm,nx,s.sa,s.ce,L,s.sb,s.cb,H⟩) HDL.out rfl hK m1 m2
     obtain ⟨c0,c1',c2',c3'⟩:=nkt.Kn.cells HDL.out hK
     obtain ⟨u0,u1,u2,u3⟩:=nkt.Kn.frees HDL.out hK
     simp only at c0 c1' c2' c3'
     exact ⟨_,by simp [execOp,go_sem,Act.eval,dk.sets_get,ws,wsA,wsB,List.lookup,c0,c1',c2',c3',u0,u1,u2,u3],hp⟩
    refine ⟨cht.quiet 2 rfl (by decide) (.inl rfl) (by simp) (fun s=>.int .i64 N) (by rintro s _ ⟨⟩; exact dk.sets_on _ (by simp) _ rfl) (fun s k' W hk' hS=>by simp [execOp,go_sem,Act.eval,dk.sets_get,ws,wsA,wsB,List.lookup]),trivial⟩
   case fin =>
    intro s W hS
    have HNX:Hid (nkt.Kn w es bs qs ts a0 b0 q0 t0 ec bc qc tc g1 c1 h1 c2 w1.heap.size S0 (some ⟨gq,0,none⟩) ta qk tk (d++⟨nm,nx,s.sa,s.ce,L,s.sb,s.cb,H⟩ :: q) us W):=hS
    have hd2:=HIS.out s
    have HDN:Hid (Dq fR fH ks (d++[⟨nm,nx,s.sa,s.ce,L,s.sb,s.cb,H⟩]) q (k+1)):=hd2.1
    have HSN:Hid (sumN fN (ks.take (k+1))=sm+N):=hd2.2
    simp only [dk.sets,ws,wsA,wsB,List.cons_append,List.nil_append]
    clear hS hd2 HIS HCL HI2
    go_wp2
    go_roundw
    case rel=>exact ⟨k+1,_,_,by omega,by go_num,by rw [HSN.out],HDN,by rw [List.append_assoc]; exact HNX⟩
    case measure=>simp [intOf]; omega
theorem spec_yes (es:List Ex) (bs:List Bi) (qs:List qu.E) (ts:List su.E) (a0 b0 q0 t0 ec bc qc tc:Nat) (o t:Int) (a:Bool) (w:World) (F:cb.Fit es bs qs ts) (hE:RE w a0 es) (hB:RB w b0 bs) (hQ:qu.R w q0 qs) (hT:su.R w t0 ts) (hqr:∀ r ∈ qs,∃ g h,r.ra=some ⟨g,0,none⟩/\r.ha=some ⟨h,0,none⟩/\Row flM.c 5 w w.heap.size r.ra r.rs/\Row flH.c 7 w w.heap.size r.ha r.hs) (htr:∀ r ∈ ts,cb.At w r) (hok:(∀ V,Below w.heap.size w V->Calls Tryz.prog 11 #[.agg #[.slice (some ⟨a0,0,none⟩) es.length ec,.slice (some ⟨b0,0,none⟩) bs.length bc,.slice (some ⟨q0,0,none⟩) qs.length qc,.slice (some ⟨t0,0,none⟩) ts.length tc]] V fun e w'=>e=.returned (.bool true)/\Below V.heap.size V w')) (hql:qs.length <= 20) (hN:∀ s ∈ qs,0 <= qdp.ansC s.nm s.nx s.rs s.hs o t a/\qdp.ansC s.nm s.nx s.rs s.hs o t a <= 1048576) :
  Calls Tryz.prog 24 #[.agg #[.slice (some ⟨a0,0,none⟩) es.length ec,.slice (some ⟨b0,0,none⟩) bs.length bc,.slice (some ⟨q0,0,none⟩) qs.length qc,.slice (some ⟨t0,0,none⟩) ts.length tc],.int .i64 o,.int .i64 t,.bool a,.bool true] w fun e w'=>∃ sea sba sqa sta sec sbc sqc stc ls us,e=.returned (.tuple #[.agg #[.slice sea es.length sec,.slice sba bs.length sbc,.slice sqa (cn.done true (fun nm nx rs hs=>qbk.ansR nm nx rs hs o t a) (fun nm nx rs hs=>qdp.ansH nm nx rs hs o t a) qs).length sqc,.slice sta ts.length stc],.int .i64 (sumN (fun nm nx rs hs=>qdp.ansC nm nx rs hs o t a) qs)])/\Hid (cn.SA w w' es bs (cn.done true (fun nm nx rs hs=>qbk.ansR nm nx rs hs o t a) (fun nm nx rs hs=>qdp.ansH nm nx rs hs o t a) qs) ts sea sba sqa sta ls us) :=
 yes_of (fun nm nx rs hs=>qbk.ansR nm nx rs hs o t a) (fun nm nx rs hs=>qdp.ansH nm nx rs hs o t a) (fun nm nx rs hs=>qdp.ansC nm nx rs hs o t a) es bs qs ts a0 b0 q0 t0 ec bc qc tc o t a w F hE hB hQ hT hqr htr hok hql hN (fun nm nx rs hs gr gh rc hc V f h1 h2=>qrm.spec_retM nm nx rs hs gr gh rc hc o t a V f h1 h2)
end Go.Proofs.YteoojodkkjepeaaGreat.nsb
namespace Go.Proofs.YteoojodkkjepeaaGreat.nkw
open ChangeShapes WideShapes ChangeAt RowKit rr ra rt fl co eb cn cb
noncomputable def backQ (es:List Ex) (bs:List Bi) (qs:List qu.E) (ts:List su.E) (o t:Int) (a:Bool):List qu.E:=done (okC es bs qs ts) (fun nm nx rs hs=>qbk.ansR nm nx rs hs o t a) (fun nm nx rs hs=>qdp.ansH nm nx rs hs o t a) qs
section
variable {w w':World} {ge gb gq gt:Nat} {es:List Ex} {bs:List Bi} {qs ls:List qu.E} {ts us:List su.E}
theorem ia_nack {ok:Bool} {fR:ByteArray->Int->List flM.Ms->List flH.Hd->List flM.Ms} {fH:ByteArray->Int->List flM.Ms->List flH.Hd->List flH.Hd} {fN:ByteArray->Int->List flM.Ms->List flH.Hd->Int} {n:Int} (h:ean.An w es bs qs ts ok fR fH fN ge gb gq gt ls us n w'):IA w w' es bs (done ok fR fH qs) ts ge gb gq gt ls us :=
 ⟨akr.ca_lo h.ca (by omega),done_same h.ql h.tl h.q h.t,h.bel⟩
end
theorem spec_b {es:List Ex} {bs:List Bi} {qs ks:List qu.E} {ts us:List su.E} {w:World} {B ge gb gq gt:Nat} (ec bc qc tc:Nat) (o t:Int) (a:Bool) (F:cb.Fit es bs qs ts) (h:Cg w B es bs qs ts ge gb gq gt ks us) :
  Calls Tryz.prog 24 #[.agg #[.slice (some ⟨ge,0,none⟩) es.length ec,.slice (some ⟨gb,0,none⟩) bs.length bc,.slice (some ⟨gq,0,none⟩) qs.length qc,.slice (some ⟨gt,0,none⟩) ts.length tc],.int .i64 o,.int .i64 t,.bool a,.bool true] w fun e w'=>∃ sea sba sqa sta sec sbc sqc stc ls vs,e=.returned (.tuple #[.agg #[.slice sea es.length sec,.slice sba bs.length sbc,.slice sqa (backQ es bs qs ts o t a).length sqc,.slice sta ts.length stc],.int .i64 (ackN es bs qs ts o t a)])/\Hid (SA w w' es bs (backQ es bs qs ts o t a) ts sea sba sqa sta ls vs):=by
 have sm:=same_of h
 have F2:=fit_same F sm
 obtain ⟨p1,p2,p3,p4,p5,p6⟩:=parts h
 have hok:=ok_spec ec bc qc tc F h
 have hsum:sumN (fun nm nx rs hs=>qdp.ansC nm nx rs hs o t a) ks=sumN (fun nm nx rs hs=>qdp.ansC nm nx rs hs o t a) qs:=sum_same sm
 unfold backQ ackN
 cases hc:okC es bs qs ts with
 | false =>
  rw [hc] at hok
  have k:=nsb.spec_no es bs ks us ge gb gq gt ec bc qc tc o t a w F2 p1 p2 p3 p4 p5 p6 hok
  rw [sm.ql,sm.tl] at k
  refine k.mono ?_
  rintro e w' ⟨sea,sba,sqa,sta,sec,sbc,sqc,stc,ls,vs,rfl,HSA⟩
  exact ⟨sea,sba,sqa,sta,sec,sbc,sqc,stc,ls,vs,by rw [done_len,done_len,sm.ql]; rfl,sa_turn HSA.out (done_congr false sm)⟩
 | true =>
  rw [hc] at hok
  have k:=nsb.spec_yes es bs ks us ge gb gq gt ec bc qc tc o t a w F2 p1 p2 p3 p4 p5 p6 hok (by rw [sm.ql]; exact okl hc) (ac_le F2 o t a)
  rw [sm.ql,sm.tl] at k
  refine k.mono ?_
  rintro e w' ⟨sea,sba,sqa,sta,sec,sbc,sqc,stc,ls,vs,rfl,HSA⟩
  exact ⟨sea,sba,sqa,sta,sec,sbc,sqc,stc,ls,vs,by rw [done_len,done_len,sm.ql,hsum]; rfl,sa_turn HSA.out (done_congr true sm)⟩
theorem impl_b {es:List Ex} {bs:List Bi} {qs ks:List qu.E} {ts us:List su.E} {w:World} {B ge gb gq gt:Nat} (ec bc qc tc:Nat) (o t:Int) (a:Bool) (F:cb.Fit es bs qs ts) (h:Cg w B es bs qs ts ge gb gq gt ks us) :
  Calls Tryz.prog 25 #[.agg #[.slice (some ⟨ge,0,none⟩) es.length ec,.slice (some ⟨gb,0,none⟩) bs.length bc,.slice (some ⟨gq,0,none⟩) qs.length qc,.slice (some ⟨gt,0,none⟩) ts.length tc],.int .i64 o,.int .i64 t,.bool a,.bool true] w fun e w'=>∃ ge5 gb5 gq5 gt5 ec5 bc5 qc5 tc5 ls vs,e=.returned (.tuple #[.agg #[.slice (some ⟨ge5,0,none⟩) es.length ec5,.slice (some ⟨gb5,0,none⟩) bs.length bc5,.slice (some ⟨gq5,0,none⟩) (backQ es bs qs ts o t a).length qc5,.slice (some ⟨gt5,0,none⟩) ts.length tc5],.int .i64 (ackN es bs qs ts o t a)])/\Hid (IA w w' es bs (backQ es bs qs ts o t a) ts ge5 gb5 gq5 gt5 ls vs):=by
 have sm:=same_of h
 have F2:=fit_same F sm
 obtain ⟨p1,p2,p3,p4,p5,p6⟩:=parts h
 have hsum:sumN (fun nm nx rs hs=>qdp.ansC nm nx rs hs o t a) ks=sumN (fun nm nx rs hs=>qdp.ansC nm nx rs hs o t a) qs:=sum_same sm
 have k:=nkr.impl_back es bs ks us ge gb gq gt ec bc qc tc o t a (okC es bs qs ts) w F2 p1 p2 p3 p4 p5 p6 (ok_impl ec bc qc tc F h) (fun hc=>by rw [sm.ql]; exact okl hc) (ac_le F2 o t a)
 rw [sm.ql,sm.tl] at k
 refine k.mono ?_
 rintro e w' ⟨g1,g2,g3,g4,ls,vs,n,rfl,HAN⟩
 refine ⟨g1,g2,g3,g4,es.length,bs.length,qs.length,ts.length,ls,vs,?_,ia_turn (ia_nack HAN.out) (done_congr _ sm)⟩
 have hn:=HAN.out.n
 rw [hsum] at hn
 unfold backQ ackN
 rw [done_len,hn]
section
variable {es:List Ex} {bs:List Bi} {qs:List qu.E} {ts:List su.E}
theorem back_sm (o t:Int) (a:Bool) (h:es.length+bulkE es+bs.length+bulkB bs+qs.length+bulk qu.wt qs+ts.length+bulk su.wt ts <= 1048576):Sm es bs (backQ es bs qs ts o t a) ts :=
 done_sm (sm_of h) (fun hc=>okl hc) (fun r hr=>by
   have f:=(cb.fit h).qf r hr
   have h1:=qdp.ansH_le r.nm r.nx r.rs r.hs o t a
   have h4:=qbk.ansR_le r.nm r.nx r.rs r.hs o t a
   have h2:=f.el
   have h3:=f.ml
   show (qbk.ansR r.nm r.nx r.rs r.hs o t a).length <= 1048577/\(qdp.ansH r.nm r.nx r.rs r.hs o t a).length <= 1048577
   exact ⟨by omega,by omega⟩)
end
end Go.Proofs.YteoojodkkjepeaaGreat.nkw
