/- NackSpecC. -/
import Derived.Test.YteoojodkkjepeaaGreatKn43
set_option maxRecDepth 100000
set_option maxHeartbeats 8000000
set_option linter.unusedVariables false
namespace Go.Proofs.YteoojodkkjepeaaGreat.nsc
open ChangeShapes WideShapes ChangeAt RowKit rr ra rt fl co eb scc
theorem spec_no (fR:ByteArray->Int->List flM.Ms->List flH.Hd->List flM.Ms)(fH:ByteArray->Int->List flM.Ms->List flH.Hd->List flH.Hd)(es:List Ex)(bs:List Bi)(qs:List qu.E)(ts:List su.E)(a0 b0 q0 t0 ec bc qc tc:Nat)(o t:Int)(a bk:Bool)(w:World)(F:cb.Fit es bs qs ts)(hE:RE w a0 es)(hB:RB w b0 bs)(hQ:qu.R w q0 qs)(hT:su.R w t0 ts)(hqr:∀ r∈qs,∃ g h,r.ra=some ⟨g,0,none⟩/\r.ha=some ⟨h,0,none⟩/\Row flM.c 5 w w.heap.size r.ra r.rs/\Row flH.c 7 w w.heap.size r.ha r.hs)(htr:∀ r∈ts,cb.At w r)(hok:(∀ V,Below w.heap.size w V->Calls Tryz.prog 11 #[.agg #[.slice (some ⟨a0,0,none⟩) es.length ec,.slice (some ⟨b0,0,none⟩) bs.length bc,.slice (some ⟨q0,0,none⟩) qs.length qc,.slice (some ⟨t0,0,none⟩) ts.length tc]] V fun e w'=>e=.returned (.bool false)/\Below V.heap.size V w')) :
  Calls Tryz.prog 24 #[.agg #[.slice (some ⟨a0,0,none⟩) es.length ec,.slice (some ⟨b0,0,none⟩) bs.length bc,.slice (some ⟨q0,0,none⟩) qs.length qc,.slice (some ⟨t0,0,none⟩) ts.length tc],.int .i64 o,.int .i64 t,.bool a,.bool bk] w fun e w'=>∃ sea sba sqa sta sec sbc sqc stc ls us,e=.returned (.tuple #[.agg #[.slice sea es.length sec,.slice sba bs.length sbc,.slice sqa (cn.done false fR fH qs).length sqc,.slice sta ts.length stc],.int .i64 (0)])/\Hid (cn.SA w w' es bs (cn.done false fR fH qs) ts sea sba sqa sta ls us):=by
 suffices hall:∀ PO:Ending->World->Prop,(∀ e w',(∃ sea sba sqa sta sec sbc sqc stc ls us,e=.returned (.tuple #[.agg #[.slice sea es.length sec,.slice sba bs.length sbc,.slice sqa (cn.done false fR fH qs).length sqc,.slice sta ts.length stc],.int .i64 (0)])/\Hid (cn.SA w w' es bs (cn.done false fR fH qs) ts sea sba sqa sta ls us))->PO e w')->Calls Tryz.prog 24 #[.agg #[.slice (some ⟨a0,0,none⟩) es.length ec,.slice (some ⟨b0,0,none⟩) bs.length bc,.slice (some ⟨q0,0,none⟩) qs.length qc,.slice (some ⟨t0,0,none⟩) ts.length tc],.int .i64 o,.int .i64 t,.bool a,.bool bk] w PO from hall _ (fun _ _ h=>h)
 intro PO hPO
 have HPO:Hid (∀ e w',(∃ sea sba sqa sta sec sbc sqc stc ls us,e=.returned (.tuple #[.agg #[.slice sea es.length sec,.slice sba bs.length sbc,.slice sqa (cn.done false fR fH qs).length sqc,.slice sta ts.length stc],.int .i64 (0)])/\Hid (cn.SA w w' es bs (cn.done false fR fH qs) ts sea sba sqa sta ls us))->PO e w'):=hPO
 clear hPO
 obtain⟨W,hW,hWb,hA,hR,hS⟩:=fl.bx2 w #[.slice (some ⟨a0,0,none⟩) es.length ec,.slice (some ⟨b0,0,none⟩) bs.length bc,.slice (some ⟨q0,0,none⟩) qs.length qc,.slice (some ⟨t0,0,none⟩) ts.length tc] #[.slice none 0 0,.slice none 0 0,.slice none 0 0,.slice none 0 0] 39 39
 have hcopy:=scc.spec_copy es bs qs ts a0 b0 q0 t0 ec bc qc tc W F (hE.below hWb) (hB.below hWb) (hQ.below hWb) (hT.below hWb) (fun r hr=>by obtain⟨g,h,h1,h2,h3,h4⟩:=hqr r hr;exact⟨g,h,h1,h2,h3.inn hWb,h4.inn hWb⟩) (fun r hr=>(htr r hr).below hWb)
 obtain⟨x0,x1,x2,x3⟩:=fl.q4 hA
 have HAB:Hid (W.heap[w.heap.size]?=some (.cells #[.slice (some ⟨a0,0,none⟩) es.length ec,.slice (some ⟨b0,0,none⟩) bs.length bc,.slice (some ⟨q0,0,none⟩) qs.length qc,.slice (some ⟨t0,0,none⟩) ts.length tc] 39 (0,0))/\W.heap[w.heap.size+1]?=some (.cells #[.slice none 0 0,.slice none 0 0,.slice none 0 0,.slice none 0 0] 39 (0,0))):=⟨hA,hR⟩
 have HF:Hid (cb.Fit es bs qs ts):=F
 have HOK:Hid (∀ V,Below w.heap.size w V->Calls Tryz.prog 11 #[.agg #[.slice (some ⟨a0,0,none⟩) es.length ec,.slice (some ⟨b0,0,none⟩) bs.length bc,.slice (some ⟨q0,0,none⟩) qs.length qc,.slice (some ⟨t0,0,none⟩) ts.length tc]] V fun e w'=>e=.returned (.bool false)/\Below V.heap.size V w'):=hok
 have HWB:Hid (Below w.heap.size w W):=hWb
 have HS2:Hid (W.heap.size=w.heap.size+2):=hS
 clear hE hB hQ hT hqr htr F hA hR hok hS
 go_enter Tryz.func24,Tryz.ntmps24
 go_wp2_with (go_at_call 51;fail)
 clear hW x0 x1 x2 x3
 refine hcopy.mono ?_
 rintro e w1 ⟨g1,c1,h1,c2,gn0,S0,x,y,ks,us,rfl,HSM,HKE⟩
 obtain⟨qa,qk,hxf⟩:∃ b c,x=.slice b ks.length c:=own_form HKE.out.qo
 obtain⟨ta,tk,hyf⟩:∃ b c,y=.slice b us.length c:=own_form HKE.out.so
 rw [HSM.out.ql] at hxf
 rw [HSM.out.tl] at hyf
 subst hxf hyf
 have hal:=fl.bl w1 (.cells #[.slice (some ⟨g1,0,none⟩) es.length c1,.slice (some ⟨h1,0,none⟩) bs.length c2,.slice qa qs.length qk,.slice ta ts.length tk] 39)
 have HK0:Hid (nkt.Kn w es bs qs ts a0 b0 q0 t0 ec bc qc tc g1 c1 h1 c2 w1.heap.size S0 qa ta qk tk ks us (w1.alloc (.cells #[.slice (some ⟨g1,0,none⟩) es.length c1,.slice (some ⟨h1,0,none⟩) bs.length c2,.slice qa qs.length qk,.slice ta ts.length tk] 39))):=nkt.kn_of HSM.out HKE.out HWB.out HS2.out HAB.out.1 HAB.out.2 hal (bnew w1 _ _)
 obtain⟨Y,hY⟩:∃ Y,w1.alloc (.cells #[.slice (some ⟨g1,0,none⟩) es.length c1,.slice (some ⟨h1,0,none⟩) bs.length c2,.slice qa qs.length qk,.slice ta ts.length tk] 39)=Y:=⟨_,rfl⟩
 rw [hY] at HK0
 have n2:Y.cell? ⟨w1.heap.size,2,none⟩=some (.slice qa qs.length qk):=bcell HK0.out.gnb rfl
 have HAD:Hid (∀ r∈ks,∃ gr gh,r.ra=some ⟨gr,0,none⟩/\r.ha=some ⟨gh,0,none⟩):=fun r hr=>by obtain⟨g,h,h1,h2,_⟩:=HKE.out.qe r hr;exact⟨g,h,h1,h2⟩
 clear hcopy HKE hal HAB hWb
 go_wp2
 refine wp_loop_rounds 1 ?_
 rw [rounds_succ]
 by_cases hz:0<qs.length
 ·have hzi:(0:Int)<(qs.length:Int):=by omega
  have k:=HOK.out Y HK0.out.bel
  obtain⟨x0,x1,x2,x3⟩:=fl.q4 HK0.out.box
  go_wp2_with (go_at_call 11;fail)
  clear hY x0 x1 x2 x3 n2
  refine k.mono ?_
  rintro e w2 ⟨rfl,hb2⟩
  have HK2:Hid (nkt.Kn w es bs qs ts a0 b0 q0 t0 ec bc qc tc g1 c1 h1 c2 w1.heap.size S0 qa ta qk tk ks us w2):=HK0.out.on hb2
  obtain⟨n0,n1,n2,n3⟩:=fl.q4 HK2.out.gnb
  obtain⟨z0,z1,z2,z3⟩:=fl.q4 HK2.out.res
  obtain⟨f0,f1,f2,f3⟩:=fl.r4 HK2.out.res
  have HFN:=nkt.Kn.fin HK2.out HSM.out
  clear k HK0 hb2
  go_wp2
  exact bodyPost_ret (v:=.tuple #[.agg #[.slice (some ⟨g1,0,none⟩) es.length c1,.slice (some ⟨h1,0,none⟩) bs.length c2,.slice qa qs.length qk,.slice ta ts.length tk],.int .i64 0]) (by simp [results,Tryz.results24,go_sem,z0,z1,z2,z3]) rfl (HPO.out _ _ ⟨some ⟨g1,0,none⟩,some ⟨h1,0,none⟩,qa,ta,c1,c2,qk,tk,ks,us,rfl,HFN⟩)
 ·have hz0:qs.length=0:=by omega
  have hzi:¬ (0:Int)<(qs.length:Int):=by omega
  clear hY
  obtain⟨n0,n1,n2,n3⟩:=fl.q4 HK0.out.gnb
  obtain⟨z0,z1,z2,z3⟩:=fl.q4 HK0.out.res
  obtain⟨f0,f1,f2,f3⟩:=fl.r4 HK0.out.res
  have HFN:=nkt.Kn.fin HK0.out HSM.out
  clear hz0 hz
  go_wp2
  exact bodyPost_ret (v:=.tuple #[.agg #[.slice (some ⟨g1,0,none⟩) es.length c1,.slice (some ⟨h1,0,none⟩) bs.length c2,.slice qa qs.length qk,.slice ta ts.length tk],.int .i64 0]) (by simp [results,Tryz.results24,go_sem,z0,z1,z2,z3]) rfl (HPO.out _ _ ⟨some ⟨g1,0,none⟩,some ⟨h1,0,none⟩,qa,ta,c1,c2,qk,tk,ks,us,rfl,HFN⟩)
structure Gh where
 sa:Option Addr
 ce:Nat
 sb:Option Addr
 cb:Nat
def wsA0 (gn gq n qk i:Nat)(o t:Int)(a:Bool)(ev:Array Value):List (Nat × Value):=[(47,.pointer (some ⟨gn,2,none⟩)),(48,.slice (some ⟨gq,0,none⟩) n qk),(49,.int .i64 i),(50,.pointer (some ⟨gn,2,none⟩)),(51,.slice (some ⟨gq,0,none⟩) n qk),(52,.int .i64 i),(53,.pointer (some ⟨gq,i*4,none⟩)),(54,.agg ev),(55,.int .i64 o),(56,.int .i64 t),(57,.bool a),(61,.pointer (some ⟨gq,i*4,none⟩))]
def wsB0 (nm:ByteArray)(nx:Int)(L:List flM.Ms)(H:List flH.Hd)(N:Int)(s:Gh):List (Nat × Value):=[(58,.tuple #[.agg #[.string nm,.int .i64 nx,.slice s.sa L.length s.ce,.slice s.sb H.length s.cb],.int .i64 N]),(46,.tuple #[.agg #[.string nm,.int .i64 nx,.slice s.sa L.length s.ce,.slice s.sb H.length s.cb],.int .i64 N]),(59,.agg #[.string nm,.int .i64 nx,.slice s.sa L.length s.ce,.slice s.sb H.length s.cb]),(60,.int .i64 N),(15,.int .i64 N)]
def ws0 (gn gq n qk i:Nat)(o t:Int)(a:Bool)(ev:Array Value)(nm:ByteArray)(nx:Int)(L:List flM.Ms)(H:List flH.Hd)(N:Int)(s:Gh):List (Nat × Value):=wsA0 gn gq n qk i o t a ev++wsB0 nm nx L H N s
theorem ws_but0 {gn gq n qk i:Nat}{o t:Int}{a:Bool}{ev:Array Value}{nm:ByteArray}{nx:Int}{L:List flM.Ms}{H:List flH.Hd}{N:Int}{s s':Gh}(q:Nat)(hq:q ∉ [58,46,59,60,15]):(ws0 gn gq n qk i o t a ev nm nx L H N s').lookup q=(ws0 gn gq n qk i o t a ev nm nx L H N s).lookup q:=cht.lookup_but (A:=wsA0 gn gq n qk i o t a ev) (B:=wsB0 nm nx L H N s) (B':=wsB0 nm nx L H N s') (qz:=[58,46,59,60,15]) rfl rfl hq
def wsA1 (gn gq n qk i:Nat)(o t:Int)(a:Bool)(ev:Array Value):List (Nat × Value):=[(31,.pointer (some ⟨gn,2,none⟩)),(32,.slice (some ⟨gq,0,none⟩) n qk),(33,.int .i64 i),(34,.pointer (some ⟨gn,2,none⟩)),(35,.slice (some ⟨gq,0,none⟩) n qk),(36,.int .i64 i),(37,.pointer (some ⟨gq,i*4,none⟩)),(38,.agg ev),(39,.int .i64 o),(40,.int .i64 t),(41,.bool a),(45,.pointer (some ⟨gq,i*4,none⟩))]
def wsB1 (nm:ByteArray)(nx:Int)(L:List flM.Ms)(H:List flH.Hd)(N:Int)(s:Gh):List (Nat × Value):=[(42,.tuple #[.agg #[.string nm,.int .i64 nx,.slice s.sa L.length s.ce,.slice s.sb H.length s.cb],.int .i64 N]),(30,.tuple #[.agg #[.string nm,.int .i64 nx,.slice s.sa L.length s.ce,.slice s.sb H.length s.cb],.int .i64 N]),(43,.agg #[.string nm,.int .i64 nx,.slice s.sa L.length s.ce,.slice s.sb H.length s.cb]),(44,.int .i64 N),(15,.int .i64 N)]
def ws1 (gn gq n qk i:Nat)(o t:Int)(a:Bool)(ev:Array Value)(nm:ByteArray)(nx:Int)(L:List flM.Ms)(H:List flH.Hd)(N:Int)(s:Gh):List (Nat × Value):=wsA1 gn gq n qk i o t a ev++wsB1 nm nx L H N s
theorem ws_but1 {gn gq n qk i:Nat}{o t:Int}{a:Bool}{ev:Array Value}{nm:ByteArray}{nx:Int}{L:List flM.Ms}{H:List flH.Hd}{N:Int}{s s':Gh}(q:Nat)(hq:q ∉ [42,30,43,44,15]):(ws1 gn gq n qk i o t a ev nm nx L H N s').lookup q=(ws1 gn gq n qk i o t a ev nm nx L H N s).lookup q:=cht.lookup_but (A:=wsA1 gn gq n qk i o t a ev) (B:=wsB1 nm nx L H N s) (B':=wsB1 nm nx L H N s') (qz:=[42,30,43,44,15]) rfl rfl hq
def St (w:World)(es:List Ex)(bs:List Bi)(qs:List qu.E)(ts:List su.E)(a0 b0 q0 t0 ec bc qc tc g1 c1 h1 c2 gn S0:Nat)(qa ta:Option Addr)(qk tk:Nat)(d q:List qu.E)(r:qu.E)(us:List su.E)(L:List flM.Ms)(H:List flH.Hd)(s:Gh):Nat->World->Prop
 | 0,W=>nkt.Kn w es bs qs ts a0 b0 q0 t0 ec bc qc tc g1 c1 h1 c2 gn S0 qa ta qk tk (d++r :: q) us W
 | 1,W=>nkt.Kn w es bs qs ts a0 b0 q0 t0 ec bc qc tc g1 c1 h1 c2 gn S0 qa ta qk tk (d++r :: q) us W/\fo.Mine flM.c 5 48 W S0 s.sa L/\fo.Mine flH.c 7 102 W S0 s.sb H
 | _,W=>nkt.Kn w es bs qs ts a0 b0 q0 t0 ec bc qc tc g1 c1 h1 c2 gn S0 qa ta qk tk (d++⟨r.nm,r.nx,s.sa,s.ce,L,s.sb,s.cb,H⟩ :: q) us W
theorem st_out {w:World}{es:List Ex}{bs:List Bi}{qs:List qu.E}{ts:List su.E}{a0 b0 q0 t0 ec bc qc tc g1 c1 h1 c2 gn S0:Nat}{qa ta:Option Addr}{qk tk:Nat}{d q:List qu.E}{r:qu.E}{us:List su.E}{L:List flM.Ms}{H:List flH.Hd}{s:Gh}{k:Nat}{W:World}(h:St w es bs qs ts a0 b0 q0 t0 ec bc qc tc g1 c1 h1 c2 gn S0 qa ta qk tk d q r us L H s k W):W.heap[gn]?=some (.cells #[.slice (some ⟨g1,0,none⟩) es.length c1,.slice (some ⟨h1,0,none⟩) bs.length c2,.slice qa qs.length qk,.slice ta ts.length tk] 39 (0,0)) :=
 match k,h with
 | 0,h=>h.gnb
 | 1,h=>h.1.gnb
 | _+2,h=>h.gnb
theorem yes_of (fR:ByteArray->Int->List flM.Ms->List flH.Hd->List flM.Ms)(fH:ByteArray->Int->List flM.Ms->List flH.Hd->List flH.Hd)(fN:ByteArray->Int->List flM.Ms->List flH.Hd->Int)(es:List Ex)(bs:List Bi)(qs:List qu.E)(ts:List su.E)(a0 b0 q0 t0 ec bc qc tc:Nat)(o t:Int)(a bk:Bool)(w:World)(F:cb.Fit es bs qs ts)(hE:RE w a0 es)(hB:RB w b0 bs)(hQ:qu.R w q0 qs)(hT:su.R w t0 ts)(hqr:∀ r∈qs,∃ g h,r.ra=some ⟨g,0,none⟩/\r.ha=some ⟨h,0,none⟩/\Row flM.c 5 w w.heap.size r.ra r.rs/\Row flH.c 7 w w.heap.size r.ha r.hs)(htr:∀ r∈ts,cb.At w r)(hok:(∀ V,Below w.heap.size w V->Calls Tryz.prog 11 #[.agg #[.slice (some ⟨a0,0,none⟩) es.length ec,.slice (some ⟨b0,0,none⟩) bs.length bc,.slice (some ⟨q0,0,none⟩) qs.length qc,.slice (some ⟨t0,0,none⟩) ts.length tc]] V fun e w'=>e=.returned (.bool true)/\Below V.heap.size V w'))(hql:qs.length <= 20)(hN:∀ s∈qs,0 <= fN s.nm s.nx s.rs s.hs/\fN s.nm s.nx s.rs s.hs <= 1048576)(hFD:bk=false->(∀ (nm:ByteArray) (nx:Int) (rs:List flM.Ms) (hs:List flH.Hd) (gr gh rc hc:Nat) (V:World),qsp.Fit nm rs hs->Row flM.c 5 V V.heap.size (some ⟨gr,0,none⟩) rs->Row flH.c 7 V V.heap.size (some ⟨gh,0,none⟩) hs->Calls Tryz.prog 70 #[.agg #[.string nm,.int .i64 nx,.slice (some ⟨gr,0,none⟩) rs.length rc,.slice (some ⟨gh,0,none⟩) hs.length hc],.int .i64 o,.int .i64 t,.bool a] V fun e w'=>∃ sa ce sb cb,e=.returned (.tuple #[.agg #[.string nm,.int .i64 nx,.slice sa (fR nm nx rs hs).length ce,.slice sb (fH nm nx rs hs).length cb],.int .i64 (fN nm nx rs hs)])/\fo.Mine flM.c 5 48 w' V.heap.size sa (fR nm nx rs hs)/\fo.Mine flH.c 7 102 w' V.heap.size sb (fH nm nx rs hs)/\Below V.heap.size V w'))(hFR:bk=true->(∀ (nm:ByteArray) (nx:Int) (rs:List flM.Ms) (hs:List flH.Hd) (gr gh rc hc:Nat) (V:World),qsp.Fit nm rs hs->Row flM.c 5 V V.heap.size (some ⟨gr,0,none⟩) rs->Row flH.c 7 V V.heap.size (some ⟨gh,0,none⟩) hs->Calls Tryz.prog 69 #[.agg #[.string nm,.int .i64 nx,.slice (some ⟨gr,0,none⟩) rs.length rc,.slice (some ⟨gh,0,none⟩) hs.length hc],.int .i64 o,.int .i64 t,.bool a] V fun e w'=>∃ sa ce sb cb,e=.returned (.tuple #[.agg #[.string nm,.int .i64 nx,.slice sa (fR nm nx rs hs).length ce,.slice sb (fH nm nx rs hs).length cb],.int .i64 (fN nm nx rs hs)])/\fo.Mine flM.c 5 48 w' V.heap.size sa (fR nm nx rs hs)/\fo.Mine flH.c 7 102 w' V.heap.size sb (fH nm nx rs hs)/\Below V.heap.size V w')) :
  Calls Tryz.prog 24 #[.agg #[.slice (some ⟨a0,0,none⟩) es.length ec,.slice (some ⟨b0,0,none⟩) bs.length bc,.slice (some ⟨q0,0,none⟩) qs.length qc,.slice (some ⟨t0,0,none⟩) ts.length tc],.int .i64 o,.int .i64 t,.bool a,.bool bk] w fun e w'=>∃ sea sba sqa sta sec sbc sqc stc ls us,e=.returned (.tuple #[.agg #[.slice sea es.length sec,.slice sba bs.length sbc,.slice sqa (cn.done true fR fH qs).length sqc,.slice sta ts.length stc],.int .i64 (sumN fN qs)])/\Hid (cn.SA w w' es bs (cn.done true fR fH qs) ts sea sba sqa sta ls us):=by
 have HN:Hid (∀ s∈qs,0 <= fN s.nm s.nx s.rs s.hs/\fN s.nm s.nx s.rs s.hs <= 1048576):=hN
 have HFD:Hid (bk=false->(∀ (nm:ByteArray) (nx:Int) (rs:List flM.Ms) (hs:List flH.Hd) (gr gh rc hc:Nat) (V:World),qsp.Fit nm rs hs->Row flM.c 5 V V.heap.size (some ⟨gr,0,none⟩) rs->Row flH.c 7 V V.heap.size (some ⟨gh,0,none⟩) hs->Calls Tryz.prog 70 #[.agg #[.string nm,.int .i64 nx,.slice (some ⟨gr,0,none⟩) rs.length rc,.slice (some ⟨gh,0,none⟩) hs.length hc],.int .i64 o,.int .i64 t,.bool a] V fun e w'=>∃ sa ce sb cb,e=.returned (.tuple #[.agg #[.string nm,.int .i64 nx,.slice sa (fR nm nx rs hs).length ce,.slice sb (fH nm nx rs hs).length cb],.int .i64 (fN nm nx rs hs)])/\fo.Mine flM.c 5 48 w' V.heap.size sa (fR nm nx rs hs)/\fo.Mine flH.c 7 102 w' V.heap.size sb (fH nm nx rs hs)/\Below V.heap.size V w')):=hFD
 have HFR:Hid (bk=true->(∀ (nm:ByteArray) (nx:Int) (rs:List flM.Ms) (hs:List flH.Hd) (gr gh rc hc:Nat) (V:World),qsp.Fit nm rs hs->Row flM.c 5 V V.heap.size (some ⟨gr,0,none⟩) rs->Row flH.c 7 V V.heap.size (some ⟨gh,0,none⟩) hs->Calls Tryz.prog 69 #[.agg #[.string nm,.int .i64 nx,.slice (some ⟨gr,0,none⟩) rs.length rc,.slice (some ⟨gh,0,none⟩) hs.length hc],.int .i64 o,.int .i64 t,.bool a] V fun e w'=>∃ sa ce sb cb,e=.returned (.tuple #[.agg #[.string nm,.int .i64 nx,.slice sa (fR nm nx rs hs).length ce,.slice sb (fH nm nx rs hs).length cb],.int .i64 (fN nm nx rs hs)])/\fo.Mine flM.c 5 48 w' V.heap.size sa (fR nm nx rs hs)/\fo.Mine flH.c 7 102 w' V.heap.size sb (fH nm nx rs hs)/\Below V.heap.size V w')):=hFR
 clear hN hFD hFR
 obtain⟨W,hW,hWb,hA,hR,hS⟩:=fl.bx2 w #[.slice (some ⟨a0,0,none⟩) es.length ec,.slice (some ⟨b0,0,none⟩) bs.length bc,.slice (some ⟨q0,0,none⟩) qs.length qc,.slice (some ⟨t0,0,none⟩) ts.length tc] #[.slice none 0 0,.slice none 0 0,.slice none 0 0,.slice none 0 0] 39 39
 have hcopy:=scc.spec_copy es bs qs ts a0 b0 q0 t0 ec bc qc tc W F (hE.below hWb) (hB.below hWb) (hQ.below hWb) (hT.below hWb) (fun r hr=>by obtain⟨g,h,h1,h2,h3,h4⟩:=hqr r hr;exact⟨g,h,h1,h2,h3.inn hWb,h4.inn hWb⟩) (fun r hr=>(htr r hr).below hWb)
 obtain⟨x0,x1,x2,x3⟩:=fl.q4 hA
 have HAB:Hid (W.heap[w.heap.size]?=some (.cells #[.slice (some ⟨a0,0,none⟩) es.length ec,.slice (some ⟨b0,0,none⟩) bs.length bc,.slice (some ⟨q0,0,none⟩) qs.length qc,.slice (some ⟨t0,0,none⟩) ts.length tc] 39 (0,0))/\W.heap[w.heap.size+1]?=some (.cells #[.slice none 0 0,.slice none 0 0,.slice none 0 0,.slice none 0 0] 39 (0,0))):=⟨hA,hR⟩
 have HF:Hid (cb.Fit es bs qs ts):=F
 have HOK:Hid (∀ V,Below w.heap.size w V->Calls Tryz.prog 11 #[.agg #[.slice (some ⟨a0,0,none⟩) es.length ec,.slice (some ⟨b0,0,none⟩) bs.length bc,.slice (some ⟨q0,0,none⟩) qs.length qc,.slice (some ⟨t0,0,none⟩) ts.length tc]] V fun e w'=>e=.returned (.bool true)/\Below V.heap.size V w'):=hok
 have HWB:Hid (Below w.heap.size w W):=hWb
 have HS2:Hid (W.heap.size=w.heap.size+2):=hS
 clear hE hB hQ hT hqr htr F hA hR hok hS
 go_enter Tryz.func24,Tryz.ntmps24
 go_wp2_with (go_at_call 51;fail)
 clear hW x0 x1 x2 x3
 refine hcopy.mono ?_
 rintro e w1 ⟨g1,c1,h1,c2,gn0,S0,x,y,ks,us,rfl,HSM,HKE⟩
 obtain⟨qa,qk,hxf⟩:∃ b c,x=.slice b ks.length c:=own_form HKE.out.qo
 obtain⟨ta,tk,hyf⟩:∃ b c,y=.slice b us.length c:=own_form HKE.out.so
 rw [HSM.out.ql] at hxf
 rw [HSM.out.tl] at hyf
 subst hxf hyf
 have hal:=fl.bl w1 (.cells #[.slice (some ⟨g1,0,none⟩) es.length c1,.slice (some ⟨h1,0,none⟩) bs.length c2,.slice qa qs.length qk,.slice ta ts.length tk] 39)
 have HK0:Hid (nkt.Kn w es bs qs ts a0 b0 q0 t0 ec bc qc tc g1 c1 h1 c2 w1.heap.size S0 qa ta qk tk ks us (w1.alloc (.cells #[.slice (some ⟨g1,0,none⟩) es.length c1,.slice (some ⟨h1,0,none⟩) bs.length c2,.slice qa qs.length qk,.slice ta ts.length tk] 39))):=nkt.kn_of HSM.out HKE.out HWB.out HS2.out HAB.out.1 HAB.out.2 hal (bnew w1 _ _)
 obtain⟨Y,hY⟩:∃ Y,w1.alloc (.cells #[.slice (some ⟨g1,0,none⟩) es.length c1,.slice (some ⟨h1,0,none⟩) bs.length c2,.slice qa qs.length qk,.slice ta ts.length tk] 39)=Y:=⟨_,rfl⟩
 rw [hY] at HK0
 have n2:Y.cell? ⟨w1.heap.size,2,none⟩=some (.slice qa qs.length qk):=bcell HK0.out.gnb rfl
 have HAD:Hid (∀ r∈ks,∃ gr gh,r.ra=some ⟨gr,0,none⟩/\r.ha=some ⟨gh,0,none⟩):=fun r hr=>by obtain⟨g,h,h1,h2,_⟩:=HKE.out.qe r hr;exact⟨g,h,h1,h2⟩
 clear hcopy HKE hal HAB hWb
 have HNK:Hid (∀ s∈ks,0 <= fN s.nm s.nx s.rs s.hs/\fN s.nm s.nx s.rs s.hs <= 1048576):=fun s hs=>by
  obtain⟨i,hi⟩:=List.mem_iff_getElem?.1 hs
  obtain⟨x,hx,e1,e2,e3,e4⟩:=HSM.out.flip.q_at hi
  have:=HN.out x (List.mem_iff_getElem?.2 ⟨i,hx⟩)
  rwa [e1,e2,e3,e4] at this
 have HFK:Hid (cb.Fit es bs ks us):=cb.fit_same HF.out HSM.out
 have HKL:Hid (ks.length=qs.length):=HSM.out.ql
 clear HN HF
 go_wp2
 go_loopw [14,13] (fun x y wr=>∃ (k:Nat) (d q:List qu.E),k <= qs.length/\x=.int .i64 k/\y=.int .i64 (sumN fN (ks.take k))/\Hid (Dq fR fH ks d q k)/\Hid (nkt.Kn w es bs qs ts a0 b0 q0 t0 ec bc qc tc g1 c1 h1 c2 w1.heap.size S0 qa ta qk tk (d++q) us wr)) (fun x _ _=>qs.length - (intOf x).toNat)
 case atStart=>exact⟨0,[],ks,Nat.zero_le _,rfl,rfl,⟨rfl,rfl,fun i r s hr=>by simp at hr⟩,HK0⟩
 case round =>
  obtain⟨k,d,q,hk,rfl,rfl,hdq,hinv⟩:=hrel
  clear HK0 n2
  have HSB:Hid (0 <= sumN fN (ks.take k)/\sumN fN (ks.take k) <= 20971520):=by
   have h1:=sum_le fN (ks.take k) (fun s hs=>HNK.out s (List.mem_of_mem_take hs))
   have h2:(ks.take k).length <= 20:=by have:=HKL.out;simp;omega
   show _/\_
   omega
  obtain⟨sm,hsm⟩:∃ sm,sumN fN (ks.take k)=sm:=⟨_,rfl⟩
  have HSS:Hid (sumN fN (ks.take k)=sm):=hsm
  rw [hsm] at HSB ⊢
  have hsb:=HSB.out
  clear hsm
  match q,hdq,hinv with
  | [],hdq,hinv =>
   have hk2:k=qs.length:=by have h1:=congrArg List.length hdq.out.ql;simp at h1;have:=HKL.out;omega
   subst hk2
   have HI3:Hid (nkt.Kn w es bs qs ts a0 b0 q0 t0 ec bc qc tc g1 c1 h1 c2 w1.heap.size S0 qa ta qk tk d us wr):=by have:=hinv.out;rw [List.append_nil] at this;exact this
   have HQS:Hid (cb.Same (cn.done true fR fH qs) d ts us):=cn.done_same hdq.out.dl HSM.out.tl (fun i r s hr hs=>by
    obtain⟨x,hx,e1,e2,e3,e4⟩:=HSM.out.q_at hs
    have:=hdq.out.is i r x hr hx
    unfold Is at this
    show Is fR fH s r
    unfold Is
    rwa [e1,e2,e3,e4] at this) HSM.out.t
   have HSQ:Hid (sm=sumN fN qs):=by have h1:=HSS.out;rw [show qs.length=ks.length from HKL.out.symm,List.take_length] at h1;rw [<- h1];exact sum_same HSM.out
   obtain⟨n0,n1,n2,n3⟩:=fl.q4 HI3.out.gnb
   obtain⟨z0,z1,z2,z3⟩:=fl.q4 HI3.out.res
   obtain⟨f0,f1,f2,f3⟩:=fl.r4 HI3.out.res
   have HFN:=nkt.Kn.fin HI3.out HQS.out
   clear hinv hdq HSS
   go_wp2
   exact bodyPost_ret (v:=.tuple #[.agg #[.slice (some ⟨g1,0,none⟩) es.length c1,.slice (some ⟨h1,0,none⟩) bs.length c2,.slice qa qs.length qk,.slice ta ts.length tk],.int .i64 sm]) (by simp [results,Tryz.results24,go_sem,z0,z1,z2,z3]) rfl ⟨some ⟨g1,0,none⟩,some ⟨h1,0,none⟩,qa,ta,c1,c2,qk,tk,d,us,by rw [cn.done_len,HSQ.out],HFN⟩
  | r :: q,hdq,hinv =>
   have hmem:r∈ks/\k<ks.length:=⟨(hdq.out.more (r':=⟨r.nm,r.nx,none,0,_,none,0,_⟩) ⟨rfl,rfl,rfl,rfl⟩).2.2.2,(hdq.out.more (r':=⟨r.nm,r.nx,none,0,_,none,0,_⟩) ⟨rfl,rfl,rfl,rfl⟩).2.2.1⟩
   have hkl:k<qs.length:=by have:=HKL.out;omega
   have i2:(k:Int)<(qs.length:Int):=by omega
   obtain⟨gr,gh,h1r,h2r⟩:=HAD.out r hmem.1
   have hnb:=HNK.out r hmem.1
   have f:=HFK.out.qf r hmem.1
   have HTK:Hid (∀ r',Is fR fH r r'->Dq fR fH ks (d++[r']) q (k+1)/\ks.take (k+1)=ks.take k++[r]):=fun r' hr=>⟨(hdq.out.more hr).1,(hdq.out.more hr).2.1⟩
   obtain⟨nm,nx,ra,rc,rs,ha,hc,hs⟩:=r
   simp only at h1r h2r hnb f
   subst h1r h2r
   have hdl:=hdq.out.dl
   have hok2:=HOK.out wr hinv.out.bel
   obtain⟨x0,x1,x2,x3⟩:=fl.q4 hinv.out.box
   have n2:wr.cell? ⟨w1.heap.size,2,none⟩=some (.slice qa qs.length qk):=bcell hinv.out.gnb rfl
   obtain⟨gq,hgq,hgl⟩:∃ g,qa=some ⟨g,0,none⟩/\S0 <= g:=by
    rcases hinv.out.own with h0 | ⟨g,h1,h2,_⟩
    ·simp at h0
    ·exact⟨g,h1,h2⟩
   subst hgq
   have HDL:Hid (d.length=k):=hdl
   clear hdq hdl
   go_wp2_with (go_at_call 11;fail)
   clear x0 x1 x2 x3 n2
   refine hok2.mono ?_
   rintro e w2 ⟨rfl,hb2⟩
   have HI2:Hid (nkt.Kn w es bs qs ts a0 b0 q0 t0 ec bc qc tc g1 c1 h1 c2 w1.heap.size S0 (some ⟨gq,0,none⟩) ta qk tk (d++⟨nm,nx,some ⟨gr,0,none⟩,rc,rs,some ⟨gh,0,none⟩,hc,hs⟩ :: q) us w2):=hinv.out.on hb2
   obtain⟨L,hL⟩:∃ L,fR nm nx rs hs=L:=⟨_,rfl⟩
   obtain⟨H,hH⟩:∃ H,fH nm nx rs hs=H:=⟨_,rfl⟩
   obtain⟨N,hN'⟩:∃ N,fN nm nx rs hs=N:=⟨_,rfl⟩
   cases bk with
   | false =>
    have HCL:Hid (∀ V,Row flM.c 5 V V.heap.size (some ⟨gr,0,none⟩) rs->Row flH.c 7 V V.heap.size (some ⟨gh,0,none⟩) hs->Calls Tryz.prog 70 #[.agg #[.string nm,.int .i64 nx,.slice (some ⟨gr,0,none⟩) rs.length rc,.slice (some ⟨gh,0,none⟩) hs.length hc],.int .i64 o,.int .i64 t,.bool a] V fun e w'=>∃ sa ce sb cb,e=.returned (.tuple #[.agg #[.string nm,.int .i64 nx,.slice sa L.length ce,.slice sb H.length cb],.int .i64 N])/\fo.Mine flM.c 5 48 w' V.heap.size sa L/\fo.Mine flH.c 7 102 w' V.heap.size sb H/\Below V.heap.size V w'):=fun V h1 h2=>by
     have:=HFD.out rfl nm nx rs hs gr gh rc hc V f h1 h2
     rwa [hL,hH,hN'] at this
    have HIS:Hid (∀ s:Gh,Dq fR fH ks (d++[⟨nm,nx,s.sa,s.ce,L,s.sb,s.cb,H⟩]) q (k+1)/\sumN fN (ks.take (k+1))=sm+N):=fun s=>by
     obtain⟨k1,k2⟩:=HTK.out ⟨nm,nx,s.sa,s.ce,L,s.sb,s.cb,H⟩ ⟨rfl,rfl,hL.symm,hH.symm⟩
     exact⟨k1,by rw [k2,sum_snoc,HSS.out];show sm+fN nm nx rs hs=_;rw [hN']⟩
    rw [hN'] at hnb
    clear hok2 hinv hb2 hL hH hN' HTK f
    go_wp2
    refine cht.region (ws:=ws0 w1.heap.size gq qs.length qk k o t a #[.string nm,.int .i64 nx,.slice (some ⟨gr,0,none⟩) rs.length rc,.slice (some ⟨gh,0,none⟩) hs.length hc] nm nx L H N) (js:=[11,16]) (S:=St w es bs qs ts a0 b0 q0 t0 ec bc qc tc g1 c1 h1 c2 w1.heap.size S0 (some ⟨gq,0,none⟩) ta qk tk d q ⟨nm,nx,some ⟨gr,0,none⟩,rc,rs,some ⟨gh,0,none⟩,hc,hs⟩ us L H) [47,48,49,50,51,52,53,54,55,56,57,61,58,46,59,60,15] ⟨none,0,none,0⟩ (by kernel_rfl) (by kernel_rfl) (fun _=>rfl) (by kernel_rfl) (by decide) (HI2.out.on (Below.refl _ _).drew) ?each0 ?fin0
    case each0 =>
     refine⟨cht.quiet 2 rfl (by decide) (.inl rfl) (by simp) (fun s=>.pointer (some ⟨w1.heap.size,2,none⟩)) (by rintro s _ ⟨⟩;exact dk.sets_on _ (by simp) _ rfl) (fun s k' W hk' hS=>by simp [execOp,go_sem,Act.eval,dk.sets_get,ws0,wsA0,wsB0,List.lookup]),?_⟩
     refine⟨cht.quiet 2 rfl (by decide) (.inl rfl) (by simp) (fun s=>.slice (some ⟨gq,0,none⟩) qs.length qk) (by rintro s _ ⟨⟩;exact dk.sets_on _ (by simp) _ rfl) (fun s k' W hk' hS=>by have c:W.cell? ⟨w1.heap.size,2,none⟩=some (.slice (some ⟨gq,0,none⟩) qs.length qk):=bcell (st_out hS) rfl;simp [execOp,go_sem,Act.eval,dk.sets_get,ws0,wsA0,wsB0,List.lookup,c]),?_⟩
     refine⟨cht.quiet 2 rfl (by decide) (.inl rfl) (by simp) (fun s=>.int .i64 k) (by rintro s _ ⟨⟩;exact dk.sets_on _ (by simp) _ rfl) (fun s k' W hk' hS=>by simp [execOp,go_sem,Act.eval,dk.sets_get,ws0,wsA0,wsB0,List.lookup]),?_⟩
     refine⟨cht.quiet 2 rfl (by decide) (.inl rfl) (by simp) (fun s=>.pointer (some ⟨w1.heap.size,2,none⟩)) (by rintro s _ ⟨⟩;exact dk.sets_on _ (by simp) _ rfl) (fun s k' W hk' hS=>by simp [execOp,go_sem,Act.eval,dk.sets_get,ws0,wsA0,wsB0,List.lookup]),?_⟩
     refine⟨cht.quiet 2 rfl (by decide) (.inl rfl) (by simp) (fun s=>.slice (some ⟨gq,0,none⟩) qs.length qk) (by rintro s _ ⟨⟩;exact dk.sets_on _ (by simp) _ rfl) (fun s k' W hk' hS=>by have c:W.cell? ⟨w1.heap.size,2,none⟩=some (.slice (some ⟨gq,0,none⟩) qs.length qk):=bcell (st_out hS) rfl;simp [execOp,go_sem,Act.eval,dk.sets_get,ws0,wsA0,wsB0,List.lookup,c]),?_⟩
     refine⟨cht.quiet 2 rfl (by decide) (.inl rfl) (by simp) (fun s=>.int .i64 k) (by rintro s _ ⟨⟩;exact dk.sets_on _ (by simp) _ rfl) (fun s k' W hk' hS=>by simp [execOp,go_sem,Act.eval,dk.sets_get,ws0,wsA0,wsB0,List.lookup]),?_⟩
     refine⟨cht.quiet 2 rfl (by decide) (.inl rfl) (by simp) (fun s=>.pointer (some ⟨gq,k*4,none⟩)) (by rintro s _ ⟨⟩;exact dk.sets_on _ (by simp) _ rfl) (fun s k' W hk' hS=>by simp [execOp,go_sem,Act.eval,dk.sets_get,ws0,wsA0,wsB0,List.lookup,hkl]),?_⟩
     refine⟨cht.quiet 0 rfl (by decide) (.inr ⟨11,_,rfl,rfl,⟨7,.data⟩,by simp,rfl,rfl⟩) (by simp) (fun s=>.agg #[.string nm,.int .i64 nx,.slice (some ⟨gr,0,none⟩) rs.length rc,.slice (some ⟨gh,0,none⟩) hs.length hc]) (by rintro s _ ⟨⟩;exact dk.sets_on _ (by simp) _ rfl) (fun s k' W hk' hS=>by obtain rfl:k'=0:=(by omega);have hS':nkt.Kn w es bs qs ts a0 b0 q0 t0 ec bc qc tc g1 c1 h1 c2 w1.heap.size S0 (some ⟨gq,0,none⟩) ta qk tk (d++⟨nm,nx,some ⟨gr,0,none⟩,rc,rs,some ⟨gh,0,none⟩,hc,hs⟩ :: q) us W:=hS;obtain⟨c0,c1',c2',c3'⟩:=nkt.Kn.cells HDL.out hS';simp only at c0 c1' c2' c3';simp [execOp,go_sem,Act.eval,dk.sets_get,ws0,wsA0,wsB0,List.lookup,c0,c1',c2',c3']),?_⟩
     refine⟨cht.quiet 2 rfl (by decide) (.inl rfl) (by simp) (fun s=>.int .i64 o) (by rintro s _ ⟨⟩;exact dk.sets_on _ (by simp) _ rfl) (fun s k' W hk' hS=>by simp [execOp,go_sem,Act.eval,dk.sets_get,ws0,wsA0,wsB0,List.lookup]),?_⟩
     refine⟨cht.quiet 2 rfl (by decide) (.inl rfl) (by simp) (fun s=>.int .i64 t) (by rintro s _ ⟨⟩;exact dk.sets_on _ (by simp) _ rfl) (fun s k' W hk' hS=>by simp [execOp,go_sem,Act.eval,dk.sets_get,ws0,wsA0,wsB0,List.lookup]),?_⟩
     refine⟨cht.quiet 2 rfl (by decide) (.inl rfl) (by simp) (fun s=>.bool a) (by rintro s _ ⟨⟩;exact dk.sets_on _ (by simp) _ rfl) (fun s k' W hk' hS=>by simp [execOp,go_sem,Act.eval,dk.sets_get,ws0,wsA0,wsB0,List.lookup]),?_⟩
     refine⟨cht.call 0 [11,12,13,14,17] [58,46,59,60,15] (by kernel_rfl) (by kernel_rfl) rfl (by decide) rfl (.inl rfl) (by simp) 70 #[.agg #[.string nm,.int .i64 nx,.slice (some ⟨gr,0,none⟩) rs.length rc,.slice (some ⟨gh,0,none⟩) hs.length hc],.int .i64 o,.int .i64 t,.bool a] (fun s W hS=>by have hS':nkt.Kn w es bs qs ts a0 b0 q0 t0 ec bc qc tc g1 c1 h1 c2 w1.heap.size S0 (some ⟨gq,0,none⟩) ta qk tk (d++⟨nm,nx,some ⟨gr,0,none⟩,rc,rs,some ⟨gh,0,none⟩,hc,hs⟩ :: q) us W:=hS;exact⟨by simp [go_sem,Act.eval,dk.sets_get,ws0,wsA0,wsB0,List.lookup],(HCL.out W (hS'.ea _ qu.mid_in).row (hS'.eb _ qu.mid_in).row).mono fun e w3 hh=>by obtain⟨sa,ce,sb,cb,he,m1,m2,hb3⟩:=hh;exact⟨⟨sa,ce,sb,cb⟩,_,he,ws_but0,(by rintro _ ⟨⟩;exact dk.sets_on _ (by simp) _ rfl),hS'.on hb3,mine_lo m1 hS'.szS,mine_lo m2 hS'.szS⟩⟩),?_⟩
     refine⟨cht.quiet 2 rfl (by decide) (.inl rfl) (by simp) (fun s=>.tuple #[.agg #[.string nm,.int .i64 nx,.slice s.sa L.length s.ce,.slice s.sb H.length s.cb],.int .i64 N]) (by rintro s _ ⟨⟩;exact dk.sets_on _ (by simp) _ rfl) (fun s k' W hk' hS=>by simp [execOp,go_sem,Act.eval,dk.sets_get,ws0,wsA0,wsB0,List.lookup]),?_⟩
     refine⟨cht.quiet 2 rfl (by decide) (.inl rfl) (by simp) (fun s=>.agg #[.string nm,.int .i64 nx,.slice s.sa L.length s.ce,.slice s.sb H.length s.cb]) (by rintro s _ ⟨⟩;exact dk.sets_on _ (by simp) _ rfl) (fun s k' W hk' hS=>by simp [execOp,go_sem,Act.eval,dk.sets_get,ws0,wsA0,wsB0,List.lookup]),?_⟩
     refine⟨cht.quiet 2 rfl (by decide) (.inl rfl) (by simp) (fun s=>.int .i64 N) (by rintro s _ ⟨⟩;exact dk.sets_on _ (by simp) _ rfl) (fun s k' W hk' hS=>by simp [execOp,go_sem,Act.eval,dk.sets_get,ws0,wsA0,wsB0,List.lookup]),?_⟩
     refine⟨cht.quiet 2 rfl (by decide) (.inl rfl) (by simp) (fun s=>.pointer (some ⟨gq,k*4,none⟩)) (by rintro s _ ⟨⟩;exact dk.sets_on _ (by simp) _ rfl) (fun s k' W hk' hS=>by simp [execOp,go_sem,Act.eval,dk.sets_get,ws0,wsA0,wsB0,List.lookup,hkl]),?_⟩
     refine⟨cht.sto 1 rfl (by decide) rfl (.inr ⟨⟨11,.chain⟩,by simp,rfl,rfl⟩) (by simp) rfl ?st0,?_⟩
     case st0 =>
      intro s W hS
      obtain⟨hK,m1,m2⟩:nkt.Kn w es bs qs ts a0 b0 q0 t0 ec bc qc tc g1 c1 h1 c2 w1.heap.size S0 (some ⟨gq,0,none⟩) ta qk tk (d++⟨nm,nx,some ⟨gr,0,none⟩,rc,rs,some ⟨gh,0,none⟩,hc,hs⟩ :: q) us W/\fo.Mine flM.c 5 48 W S0 s.sa L/\fo.Mine flH.c 7 102 W S0 s.sb H:=hS
      have hp:=nkt.Kn.put (r':=⟨nm,nx,s.sa,s.ce,L,s.sb,s.cb,H⟩) HDL.out rfl hK m1 m2
      obtain⟨c0,c1',c2',c3'⟩:=nkt.Kn.cells HDL.out hK
      obtain⟨u0,u1,u2,u3⟩:=nkt.Kn.frees HDL.out hK
      simp only at c0 c1' c2' c3'
      exact⟨_,by simp [execOp,go_sem,Act.eval,dk.sets_get,ws0,wsA0,wsB0,List.lookup,c0,c1',c2',c3',u0,u1,u2,u3],hp⟩
     refine⟨cht.quiet 2 rfl (by decide) (.inl rfl) (by simp) (fun s=>.int .i64 N) (by rintro s _ ⟨⟩;exact dk.sets_on _ (by simp) _ rfl) (fun s k' W hk' hS=>by simp [execOp,go_sem,Act.eval,dk.sets_get,ws0,wsA0,wsB0,List.lookup]),trivial⟩
    case fin0 =>
     intro s W hS
     have HNX:Hid (nkt.Kn w es bs qs ts a0 b0 q0 t0 ec bc qc tc g1 c1 h1 c2 w1.heap.size S0 (some ⟨gq,0,none⟩) ta qk tk (d++⟨nm,nx,s.sa,s.ce,L,s.sb,s.cb,H⟩ :: q) us W):=hS
     have hd2:=HIS.out s
     have HDN:Hid (Dq fR fH ks (d++[⟨nm,nx,s.sa,s.ce,L,s.sb,s.cb,H⟩]) q (k+1)):=hd2.1
     have HSN:Hid (sumN fN (ks.take (k+1))=sm+N):=hd2.2
     simp only [dk.sets,ws0,wsA0,wsB0,List.cons_append,List.nil_append]
     clear hS hd2 HIS HCL HI2
     go_wp2
     go_roundw
     case rel=>exact⟨k+1,_,_,by omega,by go_num,by rw [HSN.out],HDN,by rw [List.append_assoc];exact HNX⟩
     case measure=>simp [intOf];omega
   | true =>
    have HCL:Hid (∀ V,Row flM.c 5 V V.heap.size (some ⟨gr,0,none⟩) rs->Row flH.c 7 V V.heap.size (some ⟨gh,0,none⟩) hs->Calls Tryz.prog 69 #[.agg #[.string nm,.int .i64 nx,.slice (some ⟨gr,0,none⟩) rs.length rc,.slice (some ⟨gh,0,none⟩) hs.length hc],.int .i64 o,.int .i64 t,.bool a] V fun e w'=>∃ sa ce sb cb,e=.returned (.tuple #[.agg #[.string nm,.int .i64 nx,.slice sa L.length ce,.slice sb H.length cb],.int .i64 N])/\fo.Mine flM.c 5 48 w' V.heap.size sa L/\fo.Mine flH.c 7 102 w' V.heap.size sb H/\Below V.heap.size V w'):=fun V h1 h2=>by
     have:=HFR.out rfl nm nx rs hs gr gh rc hc V f h1 h2
     rwa [hL,hH,hN'] at this
    have HIS:Hid (∀ s:Gh,Dq fR fH ks (d++[⟨nm,nx,s.sa,s.ce,L,s.sb,s.cb,H⟩]) q (k+1)/\sumN fN (ks.take (k+1))=sm+N):=fun s=>by
     obtain⟨k1,k2⟩:=HTK.out ⟨nm,nx,s.sa,s.ce,L,s.sb,s.cb,H⟩ ⟨rfl,rfl,hL.symm,hH.symm⟩
     exact⟨k1,by rw [k2,sum_snoc,HSS.out];show sm+fN nm nx rs hs=_;rw [hN']⟩
    rw [hN'] at hnb
    clear hok2 hinv hb2 hL hH hN' HTK f
    go_wp2
    refine cht.region (ws:=ws1 w1.heap.size gq qs.length qk k o t a #[.string nm,.int .i64 nx,.slice (some ⟨gr,0,none⟩) rs.length rc,.slice (some ⟨gh,0,none⟩) hs.length hc] nm nx L H N) (js:=[11,16]) (S:=St w es bs qs ts a0 b0 q0 t0 ec bc qc tc g1 c1 h1 c2 w1.heap.size S0 (some ⟨gq,0,none⟩) ta qk tk d q ⟨nm,nx,some ⟨gr,0,none⟩,rc,rs,some ⟨gh,0,none⟩,hc,hs⟩ us L H) [31,32,33,34,35,36,37,38,39,40,41,45,42,30,43,44,15] ⟨none,0,none,0⟩ (by kernel_rfl) (by kernel_rfl) (fun _=>rfl) (by kernel_rfl) (by decide) (HI2.out.on (Below.refl _ _).drew) ?each1 ?fin1
    case each1 =>
     refine⟨cht.quiet 2 rfl (by decide) (.inl rfl) (by simp) (fun s=>.pointer (some ⟨w1.heap.size,2,none⟩)) (by rintro s _ ⟨⟩;exact dk.sets_on _ (by simp) _ rfl) (fun s k' W hk' hS=>by simp [execOp,go_sem,Act.eval,dk.sets_get,ws1,wsA1,wsB1,List.lookup]),?_⟩
     refine⟨cht.quiet 2 rfl (by decide) (.inl rfl) (by simp) (fun s=>.slice (some ⟨gq,0,none⟩) qs.length qk) (by rintro s _ ⟨⟩;exact dk.sets_on _ (by simp) _ rfl) (fun s k' W hk' hS=>by have c:W.cell? ⟨w1.heap.size,2,none⟩=some (.slice (some ⟨gq,0,none⟩) qs.length qk):=bcell (st_out hS) rfl;simp [execOp,go_sem,Act.eval,dk.sets_get,ws1,wsA1,wsB1,List.lookup,c]),?_⟩
     refine⟨cht.quiet 2 rfl (by decide) (.inl rfl) (by simp) (fun s=>.int .i64 k) (by rintro s _ ⟨⟩;exact dk.sets_on _ (by simp) _ rfl) (fun s k' W hk' hS=>by simp [execOp,go_sem,Act.eval,dk.sets_get,ws1,wsA1,wsB1,List.lookup]),?_⟩
     refine⟨cht.quiet 2 rfl (by decide) (.inl rfl) (by simp) (fun s=>.pointer (some ⟨w1.heap.size,2,none⟩)) (by rintro s _ ⟨⟩;exact dk.sets_on _ (by simp) _ rfl) (fun s k' W hk' hS=>by simp [execOp,go_sem,Act.eval,dk.sets_get,ws1,wsA1,wsB1,List.lookup]),?_⟩
     refine⟨cht.quiet 2 rfl (by decide) (.inl rfl) (by simp) (fun s=>.slice (some ⟨gq,0,none⟩) qs.length qk) (by rintro s _ ⟨⟩;exact dk.sets_on _ (by simp) _ rfl) (fun s k' W hk' hS=>by have c:W.cell? ⟨w1.heap.size,2,none⟩=some (.slice (some ⟨gq,0,none⟩) qs.length qk):=bcell (st_out hS) rfl;simp [execOp,go_sem,Act.eval,dk.sets_get,ws1,wsA1,wsB1,List.lookup,c]),?_⟩
     refine⟨cht.quiet 2 rfl (by decide) (.inl rfl) (by simp) (fun s=>.int .i64 k) (by rintro s _ ⟨⟩;exact dk.sets_on _ (by simp) _ rfl) (fun s k' W hk' hS=>by simp [execOp,go_sem,Act.eval,dk.sets_get,ws1,wsA1,wsB1,List.lookup]),?_⟩
     refine⟨cht.quiet 2 rfl (by decide) (.inl rfl) (by simp) (fun s=>.pointer (some ⟨gq,k*4,none⟩)) (by rintro s _ ⟨⟩;exact dk.sets_on _ (by simp) _ rfl) (fun s k' W hk' hS=>by simp [execOp,go_sem,Act.eval,dk.sets_get,ws1,wsA1,wsB1,List.lookup,hkl]),?_⟩
     refine⟨cht.quiet 0 rfl (by decide) (.inr ⟨11,_,rfl,rfl,⟨7,.data⟩,by simp,rfl,rfl⟩) (by simp) (fun s=>.agg #[.string nm,.int .i64 nx,.slice (some ⟨gr,0,none⟩) rs.length rc,.slice (some ⟨gh,0,none⟩) hs.length hc]) (by rintro s _ ⟨⟩;exact dk.sets_on _ (by simp) _ rfl) (fun s k' W hk' hS=>by obtain rfl:k'=0:=(by omega);have hS':nkt.Kn w es bs qs ts a0 b0 q0 t0 ec bc qc tc g1 c1 h1 c2 w1.heap.size S0 (some ⟨gq,0,none⟩) ta qk tk (d++⟨nm,nx,some ⟨gr,0,none⟩,rc,rs,some ⟨gh,0,none⟩,hc,hs⟩ :: q) us W:=hS;obtain⟨c0,c1',c2',c3'⟩:=nkt.Kn.cells HDL.out hS';simp only at c0 c1' c2' c3';simp [execOp,go_sem,Act.eval,dk.sets_get,ws1,wsA1,wsB1,List.lookup,c0,c1',c2',c3']),?_⟩
     refine⟨cht.quiet 2 rfl (by decide) (.inl rfl) (by simp) (fun s=>.int .i64 o) (by rintro s _ ⟨⟩;exact dk.sets_on _ (by simp) _ rfl) (fun s k' W hk' hS=>by simp [execOp,go_sem,Act.eval,dk.sets_get,ws1,wsA1,wsB1,List.lookup]),?_⟩
     refine⟨cht.quiet 2 rfl (by decide) (.inl rfl) (by simp) (fun s=>.int .i64 t) (by rintro s _ ⟨⟩;exact dk.sets_on _ (by simp) _ rfl) (fun s k' W hk' hS=>by simp [execOp,go_sem,Act.eval,dk.sets_get,ws1,wsA1,wsB1,List.lookup]),?_⟩
     refine⟨cht.quiet 2 rfl (by decide) (.inl rfl) (by simp) (fun s=>.bool a) (by rintro s _ ⟨⟩;exact dk.sets_on _ (by simp) _ rfl) (fun s k' W hk' hS=>by simp [execOp,go_sem,Act.eval,dk.sets_get,ws1,wsA1,wsB1,List.lookup]),?_⟩
     refine⟨cht.call 0 [11,12,13,14,17] [42,30,43,44,15] (by kernel_rfl) (by kernel_rfl) rfl (by decide) rfl (.inl rfl) (by simp) 69 #[.agg #[.string nm,.int .i64 nx,.slice (some ⟨gr,0,none⟩) rs.length rc,.slice (some ⟨gh,0,none⟩) hs.length hc],.int .i64 o,.int .i64 t,.bool a] (fun s W hS=>by have hS':nkt.Kn w es bs qs ts a0 b0 q0 t0 ec bc qc tc g1 c1 h1 c2 w1.heap.size S0 (some ⟨gq,0,none⟩) ta qk tk (d++⟨nm,nx,some ⟨gr,0,none⟩,rc,rs,some ⟨gh,0,none⟩,hc,hs⟩ :: q) us W:=hS;exact⟨by simp [go_sem,Act.eval,dk.sets_get,ws1,wsA1,wsB1,List.lookup],(HCL.out W (hS'.ea _ qu.mid_in).row (hS'.eb _ qu.mid_in).row).mono fun e w3 hh=>by obtain⟨sa,ce,sb,cb,he,m1,m2,hb3⟩:=hh;exact⟨⟨sa,ce,sb,cb⟩,_,he,ws_but1,(by rintro _ ⟨⟩;exact dk.sets_on _ (by simp) _ rfl),hS'.on hb3,mine_lo m1 hS'.szS,mine_lo m2 hS'.szS⟩⟩),?_⟩
     refine⟨cht.quiet 2 rfl (by decide) (.inl rfl) (by simp) (fun s=>.tuple #[.agg #[.string nm,.int .i64 nx,.slice s.sa L.length s.ce,.slice s.sb H.length s.cb],.int .i64 N]) (by rintro s _ ⟨⟩;exact dk.sets_on _ (by simp) _ rfl) (fun s k' W hk' hS=>by simp [execOp,go_sem,Act.eval,dk.sets_get,ws1,wsA1,wsB1,List.lookup]),?_⟩
     refine⟨cht.quiet 2 rfl (by decide) (.inl rfl) (by simp) (fun s=>.agg #[.string nm,.int .i64 nx,.slice s.sa L.length s.ce,.slice s.sb H.length s.cb]) (by rintro s _ ⟨⟩;exact dk.sets_on _ (by simp) _ rfl) (fun s k' W hk' hS=>by simp [execOp,go_sem,Act.eval,dk.sets_get,ws1,wsA1,wsB1,List.lookup]),?_⟩
     refine⟨cht.quiet 2 rfl (by decide) (.inl rfl) (by simp) (fun s=>.int .i64 N) (by rintro s _ ⟨⟩;exact dk.sets_on _ (by simp) _ rfl) (fun s k' W hk' hS=>by simp [execOp,go_sem,Act.eval,dk.sets_get,ws1,wsA1,wsB1,List.lookup]),?_⟩
     refine⟨cht.quiet 2 rfl (by decide) (.inl rfl) (by simp) (fun s=>.pointer (some ⟨gq,k*4,none⟩)) (by rintro s _ ⟨⟩;exact dk.sets_on _ (by simp) _ rfl) (fun s k' W hk' hS=>by simp [execOp,go_sem,Act.eval,dk.sets_get,ws1,wsA1,wsB1,List.lookup,hkl]),?_⟩
     refine⟨cht.sto 1 rfl (by decide) rfl (.inr ⟨⟨11,.chain⟩,by simp,rfl,rfl⟩) (by simp) rfl ?st1,?_⟩
     case st1 =>
      intro s W hS
      obtain⟨hK,m1,m2⟩:nkt.Kn w es bs qs ts a0 b0 q0 t0 ec bc qc tc g1 c1 h1 c2 w1.heap.size S0 (some ⟨gq,0,none⟩) ta qk tk (d++⟨nm,nx,some ⟨gr,0,none⟩,rc,rs,some ⟨gh,0,none⟩,hc,hs⟩ :: q) us W/\fo.Mine flM.c 5 48 W S0 s.sa L/\fo.Mine flH.c 7 102 W S0 s.sb H:=hS
      have hp:=nkt.Kn.put (r':=⟨nm,nx,s.sa,s.ce,L,s.sb,s.cb,H⟩) HDL.out rfl hK m1 m2
      obtain⟨c0,c1',c2',c3'⟩:=nkt.Kn.cells HDL.out hK
      obtain⟨u0,u1,u2,u3⟩:=nkt.Kn.frees HDL.out hK
      simp only at c0 c1' c2' c3'
      exact⟨_,by simp [execOp,go_sem,Act.eval,dk.sets_get,ws1,wsA1,wsB1,List.lookup,c0,c1',c2',c3',u0,u1,u2,u3],hp⟩
     refine⟨cht.quiet 2 rfl (by decide) (.inl rfl) (by simp) (fun s=>.int .i64 N) (by rintro s _ ⟨⟩;exact dk.sets_on _ (by simp) _ rfl) (fun s k' W hk' hS=>by simp [execOp,go_sem,Act.eval,dk.sets_get,ws1,wsA1,wsB1,List.lookup]),trivial⟩
    case fin1 =>
     intro s W hS
     have HNX:Hid (nkt.Kn w es bs qs ts a0 b0 q0 t0 ec bc qc tc g1 c1 h1 c2 w1.heap.size S0 (some ⟨gq,0,none⟩) ta qk tk (d++⟨nm,nx,s.sa,s.ce,L,s.sb,s.cb,H⟩ :: q) us W):=hS
     have hd2:=HIS.out s
     have HDN:Hid (Dq fR fH ks (d++[⟨nm,nx,s.sa,s.ce,L,s.sb,s.cb,H⟩]) q (k+1)):=hd2.1
     have HSN:Hid (sumN fN (ks.take (k+1))=sm+N):=hd2.2
     simp only [dk.sets,ws1,wsA1,wsB1,List.cons_append,List.nil_append]
     clear hS hd2 HIS HCL HI2
     go_wp2
     go_roundw
     case rel=>exact⟨k+1,_,_,by omega,by go_num,by rw [HSN.out],HDN,by rw [List.append_assoc];exact HNX⟩
     case measure=>simp [intOf];omega
end Go.Proofs.YteoojodkkjepeaaGreat.nsc
