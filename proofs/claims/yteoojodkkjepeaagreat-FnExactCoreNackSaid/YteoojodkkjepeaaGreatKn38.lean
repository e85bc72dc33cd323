/- QRetImpl, NackBack, EachAck. -/
import Derived.Test.YteoojodkkjepeaaGreatKn37
import Derived.Test.YteoojodkkjepeaaGreatKn35
import Derived.Test.YteoojodkkjepeaaGreatKn34
set_option maxRecDepth 100000
set_option maxHeartbeats 8000000
set_option linter.unusedVariables false
namespace Go.Proofs.YteoojodkkjepeaaGreat.qri
open ChangeShapes WideShapes ChangeAt RowKit fl fo qit qst qpu qpo qop qcl qsp qdp qpi qhn qdi qbk
theorem impl_ret (nm:ByteArray)(nx:Int)(es:List flM.Ms)(ms:List flH.Hd)(a0 b0 ec bc:Nat)(o t:Int)(a:Bool)(w:World)(F:Fit nm es ms)(hE:Row flM.c 5 w w.heap.size (some ⟨a0,0,none⟩) es)(hB:Row flH.c 7 w w.heap.size (some ⟨b0,0,none⟩) ms) :
  Calls Tryz.prog 72 #[.agg #[.string nm,.int .i64 nx,.slice (some ⟨a0,0,none⟩) es.length ec,.slice (some ⟨b0,0,none⟩) ms.length bc],.int .i64 o,.int .i64 t,.bool a] w fun e w'=>PD w nm nx (ansR nm nx es ms o t a) (ansH nm nx es ms o t a) (ansC nm nx es ms o t a) e w':=by
 obtain⟨W,hW,hWb,hA,hR,hzz⟩:=fl.bx2 w #[.string nm,.int .i64 nx,.slice (some ⟨a0,0,none⟩) es.length ec,.slice (some ⟨b0,0,none⟩) ms.length bc] #[.string ⟨#[]⟩,.int .i64 0,.slice none 0 0,.slice none 0 0] 68 68
 have hWs:W.heap.size=w.heap.size+2:=by omega
 clear hzz
 have HA:Hid (W.heap[w.heap.size]?=some (.cells #[.string nm,.int .i64 nx,.slice (some ⟨a0,0,none⟩) es.length ec,.slice (some ⟨b0,0,none⟩) ms.length bc] 68 (0,0))):=hA
 have HR:Hid (W.heap[w.heap.size+1]?=some (.cells #[.string ⟨#[]⟩,.int .i64 0,.slice none 0 0,.slice none 0 0] 68 (0,0))):=hR
 have HE:Hid (Row flM.c 5 W W.heap.size (some ⟨a0,0,none⟩) es):=hE.inn hWb
 have HB:Hid (Row flH.c 7 W W.heap.size (some ⟨b0,0,none⟩) ms):=hB.inn hWb
 have HF:Hid (Fit nm es ms):=F
 have BX:Hid (∀ V,Below W.heap.size W V->(V.cell? ⟨w.heap.size,0,none⟩=some (.string nm)/\V.cell? ⟨w.heap.size,1,none⟩=some (.int .i64 nx)/\V.cell? ⟨w.heap.size,2,none⟩=some (.slice (some ⟨a0,0,none⟩) es.length ec)/\V.cell? ⟨w.heap.size,3,none⟩=some (.slice (some ⟨b0,0,none⟩) ms.length bc))/\(V.cell? ⟨w.heap.size+1,0,none⟩=some (.string ⟨#[]⟩)/\V.cell? ⟨w.heap.size+1,1,none⟩=some (.int .i64 0)/\V.cell? ⟨w.heap.size+1,2,none⟩=some (.slice none 0 0)/\V.cell? ⟨w.heap.size+1,3,none⟩=some (.slice none 0 0))/\V.frozen? ⟨w.heap.size+1,0,none⟩=false/\V.frozen? ⟨w.heap.size+1,1,none⟩=false/\V.frozen? ⟨w.heap.size+1,2,none⟩=false/\V.frozen? ⟨w.heap.size+1,3,none⟩=false):=fun V hV=>by
  have a:=bstay HA.out hV (by omega)
  have r:=bstay HR.out hV (by omega)
  exact⟨⟨bcell a rfl,bcell a rfl,bcell a rfl,bcell a rfl⟩,⟨bcell r rfl,bcell r rfl,bcell r rfl,bcell r rfl⟩,bfree r 0,bfree r 1,bfree r 2,bfree r 3⟩
 have hok:=impl_okb nm nx es ms _ _ ec bc W F HE.out HB.out
 have CP:Hid (∀ V,Below W.heap.size W V->Calls Tryz.prog 118 #[.agg #[.string nm,.int .i64 nx,.slice (some ⟨a0,0,none⟩) es.length ec,.slice (some ⟨b0,0,none⟩) ms.length bc]] V fun r w'=>∃ g h,r=.returned (.agg #[.string nm,.int .i64 nx,.slice (some ⟨g,0,none⟩) es.length es.length,.slice (some ⟨h,0,none⟩) ms.length ms.length])/\V.heap.size <= g/\V.heap.size <= h/\g≠h/\Own flM.c 5 48 w' g es es.length/\Own flH.c 7 102 w' h ms ms.length/\Below V.heap.size V w'):=fun V hV=>cqu.copy_queue nm nx es ms a0 b0 ec bc V F.ns F.el F.ml F.eb F.mb (HE.out.inn hV) (HB.out.inn hV)
 have HAH:Hid (ansH nm nx es ms o t a=if okB nm nx es ms=true then left o t a ms else ms):=rfl
 have HAR:Hid (ansR nm nx es ms o t a=if okB nm nx es ms=true then backs es (gone o t a ms) else es):=rfl
 have HAC:Hid (ansC nm nx es ms o t a=if okB nm nx es ms=true then ((gone o t a ms).length:Int) else 0):=rfl
 obtain⟨AH,hAH⟩:∃ AH,ansH nm nx es ms o t a=AH:=⟨_,rfl⟩
 obtain⟨AC,hAC⟩:∃ AC,ansC nm nx es ms o t a=AC:=⟨_,rfl⟩
 obtain⟨AR,hAR⟩:∃ AR,ansR nm nx es ms o t a=AR:=⟨_,rfl⟩
 rw [hAR] at HAR
 rw [hAH] at HAH
 rw [hAC] at HAC
 simp only [hAH,hAC,hAR]
 obtain⟨⟨x0,x1,x2,x3⟩,_,_⟩:=BX.out W (Below.refl _ _)
 clear hE hB hA hR F hAH hAC hAR
 go_enter Tryz.func72,Tryz.ntmps72
 go_wp2_with (go_at_call 46;fail)
 clear hW
 refine hok.mono ?_
 rintro e w1 ⟨rfl,hb1⟩
 obtain⟨ob,hob⟩:∃ ob,okB nm nx es ms=ob:=⟨_,rfl⟩
 rw [hob]
 obtain⟨⟨x0,x1,x2,x3⟩,⟨z0,z1,z2,z3⟩,f0,f1,f2,f3⟩:=BX.out w1 hb1
 rw [hob] at HAH HAC HAR
 cases ob with
 | false =>
  obtain rfl:ms=AH:=HAH.out.symm
  obtain rfl:es=AR:=HAR.out.symm
  obtain rfl:(0:Int)=AC:=HAC.out.symm
  have hcq:=CP.out w1 hb1
  clear hok hob HAH HAC HAR
  go_wp2_with (go_at_call 118;fail)
  clear x0 x1 x2 x3 z0 z1 z2 z3 f0 f1 f2 f3
  refine hcq.mono ?_
  rintro e w2 ⟨g,h,rfl,hg,hh,hgh,oe,om,hb2⟩
  have hB2:=fl.bt hb1 hb2
  obtain⟨_,⟨z0,z1,z2,z3⟩,f0,f1,f2,f3⟩:=BX.out w2 hB2
  have hs1:=hb1.size
  have hgl:=oe.lt
  have hhl:=om.lt
  have HFN:Hid (OwnO flM.c 5 48 w2 g 0 es es.length/\OwnO flH.c 7 102 w2 h 0 ms ms.length/\Below w.heap.size w w2):=⟨of_own oe,of_own om,hWb.trans (hB2.mono hWb.size)⟩
  clear hcq oe om hb2 hB2
  go_wp2
  refine bodyPost_ret (v:=.tuple #[.agg #[.string nm,.int .i64 nx,.slice (some ⟨g,0,none⟩) es.length es.length,.slice (some ⟨h,0,none⟩) ms.length ms.length],.int .i64 0]) (by simp [results,Tryz.results72,go_sem,z0,z1,z2,z3]) rfl ⟨g,_,h,_,_,rfl,by omega,by omega,hgh,by simp only [World.size_setCell];omega,?_,?_,?_⟩
  ·exact(((HFN.out.1.kept (Below.heap_setCell _ _ _ _ (by show g≠w.heap.size+1;omega))).kept (Below.heap_setCell _ _ _ _ (by show g≠w.heap.size+1;omega))).kept (Below.heap_setCell _ _ _ _ (by show g≠w.heap.size+1;omega))).kept (Below.heap_setCell _ _ _ _ (by show g≠w.heap.size+1;omega))
  ·exact .inr ⟨rfl,(((HFN.out.2.1.kept (Below.heap_setCell _ _ _ _ (by show h≠w.heap.size+1;omega))).kept (Below.heap_setCell _ _ _ _ (by show h≠w.heap.size+1;omega))).kept (Below.heap_setCell _ _ _ _ (by show h≠w.heap.size+1;omega))).kept (Below.heap_setCell _ _ _ _ (by show h≠w.heap.size+1;omega))⟩
  ·exact(((HFN.out.2.2.setCell (by show w.heap.size <= w.heap.size+1;omega) _).setCell (by show w.heap.size <= w.heap.size+1;omega) _).setCell (by show w.heap.size <= w.heap.size+1;omega) _).setCell (by show w.heap.size <= w.heap.size+1;omega) _
 | true =>
  have HOK:Hid (qk.OkQ nm nx es ms):=okB_true.1 hob
  have hln:=HOK.out.ln
  have hop:=open_of nm nx es ms a0 b0 ec bc w1 HF.out.ns HF.out.el HF.out.ml HF.out.eb HF.out.mb (HE.out.inn hb1) (HB.out.inn hb1)
  clear hok
  go_wp2_with (go_at_call 139;fail)
  refine hop.mono ?_
  rintro e w2 ⟨hb,g,h,rfl,hsg,om,hh,hhb⟩
  have hb2:=hsg.bel
  have hB2:=fl.bt hb1 hb2
  have HSG:Hid (SG w1 hb ⟨nm,nx,some ⟨h,0,none⟩,ms.length,ms.length⟩ g es.length es w2):=hsg
  have hhB:w1.heap.size <= hb:=hsg.hbB
  have hgB:w1.heap.size <= g:=hsg.gB
  have hbl2:hb<w2.heap.size:=(Array.getElem?_eq_some_iff.1 hsg.box).1
  have hgl2:g<w2.heap.size:=by obtain⟨cur,h1,_⟩:=hsg.row;exact(Array.getElem?_eq_some_iff.1 h1).1
  have htk:=impl_take hb _ nm nx ms h ms.length o t a w2 HF.out.ml hsg.box om.row
  clear hop x0 x1 x2 x3 z0 z1 z2 z3 f0 f1 f2 f3 hsg om
  go_wp2_with (go_at_call 145;fail)
  refine htk.mono ?_
  rintro e w3 ⟨v,u,wr,rfl,hk,hw3⟩
  have HAH2:Hid (AH=left o t a ms):=HAH.out
  have HAC2:Hid (AC=((gone o t a ms).length:Int)):=HAC.out
  obtain⟨GL,hGL⟩:∃ GL,gone o t a ms=GL:=⟨_,rfl⟩
  have HUP:Hid (Up (backs es GL)):=by show Up (backs es GL);rw [<- hGL];exact ok_up HOK.out o t a
  have HAR2:Hid (AR=backs es (gone o t a ms)):=HAR.out
  rw [hGL] at HAR2
  have hgle:GL.length <= ms.length:=by rw [<- hGL];exact gone_le o t a ms
  obtain⟨LL,hLL⟩:∃ LL,left o t a ms=LL:=⟨_,rfl⟩
  rw [hLL] at hk HAH2
  rw [hGL] at hk HAC2
  obtain rfl:AH=LL:=HAH2.out
  obtain rfl:AC=(GL.length:Int):=HAC2.out
  obtain⟨vb,vc,rfl⟩:=hk.av.form
  obtain⟨ub,uc,rfl⟩:=hk.au.form
  have hsg3:SG w1 hb ⟨nm,nx,ub,AH.length,uc⟩ g es.length es w3:=by rw [hw3];exact sg_held HSG.out hk.bel
  have hau:All w3 w2.heap.size (.slice ub AH.length uc) AH:=by rw [hw3];exact qds.all_set hk.au hbl2
  have HR0:Hid (RI w1 hb ⟨nm,nx,ub,AH.length,uc⟩ g es w2.heap.size vb ub vc uc GL AH 0 es w3):=⟨SN.of hsg3,sorted_heap HOK.out.ru,by simp,fun _=>⟨hsg3,rfl⟩,by rw [hw3];exact qds.all_set hk.av hbl2,hau,hbl2,by rw [hw3];simpa using hk.lo⟩
  clear htk hk hw3 hGL hLL HAH HAC HAR HAH2 HAC2 hau hsg3
  have hpb:=put_back w1 hb ⟨nm,nx,ub,AH.length,uc⟩ g es w2.heap.size vb ub vc uc GL AH w3 HR0 (by omega)
  go_wp2_with (go_at_call 147;fail)
  refine hpb.mono ?_
  rintro e wr ⟨rfl,M,hR⟩
  have hk:GL.length <= GL.length:=Nat.le_refl _
  have HML:Hid (M.length=es.length+GL.length):=hR.out.len hk
  clear hpb HR0
  obtain⟨g5,cap5,hsg5⟩:=hR.out.open hk
  have hcl:=closed_run w1 ⟨nm,nx,ub,AH.length,uc⟩ hb g5 cap5 M wr hsg5 (by have:=HML.out;omega) hR.out.hp
  have hb13:=hsg5.bel
  have hrow:∃ cur,wr.heap[g5]?=some (.cells cur 48 (0,0)):=by obtain⟨cur,h1,_⟩:=hsg5.row;exact⟨cur,h1⟩
  have HROW:Hid (∃ cur,wr.heap[g5]?=some (.cells cur 48 (0,0))):=hrow
  have hg5B:=hsg5.gB
  have HPM:Hid (M.Perm (backs es GL)):=by
   have h1:=hR.out.pm
   rw [List.take_length] at h1
   exact h1.trans (backs_perm es GL).symm
  have HAU:Hid (All wr w2.heap.size (.slice ub AH.length uc) AH):=hR.out.au
  have hS:=hR.out.hS
  clear hR hsg5 hrow
  go_wp2_with (go_at_call 143;fail)
  refine hcl.mono ?_
  rintro e w6 ⟨R,gr,cr,rfl,hRp,hRs,hRo,hkq⟩
  have hRe:R=backs es GL:=sort_uniq (hRp.trans HPM.out) hRs (of_up HUP.out)
  obtain rfl:AR=R:=by rw [hRe];exact HAR2.out
  have hb16:Below w1.heap.size w1 w6:=⟨hkq.os.trans hb13.os,hkq.tape.trans hb13.tape,hkq.output.trans hb13.output,Nat.le_trans hb13.size hkq.size,fun q hq=>(hkq.block q (Nat.lt_of_lt_of_le hq hb13.size) (by omega) (by omega)).trans (hb13.block q hq)⟩
  have hgr:wr.heap.size <= gr/\gr<w6.heap.size:=hRo.lt gr rfl
  have hs1:=hb1.size
  have hs12:=hb2.size
  obtain⟨h6,hh1,hh2,hho,hh3⟩:=all_ho2 (b:=w.heap.size) HAU.out hgr.1 (by omega) hkq HROW.out hbl2
  have hs36:=hkq.size
  have hB6:Below W.heap.size W w6:=hb1.trans (hb16.mono hs1)
  have HFN:Hid (OwnO flM.c 5 48 w6 gr 0 AR AR.length/\HO w6 h6 ub AH/\Below w.heap.size w w6):=⟨owns_ownO flM.c_len hRo,hho,hWb.trans (hB6.mono hWb.size)⟩
  obtain⟨_,⟨z0,z1,z2,z3⟩,f0,f1,f2,f3⟩:=BX.out w6 hB6
  clear hcl hRp hRs hRo hkq hho hb16 hb13 hB6 HAU HSG HOK hob hRe HPM HUP HAR2 HML
  go_wp2
  refine bodyPost_ret (v:=.tuple #[.agg #[.string nm,.int .i64 nx,.slice (some ⟨gr,0,none⟩) AR.length cr,.slice ub AH.length uc],.int .i64 GL.length]) (by simp [results,Tryz.results72,go_sem,z0,z1,z2,z3]) rfl ⟨gr,_,h6,_,_,rfl,by omega,by omega,hh2,by simp only [World.size_setCell];omega,?_,?_,?_⟩
  ·exact((((HFN.out.1).kept (Below.heap_setCell _ _ _ _ (by show gr≠w.heap.size+1;omega))).kept (Below.heap_setCell _ _ _ _ (by show gr≠w.heap.size+1;omega))).kept (Below.heap_setCell _ _ _ _ (by show gr≠w.heap.size+1;omega))).kept (Below.heap_setCell _ _ _ _ (by show gr≠w.heap.size+1;omega))
  ·exact((((HFN.out.2.1).kept (fun _=>Below.heap_setCell _ _ _ _ (by show h6≠w.heap.size+1;omega))).kept (fun _=>Below.heap_setCell _ _ _ _ (by show h6≠w.heap.size+1;omega))).kept (fun _=>Below.heap_setCell _ _ _ _ (by show h6≠w.heap.size+1;omega))).kept (fun _=>Below.heap_setCell _ _ _ _ (by show h6≠w.heap.size+1;omega))
  ·exact(((HFN.out.2.2.setCell (by show w.heap.size <= w.heap.size+1;omega) _).setCell (by show w.heap.size <= w.heap.size+1;omega) _).setCell (by show w.heap.size <= w.heap.size+1;omega) _).setCell (by show w.heap.size <= w.heap.size+1;omega) _
end Go.Proofs.YteoojodkkjepeaaGreat.qri
namespace Go.Proofs.YteoojodkkjepeaaGreat.nkr
open ChangeShapes WideShapes ChangeAt RowKit rr ra rt fl co eb
theorem nack_one (nm:ByteArray)(nx:Int)(rs:List flM.Ms)(hs:List flH.Hd)(gr gh rc hc p1 p2 p3:Nat)(o t:Int)(a:Bool)(V:World)(F:qsp.Fit nm rs hs)(hE:Row flM.c 5 V V.heap.size (some ⟨gr,0,none⟩) rs)(hB:Row flH.c 7 V V.heap.size (some ⟨gh,0,none⟩) hs)(l1:p1<V.heap.size)(l2:p2<V.heap.size)(l3:p3<V.heap.size)(h1:V.cell? ⟨p1,0,none⟩=some (.int .i64 o))(h2:V.cell? ⟨p2,0,none⟩=some (.int .i64 t))(h3:V.cell? ⟨p3,0,none⟩=some (.bool a)) :
  Calls Tryz.prog 71 #[.agg #[.string nm,.int .i64 nx,.slice (some ⟨gr,0,none⟩) rs.length rc,.slice (some ⟨gh,0,none⟩) hs.length hc],.pointer (some ⟨p1,0,none⟩),.pointer (some ⟨p2,0,none⟩),.pointer (some ⟨p3,0,none⟩)] V fun e w'=>qdi.PD V nm nx (qbk.ansR nm nx rs hs o t a) (qdp.ansH nm nx rs hs o t a) (qdp.ansC nm nx rs hs o t a) e w':=by
 obtain⟨W,hW,hWb,hA,hR,hzz⟩:=fl.bx2 V #[.string nm,.int .i64 nx,.slice (some ⟨gr,0,none⟩) rs.length rc,.slice (some ⟨gh,0,none⟩) hs.length hc] #[.string ⟨#[]⟩,.int .i64 0,.slice none 0 0,.slice none 0 0] 68 68
 have hWs:V.heap.size+2 <= W.heap.size:=by omega
 clear hzz
 have HR:Hid (W.heap[V.heap.size+1]?=some (.cells #[.string ⟨#[]⟩,.int .i64 0,.slice none 0 0,.slice none 0 0] 68 (0,0))):=hR
 have c1:=(hWb.cell (p:=⟨p1,0,none⟩) l1).trans h1
 have c2:=(hWb.cell (p:=⟨p2,0,none⟩) l2).trans h2
 have c3:=(hWb.cell (p:=⟨p3,0,none⟩) l3).trans h3
 obtain⟨x0,x1,x2,x3⟩:=fl.q4 hA
 have hc:=qri.impl_ret nm nx rs hs gr gh rc hc o t a W F (hE.inn hWb) (hB.inn hWb)
 clear hE hB h1 h2 h3 hA hR
 go_enter Tryz.func71,Tryz.ntmps71
 go_wp2_with (go_at_call 72;fail)
 clear hW x0 x1 x2 x3 c1 c2 c3
 refine hc.mono ?_
 rintro e w1 ⟨g,ce,h,ao,cb,rfl,h1,h2,h3,h4,h5,h6,h7⟩
 have b1:=bstay HR.out h7 (by omega)
 have HP:Hid (V.heap.size+2 <= g/\V.heap.size+2 <= h/\g≠h/\h<w1.heap.size/\fo.OwnO flM.c 5 48 w1 g 0 (qbk.ansR nm nx rs hs o t a) (qbk.ansR nm nx rs hs o t a).length/\qhn.HO w1 h ao (qdp.ansH nm nx rs hs o t a)/\Below V.heap.size V w1):=⟨by omega,by omega,h3,h4,h5,h6,hWb.trans (h7.mono hWb.size)⟩
 obtain⟨H,hH⟩:∃ H,qdp.ansH nm nx rs hs o t a=H:=⟨_,rfl⟩
 obtain⟨L,hL⟩:∃ L,qbk.ansR nm nx rs hs o t a=L:=⟨_,rfl⟩
 obtain⟨N,hN⟩:∃ N,qdp.ansC nm nx rs hs o t a=N:=⟨_,rfl⟩
 rw [hH,hL] at HP
 rw [hH,hL]
 rw [hN]
 obtain⟨z0,z1,z2,z3⟩:=fl.q4 b1
 obtain⟨f0,f1,f2,f3⟩:=fl.r4 b1
 clear hc b1 h1 h2 h3 h4 h5 h6 h7 hWb HR
 go_wp2
 subst hH hN hL
 have hp:=HP.out
 have hx:V.heap.size <= V.heap.size+1:=by omega
 have kg:g≠V.heap.size+1:=by omega
 have kh:h≠V.heap.size+1:=by omega
 exact bodyPost_ret (v:=.tuple #[.agg #[.string nm,.int .i64 nx,.slice (some ⟨g,0,none⟩) (qbk.ansR nm nx rs hs o t a).length ce,.slice ao (qdp.ansH nm nx rs hs o t a).length cb],.int .i64 (qdp.ansC nm nx rs hs o t a)]) (by simp [results,Tryz.results71,go_sem,z0,z1,z2,z3]) rfl ⟨g,ce,h,ao,cb,rfl,by omega,by omega,hp.2.2.1,by simpa using hp.2.2.2.1,(((hp.2.2.2.2.1.kept (Below.heap_setCell _ _ _ _ kg)).kept (Below.heap_setCell _ _ _ _ kg)).kept (Below.heap_setCell _ _ _ _ kg)).kept (Below.heap_setCell _ _ _ _ kg),(((hp.2.2.2.2.2.1.kept (fun _=>Below.heap_setCell _ _ _ _ kh)).kept (fun _=>Below.heap_setCell _ _ _ _ kh)).kept (fun _=>Below.heap_setCell _ _ _ _ kh)).kept (fun _=>Below.heap_setCell _ _ _ _ kh),(((hp.2.2.2.2.2.2.setCell hx _).setCell hx _).setCell hx _).setCell hx _⟩
theorem impl_back (es:List Ex)(bs:List Bi)(qs:List qu.E)(ts:List su.E)(a0 b0 q0 t0 ec bc qc tc:Nat)(o t:Int)(a:Bool)(ok:Bool)(w:World)(F:cb.Fit es bs qs ts)(hE:RE w a0 es)(hB:RB w b0 bs)(hQ:qu.R w q0 qs)(hT:su.R w t0 ts)(hqr:∀ r∈qs,∃ g h,r.ra=some ⟨g,0,none⟩/\r.ha=some ⟨h,0,none⟩/\Row flM.c 5 w w.heap.size r.ra r.rs/\Row flH.c 7 w w.heap.size r.ha r.hs)(htr:∀ r∈ts,cb.At w r)(hok:(∀ V,Below w.heap.size w V->Calls Tryz.prog 13 #[.agg #[.slice (some ⟨a0,0,none⟩) es.length ec,.slice (some ⟨b0,0,none⟩) bs.length bc,.slice (some ⟨q0,0,none⟩) qs.length qc,.slice (some ⟨t0,0,none⟩) ts.length tc]] V fun e w'=>e=.returned (.bool ok)/\Below V.heap.size V w'))(hql:ok=true->qs.length <= 20)(hN:∀ s∈qs,0 <= qdp.ansC s.nm s.nx s.rs s.hs o t a/\qdp.ansC s.nm s.nx s.rs s.hs o t a <= 1048576) :
  Calls Tryz.prog 25 #[.agg #[.slice (some ⟨a0,0,none⟩) es.length ec,.slice (some ⟨b0,0,none⟩) bs.length bc,.slice (some ⟨q0,0,none⟩) qs.length qc,.slice (some ⟨t0,0,none⟩) ts.length tc],.int .i64 o,.int .i64 t,.bool a,.bool true] w fun e w'=>∃ ge gb gq gt ls us n,e=.returned (.tuple #[.agg #[.slice (some ⟨ge,0,none⟩) es.length es.length,.slice (some ⟨gb,0,none⟩) bs.length bs.length,.slice (some ⟨gq,0,none⟩) qs.length qs.length,.slice (some ⟨gt,0,none⟩) ts.length ts.length],.int .i64 n])/\Hid (ean.An w es bs qs ts ok (fun nm nx rs hs=>qbk.ansR nm nx rs hs o t a) (fun nm nx rs hs=>qdp.ansH nm nx rs hs o t a) (fun nm nx rs hs=>qdp.ansC nm nx rs hs o t a) ge gb gq gt ls us n w'):=by
 have hWb:Below w.heap.size w (((((w.alloc (.cells #[.slice (some ⟨a0,0,none⟩) es.length ec,.slice (some ⟨b0,0,none⟩) bs.length bc,.slice (some ⟨q0,0,none⟩) qs.length qc,.slice (some ⟨t0,0,none⟩) ts.length tc] 39)).alloc (.cells #[.int .i64 o] 3)).alloc (.cells #[.int .i64 t] 3)).alloc (.cells #[.bool a] 4)).alloc (.cells #[.slice none 0 0,.slice none 0 0,.slice none 0 0,.slice none 0 0] 39)):=(((((Below.refl _ _).alloc (Nat.le_refl _) _).alloc (by simp only [World.size_alloc];omega) _).alloc (by simp only [World.size_alloc];omega) _).alloc (by simp only [World.size_alloc];omega) _).alloc (by simp only [World.size_alloc];omega) _
 have hA:=bold (bold (bold (bold (bnew w #[.slice (some ⟨a0,0,none⟩) es.length ec,.slice (some ⟨b0,0,none⟩) bs.length bc,.slice (some ⟨q0,0,none⟩) qs.length qc,.slice (some ⟨t0,0,none⟩) ts.length tc] 39) (.cells #[.int .i64 o] 3)) (.cells #[.int .i64 t] 3)) (.cells #[.bool a] 4)) (.cells #[.slice none 0 0,.slice none 0 0,.slice none 0 0,.slice none 0 0] 39)
 have hO:=bold (bold (bold (bnew (w.alloc (.cells #[.slice (some ⟨a0,0,none⟩) es.length ec,.slice (some ⟨b0,0,none⟩) bs.length bc,.slice (some ⟨q0,0,none⟩) qs.length qc,.slice (some ⟨t0,0,none⟩) ts.length tc] 39)) #[.int .i64 o] 3) (.cells #[.int .i64 t] 3)) (.cells #[.bool a] 4)) (.cells #[.slice none 0 0,.slice none 0 0,.slice none 0 0,.slice none 0 0] 39)
 have hG:=bold (bold (bnew ((w.alloc (.cells #[.slice (some ⟨a0,0,none⟩) es.length ec,.slice (some ⟨b0,0,none⟩) bs.length bc,.slice (some ⟨q0,0,none⟩) qs.length qc,.slice (some ⟨t0,0,none⟩) ts.length tc] 39)).alloc (.cells #[.int .i64 o] 3)) #[.int .i64 t] 3) (.cells #[.bool a] 4)) (.cells #[.slice none 0 0,.slice none 0 0,.slice none 0 0,.slice none 0 0] 39)
 have hL:=bold (bnew (((w.alloc (.cells #[.slice (some ⟨a0,0,none⟩) es.length ec,.slice (some ⟨b0,0,none⟩) bs.length bc,.slice (some ⟨q0,0,none⟩) qs.length qc,.slice (some ⟨t0,0,none⟩) ts.length tc] 39)).alloc (.cells #[.int .i64 o] 3)).alloc (.cells #[.int .i64 t] 3)) #[.bool a] 4) (.cells #[.slice none 0 0,.slice none 0 0,.slice none 0 0,.slice none 0 0] 39)
 have hR:=bnew ((((w.alloc (.cells #[.slice (some ⟨a0,0,none⟩) es.length ec,.slice (some ⟨b0,0,none⟩) bs.length bc,.slice (some ⟨q0,0,none⟩) qs.length qc,.slice (some ⟨t0,0,none⟩) ts.length tc] 39)).alloc (.cells #[.int .i64 o] 3)).alloc (.cells #[.int .i64 t] 3)).alloc (.cells #[.bool a] 4)) #[.slice none 0 0,.slice none 0 0,.slice none 0 0,.slice none 0 0] 39
 simp only [World.size_alloc,Nat.add_assoc,Nat.reduceAdd] at hO hG hL hR
 obtain⟨W,hW⟩:∃ W,((((w.alloc (.cells #[.slice (some ⟨a0,0,none⟩) es.length ec,.slice (some ⟨b0,0,none⟩) bs.length bc,.slice (some ⟨q0,0,none⟩) qs.length qc,.slice (some ⟨t0,0,none⟩) ts.length tc] 39)).alloc (.cells #[.int .i64 o] 3)).alloc (.cells #[.int .i64 t] 3)).alloc (.cells #[.bool a] 4)).alloc (.cells #[.slice none 0 0,.slice none 0 0,.slice none 0 0,.slice none 0 0] 39)=W:=⟨_,rfl⟩
 have hWs:w.heap.size+5 <= W.heap.size:=by rw [<- hW];simp only [World.size_alloc];omega
 rw [hW] at hWb hA hO hG hL hR
 obtain⟨x0,x1,x2,x3⟩:=fl.q4 hA
 have HR:Hid (W.heap[w.heap.size+4]?=some (.cells #[.slice none 0 0,.slice none 0 0,.slice none 0 0,.slice none 0 0] 39 (0,0))):=hR
 have hcc:=ean.each es bs qs ts a0 b0 q0 t0 ec bc qc tc (w.heap.size+1) (w.heap.size+2) (w.heap.size+3) ok (fun nm nx rs hs=>qbk.ansR nm nx rs hs o t a) (fun nm nx rs hs=>qdp.ansH nm nx rs hs o t a) (fun nm nx rs hs=>qdp.ansC nm nx rs hs o t a) W F (hE.below hWb) (hB.below hWb) (hQ.below hWb) (hT.below hWb) (fun r hr=>by obtain⟨g,h,h1,h2,h3,h4⟩:=hqr r hr;exact⟨g,h,h1,h2,h3.inn hWb,h4.inn hWb⟩) (fun r hr=>(htr r hr).below hWb) (fun V hV=>hok V (hWb.trans (hV.mono hWb.size))) hql hN (fun nm nx rs hs gr gh rc hc V hV f h1 h2=>nack_one nm nx rs hs gr gh rc hc _ _ _ o t a V f h1 h2 (by have:=hV.size;omega) (by have:=hV.size;omega) (by have:=hV.size;omega) (bcell (bstay hO hV (by omega)) rfl) (bcell (bstay hG hV (by omega)) rfl) (bcell (bstay hL hV (by omega)) rfl))
 clear hE hB hQ hT hqr htr hok hN F hA hO hG hL hR
 go_enter Tryz.func25,Tryz.ntmps25
 go_wp2_with (go_at_call 66;fail)
 clear hW x0 x1 x2 x3
 refine hcc.mono ?_
 rintro e w1 ⟨ge,gb,gq,gt,ls,us,n,rfl,HAN⟩
 have b1:=bstay HR.out HAN.out.bel (by omega)
 have HB1:Hid (w1.heap[w.heap.size+4]?=some (.cells #[.slice none 0 0,.slice none 0 0,.slice none 0 0,.slice none 0 0] 39 (0,0))):=b1
 have HWB:Hid (Below w.heap.size w W):=hWb
 obtain⟨z0,z1,z2,z3⟩:=fl.q4 b1
 obtain⟨f0,f1,f2,f3⟩:=fl.r4 b1
 clear hcc b1 hWb HR
 go_wp2
 refine bodyPost_ret (v:=.tuple #[.agg #[.slice (some ⟨ge,0,none⟩) es.length es.length,.slice (some ⟨gb,0,none⟩) bs.length bs.length,.slice (some ⟨gq,0,none⟩) qs.length qs.length,.slice (some ⟨gt,0,none⟩) ts.length ts.length],.int .i64 n]) (by simp [results,Tryz.results25,go_sem,z0,z1,z2,z3]) rfl ⟨ge,gb,gq,gt,ls,us,n,rfl,?_⟩
 have b0:=HB1.out
 have b1:=bset b0 0 (.slice (some ⟨ge,0,none⟩) es.length es.length)
 have b2:=bset b1 1 (.slice (some ⟨gb,0,none⟩) bs.length bs.length)
 have b3:=bset b2 2 (.slice (some ⟨gq,0,none⟩) qs.length qs.length)
 have hx:w.heap.size <= w.heap.size+4:=by omega
 have hb:=HWB.out.trans (HAN.out.bel.mono HWB.out.size)
 exact⟨set_core (set_core (set_core (set_core (akr.ca_lo HAN.out.ca (by omega)) b0 _) b1 _) b2 _) b3 _,HAN.out.ql,HAN.out.tl,HAN.out.q,HAN.out.t,HAN.out.n,(((hb.setCell hx _).setCell hx _).setCell hx _).setCell hx _⟩
end Go.Proofs.YteoojodkkjepeaaGreat.nkr
namespace Go.Proofs.YteoojodkkjepeaaGreat.eac
open ChangeShapes WideShapes ChangeAt RowKit rr ra rt fl co eb
structure An (w:World)(es:List Ex)(bs:List Bi)(qs:List qu.E)(ts:List su.E)(ok:Bool)(fR:ByteArray->Int->List flM.Ms->List flH.Hd->List flM.Ms)(fH:ByteArray->Int->List flM.Ms->List flH.Hd->List flH.Hd)(fN:ByteArray->Int->List flM.Ms->List flH.Hd->Int)(ge gb gq gt:Nat)(ls:List qu.E)(us:List su.E)(n:Int)(w':World):Prop where
 ca:Ca w' (w.heap.size+2) es bs ls us ge gb gq gt
 ql:ls.length=qs.length
 tl:us.length=ts.length
 q:∀ (i:Nat) (r s:qu.E),ls[i]?=some r->qs[i]?=some s->if ok then Is fR fH s r else qu.same r s
 t:∀ (i:Nat) (r s:su.E),us[i]?=some r->ts[i]?=some s->su.same r s
 n:n=if ok then sumN fN qs else 0
 bel:Below w.heap.size w w'
theorem each (es:List Ex)(bs:List Bi)(qs:List qu.E)(ts:List su.E)(a0 b0 q0 t0 ec bc qc tc:Nat)(p1 p2 p3:Nat)(ok:Bool)(fR:ByteArray->Int->List flM.Ms->List flH.Hd->List flM.Ms)(fH:ByteArray->Int->List flM.Ms->List flH.Hd->List flH.Hd)(fN:ByteArray->Int->List flM.Ms->List flH.Hd->Int)(w:World)(F:cb.Fit es bs qs ts)(hE:RE w a0 es)(hB:RB w b0 bs)(hQ:qu.R w q0 qs)(hT:su.R w t0 ts)(hqr:∀ r∈qs,∃ g h,r.ra=some ⟨g,0,none⟩/\r.ha=some ⟨h,0,none⟩/\Row flM.c 5 w w.heap.size r.ra r.rs/\Row flH.c 7 w w.heap.size r.ha r.hs)(htr:∀ r∈ts,cb.At w r)
  (hok:(∀ V,Below w.heap.size w V->Calls Tryz.prog 13 #[.agg #[.slice (some ⟨a0,0,none⟩) es.length ec,.slice (some ⟨b0,0,none⟩) bs.length bc,.slice (some ⟨q0,0,none⟩) qs.length qc,.slice (some ⟨t0,0,none⟩) ts.length tc]] V fun e w'=>e=.returned (.bool ok)/\Below V.heap.size V w')) (hql:ok=true->qs.length <= 20) (hN:(∀ s∈qs,0 <= fN s.nm s.nx s.rs s.hs/\fN s.nm s.nx s.rs s.hs <= 1048576)) (hF:(∀ (nm:ByteArray) (nx:Int) (rs:List flM.Ms) (hs:List flH.Hd) (gr gh rc hc:Nat) (V:World),Below w.heap.size w V->qsp.Fit nm rs hs->Row flM.c 5 V V.heap.size (some ⟨gr,0,none⟩) rs->Row flH.c 7 V V.heap.size (some ⟨gh,0,none⟩) hs->Calls Tryz.prog 67 #[.agg #[.string nm,.int .i64 nx,.slice (some ⟨gr,0,none⟩) rs.length rc,.slice (some ⟨gh,0,none⟩) hs.length hc],.pointer (some ⟨p1,0,none⟩),.pointer (some ⟨p2,0,none⟩),.pointer (some ⟨p3,0,none⟩)] V fun e w'=>qdi.PD V nm nx (fR nm nx rs hs) (fH nm nx rs hs) (fN nm nx rs hs) e w')) :
  Calls Tryz.prog 66 #[.agg #[.slice (some ⟨a0,0,none⟩) es.length ec,.slice (some ⟨b0,0,none⟩) bs.length bc,.slice (some ⟨q0,0,none⟩) qs.length qc,.slice (some ⟨t0,0,none⟩) ts.length tc],.func (.func 67) #[] #[.pointer (some ⟨p1,0,none⟩),.pointer (some ⟨p2,0,none⟩),.pointer (some ⟨p3,0,none⟩)]] w fun e w'=>∃ ge gb gq gt ls us n,e=.returned (.tuple #[.agg #[.slice (some ⟨ge,0,none⟩) es.length es.length,.slice (some ⟨gb,0,none⟩) bs.length bs.length,.slice (some ⟨gq,0,none⟩) qs.length qs.length,.slice (some ⟨gt,0,none⟩) ts.length ts.length],.int .i64 n])/\Hid (An w es bs qs ts ok fR fH fN ge gb gq gt ls us n w'):=by
 obtain⟨W,hW,hWb,hA,hR,hzz⟩:=fl.bx2 w #[.slice (some ⟨a0,0,none⟩) es.length ec,.slice (some ⟨b0,0,none⟩) bs.length bc,.slice (some ⟨q0,0,none⟩) qs.length qc,.slice (some ⟨t0,0,none⟩) ts.length tc] #[.slice none 0 0,.slice none 0 0,.slice none 0 0,.slice none 0 0] 39 39
 have hWs:w.heap.size+2 <= W.heap.size:=by omega
 clear hzz
 have hcc:=cco.copy_core es bs qs ts a0 b0 q0 t0 ec bc qc tc W F (hE.below hWb) (hB.below hWb) (hQ.below hWb) (hT.below hWb) (fun r hr=>by obtain⟨g,h,h1,h2,h3,h4⟩:=hqr r hr;exact⟨g,h,h1,h2,h3.inn hWb,h4.inn hWb⟩) (fun r hr=>(htr r hr).below hWb)
 have HF:Hid (cb.Fit es bs qs ts):=F
 have HAB:Hid (W.heap[w.heap.size]?=some (.cells #[.slice (some ⟨a0,0,none⟩) es.length ec,.slice (some ⟨b0,0,none⟩) bs.length bc,.slice (some ⟨q0,0,none⟩) qs.length qc,.slice (some ⟨t0,0,none⟩) ts.length tc] 39 (0,0))/\W.heap[w.heap.size+1]?=some (.cells #[.slice none 0 0,.slice none 0 0,.slice none 0 0,.slice none 0 0] 39 (0,0))):=⟨hA,hR⟩
 have HOK:Hid (∀ V,Below w.heap.size w V->Calls Tryz.prog 13 #[.agg #[.slice (some ⟨a0,0,none⟩) es.length ec,.slice (some ⟨b0,0,none⟩) bs.length bc,.slice (some ⟨q0,0,none⟩) qs.length qc,.slice (some ⟨t0,0,none⟩) ts.length tc]] V fun e w'=>e=.returned (.bool ok)/\Below V.heap.size V w'):=hok
 have HN:Hid (∀ s∈qs,0 <= fN s.nm s.nx s.rs s.hs/\fN s.nm s.nx s.rs s.hs <= 1048576):=hN
 have HFF:Hid (∀ (nm:ByteArray) (nx:Int) (rs:List flM.Ms) (hs:List flH.Hd) (gr gh rc hc:Nat) (V:World),Below w.heap.size w V->qsp.Fit nm rs hs->Row flM.c 5 V V.heap.size (some ⟨gr,0,none⟩) rs->Row flH.c 7 V V.heap.size (some ⟨gh,0,none⟩) hs->Calls Tryz.prog 67 #[.agg #[.string nm,.int .i64 nx,.slice (some ⟨gr,0,none⟩) rs.length rc,.slice (some ⟨gh,0,none⟩) hs.length hc],.pointer (some ⟨p1,0,none⟩),.pointer (some ⟨p2,0,none⟩),.pointer (some ⟨p3,0,none⟩)] V fun e w'=>qdi.PD V nm nx (fR nm nx rs hs) (fH nm nx rs hs) (fN nm nx rs hs) e w'):=hF
 obtain⟨x0,x1,x2,x3⟩:=fl.q4 hA
 clear hE hB hQ hT hqr htr hok hN hF F hA hR
 go_enter Tryz.func66,Tryz.ntmps66
 go_wp2_with (go_at_call 53;fail)
 clear hW x0 x1 x2 x3
 refine hcc.mono ?_
 rintro e w1 ⟨ge,gb,gq,gt,ks,us,rfl,hcg,hb1⟩
 have hs1:=hb1.size
 have HSM:Hid (cb.Same qs ks ts us):=cb.same_of hcg
 have hal:=fl.bl w1 (.cells #[.slice (some ⟨ge,0,none⟩) es.length es.length,.slice (some ⟨gb,0,none⟩) bs.length bs.length,.slice (some ⟨gq,0,none⟩) qs.length qs.length,.slice (some ⟨gt,0,none⟩) ts.length ts.length] 39)
 have hB1:Below W.heap.size W (w1.alloc (.cells #[.slice (some ⟨ge,0,none⟩) es.length es.length,.slice (some ⟨gb,0,none⟩) bs.length bs.length,.slice (some ⟨gq,0,none⟩) qs.length qs.length,.slice (some ⟨gt,0,none⟩) ts.length ts.length] 39)):=hb1.trans (hal.mono hs1)
 have hca:Ca w1 (w.heap.size+2) es bs ks us ge gb gq gt:=by
  have h:=hcg.a
  exact⟨h.he,h.hb,⟨h.hq.own,Nat.le_trans (by omega) h.hq.bg,fun r hr=>mine_lo (h.hq.ea r hr) (by omega),fun r hr=>mine_lo (h.hq.eb r hr) (by omega),h.hq.pw⟩,⟨h.ht.own,Nat.le_trans (by omega) h.ht.bg,fun r hr=>mine_lo (h.ht.ea r hr) (by omega),fun r hr=>mine_lo (h.ht.eb r hr) (by omega),h.ht.pw⟩,Nat.le_trans (by omega) h.be,Nat.le_trans (by omega) h.bb,h.eb⟩
 have HI0:Hid (Ie w es bs qs ts a0 b0 q0 t0 ec bc qc tc (w.heap.size+2) ge gb gq gt w1.heap.size us ks (w1.alloc (.cells #[.slice (some ⟨ge,0,none⟩) es.length es.length,.slice (some ⟨gb,0,none⟩) bs.length bs.length,.slice (some ⟨gq,0,none⟩) qs.length qs.length,.slice (some ⟨gt,0,none⟩) ts.length ts.length] 39))):=⟨hWb.trans (hB1.mono hWb.size),bstay HAB.out.2 hB1 (by omega),bnew w1 _ _,hca.on hal⟩
 have HAD:Hid (∀ r∈ks,∃ gr gh,r.ra=some ⟨gr,0,none⟩/\r.ha=some ⟨gh,0,none⟩):=fun r hr=>by
  obtain⟨j,hj⟩:=List.mem_iff_getElem?.1 hr
  obtain⟨g,h,h1,h2,_⟩:=hcg.hq.mine j r (by have:=(List.getElem?_eq_some_iff.1 hj).1;have:=hcg.hq.len;omega) hj
  exact⟨g,h,h1,h2⟩
 have HFK:Hid (cb.Fit es bs ks us):=cb.fit_same HF.out (cb.same_of hcg)
 obtain⟨Y,hY⟩:∃ Y,w1.alloc (.cells #[.slice (some ⟨ge,0,none⟩) es.length es.length,.slice (some ⟨gb,0,none⟩) bs.length bs.length,.slice (some ⟨gq,0,none⟩) qs.length qs.length,.slice (some ⟨gt,0,none⟩) ts.length ts.length] 39)=Y:=⟨_,rfl⟩
 rw [hY] at HI0 hB1
 have HBY:Hid (Below W.heap.size W Y):=hB1
 have b1:=bstay HAB.out.1 hB1 (by omega)
 obtain⟨y0,y1,y2,y3⟩:=fl.q4 b1
 have hk2:=HOK.out Y HI0.out.bel
 clear hcc hcg hca hal hb1 b1 hB1
 go_wp2_with (go_at_call 13;fail)
 clear hY y0 y1 y2 y3
 refine hk2.mono ?_
 rintro e w2 ⟨rfl,hb2⟩
 have HI2:Hid (Ie w es bs qs ts a0 b0 q0 t0 ec bc qc tc (w.heap.size+2) ge gb gq gt w1.heap.size us ks w2):=HI0.out.on hb2
 obtain⟨gn,hgn⟩:∃ gn,w1.heap.size=gn:=⟨_,rfl⟩
 rw [hgn] at HI2 ⊢
 obtain⟨n0,n1,n2,n3⟩:=fl.q4 HI2.out.gnb
 clear hk2 HI0 hb2 hgn
 cases ok with
 | false =>
  obtain⟨z0,z1,z2,z3⟩:=fl.q4 HI2.out.res
  obtain⟨f0,f1,f2,f3⟩:=fl.r4 HI2.out.res
  have HFN:=Ie.fin HI2.out
  go_wp2
  exact bodyPost_ret (v:=.tuple #[.agg #[.slice (some ⟨ge,0,none⟩) es.length es.length,.slice (some ⟨gb,0,none⟩) bs.length bs.length,.slice (some ⟨gq,0,none⟩) qs.length qs.length,.slice (some ⟨gt,0,none⟩) ts.length ts.length],.int .i64 0]) (by simp [results,Tryz.results66,go_sem,z0,z1,z2,z3]) rfl ⟨ge,gb,gq,gt,ks,us,0,rfl,HFN.out.1,HSM.out.ql,HSM.out.tl,fun i r s hr hs=>HSM.out.q i r s hr hs,HSM.out.t,rfl,HFN.out.2⟩
 | true =>
  have hq20:=hql rfl
  have hkl:=HSM.out.ql
  have HNK:Hid (∀ s∈ks,0 <= fN s.nm s.nx s.rs s.hs/\fN s.nm s.nx s.rs s.hs <= 1048576):=fun s hs=>by
   obtain⟨i,hi⟩:=List.mem_iff_getElem?.1 hs
   obtain⟨x,hx,e1,e2,e3,e4⟩:=HSM.out.flip.q_at hi
   have:=HN.out x (List.mem_iff_getElem?.2 ⟨i,hx⟩)
   rwa [e1,e2,e3,e4] at this
  have HKL:Hid (ks.length=qs.length):=hkl
  clear hkl
  go_wp2
  go_loopw [21,7] (fun x y wr=>∃ (k:Nat) (d q:List qu.E),k <= qs.length/\x=.int .i64 k/\y=.int .i64 (sumN fN (ks.take k))/\Hid (Dq fR fH ks d q k)/\Hid (Ie w es bs qs ts a0 b0 q0 t0 ec bc qc tc (w.heap.size+2) ge gb gq gt gn us (d++q) wr)) (fun x _ _=>qs.length - (intOf x).toNat)
  case atStart=>exact⟨0,[],ks,Nat.zero_le _,rfl,rfl,⟨rfl,rfl,fun i r s hr=>by simp at hr⟩,HI2⟩
  case round =>
   obtain⟨k,d,q,hk,rfl,rfl,hdq,hinv⟩:=hrel
   clear HI2 n0 n1 n2 n3
   have HSB:Hid (0 <= sumN fN (ks.take k)/\sumN fN (ks.take k) <= 20971520):=by
    have h1:=sum_le fN (ks.take k) (fun s hs=>HNK.out s (List.mem_of_mem_take hs))
    have h2:(ks.take k).length <= 20:=by have:=HKL.out;simp;omega
    show _/\_
    omega
   obtain⟨sm,hsm⟩:∃ sm,sumN fN (ks.take k)=sm:=⟨_,rfl⟩
   have HSS:Hid (sumN fN (ks.take k)=sm):=hsm
   rw [hsm] at HSB ⊢
   have hsb:=HSB.out
   clear hsm
   match q,hdq,hinv with
   | [],hdq,hinv =>
    have hk2:k=qs.length:=by have h1:=congrArg List.length hdq.out.ql;simp at h1;have:=HKL.out;omega
    subst hk2
    have HI3:Hid (Ie w es bs qs ts a0 b0 q0 t0 ec bc qc tc (w.heap.size+2) ge gb gq gt gn us d wr):=by have:=hinv.out;rw [List.append_nil] at this;exact this
    obtain⟨n0,n1,n2,n3⟩:=fl.q4 HI3.out.gnb
    obtain⟨z0,z1,z2,z3⟩:=fl.q4 HI3.out.res
    obtain⟨f0,f1,f2,f3⟩:=fl.r4 HI3.out.res
    have HFN:=Ie.fin HI3.out
    have HQS:Hid (∀ (i:Nat) (r s:qu.E),d[i]?=some r->qs[i]?=some s->Is fR fH s r):=fun i r s hr hs=>by
     obtain⟨x,hx,e1,e2,e3,e4⟩:=HSM.out.q_at hs
     have:=hdq.out.is i r x hr hx
     unfold Is at this ⊢
     rwa [e1,e2,e3,e4] at this
    have HSQ:Hid (sm=sumN fN qs):=by have h1:=HSS.out;rw [show qs.length=ks.length from HKL.out.symm,List.take_length] at h1;rw [<- h1];exact sum_same HSM.out
    have hdl:=hdq.out.dl
    clear hinv hdq HSS
    go_wp2
    exact bodyPost_ret (v:=.tuple #[.agg #[.slice (some ⟨ge,0,none⟩) es.length es.length,.slice (some ⟨gb,0,none⟩) bs.length bs.length,.slice (some ⟨gq,0,none⟩) qs.length qs.length,.slice (some ⟨gt,0,none⟩) ts.length ts.length],.int .i64 sm]) (by simp [results,Tryz.results66,go_sem,z0,z1,z2,z3]) rfl ⟨ge,gb,gq,gt,d,us,sm,rfl,HFN.out.1,hdl,HSM.out.tl,fun i r s hr hs=>HQS.out i r s hr hs,HSM.out.t,HSQ.out,HFN.out.2⟩
   | r :: q,hdq,hinv =>
    have hmem:r∈ks/\k<ks.length:=⟨(hdq.out.more (r':=⟨r.nm,r.nx,none,0,_,none,0,_⟩) ⟨rfl,rfl,rfl,rfl⟩).2.2.2,(hdq.out.more (r':=⟨r.nm,r.nx,none,0,_,none,0,_⟩) ⟨rfl,rfl,rfl,rfl⟩).2.2.1⟩
    have hkl:k<qs.length:=by have:=HKL.out;omega
    have i2:(k:Int)<(qs.length:Int):=by omega
    obtain⟨gr,gh,h1,h2⟩:=HAD.out r hmem.1
    have hnb:=HNK.out r hmem.1
    have f:=HFK.out.qf r hmem.1
    have HTK:Hid (∀ r',Is fR fH r r'->Dq fR fH ks (d++[r']) q (k+1)/\ks.take (k+1)=ks.take k++[r]):=fun r' hr=>⟨(hdq.out.more hr).1,(hdq.out.more hr).2.1⟩
    obtain⟨nm,nx,ra,rc,rs,ha,hc,hs⟩:=r
    simp only at h1 h2 hnb f
    subst h1 h2
    have hdl:=hdq.out.dl
    have cs:=hinv.out.ca.hq.cells k hdl
    have c0:wr.cell? ⟨gq,k*4,none⟩=some (.string nm):=cs 0 _ rfl
    have c1:wr.cell? ⟨gq,k*4+1,none⟩=some (.int .i64 nx):=cs 1 _ rfl
    have c2:wr.cell? ⟨gq,k*4+2,none⟩=some (.slice (some ⟨gr,0,none⟩) rs.length rc):=cs 2 _ rfl
    have c3:wr.cell? ⟨gq,k*4+3,none⟩=some (.slice (some ⟨gh,0,none⟩) hs.length hc):=cs 3 _ rfl
    have hst:=fl.bl wr (.cells #[.string nm,.int .i64 nx,.slice (some ⟨gr,0,none⟩) rs.length rc,.slice (some ⟨gh,0,none⟩) hs.length hc] 68)
    have HIX:Hid (Ie w es bs qs ts a0 b0 q0 t0 ec bc qc tc (w.heap.size+2) ge gb gq gt gn us (d++⟨nm,nx,some ⟨gr,0,none⟩,rc,rs,some ⟨gh,0,none⟩,hc,hs⟩ :: q) (wr.alloc (.cells #[.string nm,.int .i64 nx,.slice (some ⟨gr,0,none⟩) rs.length rc,.slice (some ⟨gh,0,none⟩) hs.length hc] 68))):=hinv.out.on hst
    have hcf:=HFF.out nm nx rs hs gr gh rc hc _ HIX.out.bel f (HIX.out.ca.hq.ea _ qu.mid_in).row (HIX.out.ca.hq.eb _ qu.mid_in).row
    have HDL:Hid (d.length=k):=hdl
    clear cs hst hinv hdq f hdl
    go_wp2_with (go_at_call 67;fail)
    refine hcf.mono ?_
    rintro e w3 ⟨g,ce,h,ao,cb,rfl,hg,hh,hgh,hhl,oA,oH,hb3⟩
    have hs3:=hb3.size
    simp only [World.size_alloc] at hg hh
    have HI3:=HIX.out.on hb3
    have hal3:=fl.bl w3 (.cells #[.string nm,.int .i64 nx,.slice (some ⟨g,0,none⟩) (fR nm nx rs hs).length ce,.slice ao (fH nm nx rs hs).length cb] 68)
    have HI4:=HI3.on hal3
    have hwB:w.heap.size+2 <= wr.heap.size:=Nat.le_trans HI3.ca.be (by have h1:=HIX.out.ca.he.lt;simp only [World.size_alloc] at h1;omega)
    have hmA:fo.Mine flM.c 5 48 (w3.alloc (.cells #[.string nm,.int .i64 nx,.slice (some ⟨g,0,none⟩) (fR nm nx rs hs).length ce,.slice ao (fH nm nx rs hs).length cb] 68)) (w.heap.size+2) (some ⟨g,0,none⟩) (fR nm nx rs hs):=.inr ⟨g,0,rfl,by omega,oA.below hal3 oA.lt⟩
    have hmH:fo.Mine flH.c 7 102 (w3.alloc (.cells #[.string nm,.int .i64 nx,.slice (some ⟨g,0,none⟩) (fR nm nx rs hs).length ce,.slice ao (fH nm nx rs hs).length cb] 68)) (w.heap.size+2) ao (fH nm nx rs hs):=mine_ho (oH.below hal3) (by omega)
    have HPUT:=Ie.put (r':=⟨nm,nx,some ⟨g,0,none⟩,ce,fR nm nx rs hs,ao,cb,fH nm nx rs hs⟩) HDL.out (by omega) HIX.out HI4 hmA hmH (fun x hx=>by
     simp only [World.size_alloc]
     rcases hx with hx | hx
     ·obtain⟨_,g',o',e1,rfl⟩:=hx
      cases e1
      exact hg
     ·rw [blk_ho oH hx];exact hh)
    obtain⟨hdn,htk⟩:=HTK.out ⟨nm,nx,some ⟨g,0,none⟩,ce,fR nm nx rs hs,ao,cb,fH nm nx rs hs⟩ ⟨rfl,rfl,rfl,rfl⟩
    have HDN:Hid (Dq fR fH ks (d++[⟨nm,nx,some ⟨g,0,none⟩,ce,fR nm nx rs hs,ao,cb,fH nm nx rs hs⟩]) q (k+1)):=hdn
    have HSN:Hid (sumN fN (ks.take (k+1))=sm+fN nm nx rs hs):=by show _=_;rw [htk,sum_snoc,HSS.out]
    obtain⟨L,hL⟩:∃ L,fR nm nx rs hs=L:=⟨_,rfl⟩
    obtain⟨H,hH⟩:∃ H,fH nm nx rs hs=H:=⟨_,rfl⟩
    obtain⟨N,hN'⟩:∃ N,fN nm nx rs hs=N:=⟨_,rfl⟩
    rw [hL,hH] at HPUT HDN HI4 hal3
    rw [hN'] at hnb HSN
    rw [hL,hH,hN']
    have HP:Hid (Ie w es bs qs ts a0 b0 q0 t0 ec bc qc tc (w.heap.size+2) ge gb gq gt gn us (d++⟨nm,nx,some ⟨g,0,none⟩,ce,L,ao,cb,H⟩ :: q) _):=HPUT
    have bx:=bnew w3 #[.string nm,.int .i64 nx,.slice (some ⟨g,0,none⟩) L.length ce,.slice ao H.length cb] 68
    have n2:(w3.alloc (.cells #[.string nm,.int .i64 nx,.slice (some ⟨g,0,none⟩) L.length ce,.slice ao H.length cb] 68)).cell? ⟨gn,2,none⟩=some (.slice (some ⟨gq,0,none⟩) qs.length qs.length):=bcell HI4.gnb rfl
    have hlen:(d++(⟨nm,nx,some ⟨gr,0,none⟩,rc,rs,some ⟨gh,0,none⟩,hc,hs⟩:qu.E) :: q).length=k+1+q.length:=by simp;have:=HDL.out;omega
    obtain⟨v0,g0⟩:=HI4.ca.hq.own.at (k*4) (by rw [hlen];omega)
    obtain⟨v1,g1⟩:=HI4.ca.hq.own.at (k*4+1) (by rw [hlen];omega)
    obtain⟨v2,g2⟩:=HI4.ca.hq.own.at (k*4+2) (by rw [hlen];omega)
    obtain⟨v3,g3⟩:=HI4.ca.hq.own.at (k*4+3) (by rw [hlen];omega)
    have u0:=HI4.ca.hq.own.free (k*4)
    have u1:=HI4.ca.hq.own.free (k*4+1)
    have u2:=HI4.ca.hq.own.free (k*4+2)
    have u3:=HI4.ca.hq.own.free (k*4+3)
    obtain⟨y0,y1,y2,y3⟩:=fl.q4 bx
    have hne:w3.heap.size≠gq:=by have h1:=HI3.ca.hq.own.lt;omega
    clear hcf HPUT HI3 HI4 hmA hmH oA oH hdn htk hal3 bx hL hH hN' c0 c1 c2 c3 HIX hlen
    go_wp2
    go_roundw
    case rel=>exact⟨k+1,_,_,by omega,by go_num,by rw [HSN.out],HDN,by rw [List.append_assoc];exact HP⟩
    case measure=>simp [intOf];omega
end Go.Proofs.YteoojodkkjepeaaGreat.eac
