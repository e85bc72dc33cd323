/- QPopNo. -/
import Derived.Test.YteoojodkkjepeaaGreatKp46
import Derived.Test.YteoojodkkjepeaaGreatKp43
set_option maxRecDepth 100000
set_option maxHeartbeats 8000000
set_option linter.unusedVariables false
namespace Go.Proofs.YteoojodkkjepeaaGreat.qoi
open ChangeShapes WideShapes ChangeAt RowKit fl fo qit qst qpu qpo qop qcl qsp qpi
theorem impl_pop_no (nm:ByteArray)(nx:Int)(es:List flM.Ms)(ms:List flH.Hd)(a0 b0 ec bc:Nat)(o t:Int)(w:World)(F:Fit nm es ms)(hgd:qpp.good nm nx es ms o t=false)(hE:Row flM.c 5 w w.heap.size (some ⟨a0,0,none⟩) es)(hB:Row flH.c 7 w w.heap.size (some ⟨b0,0,none⟩) ms) :
  Calls Tryz.prog 65 #[.agg #[.string nm,.int .i64 nx,.slice (some ⟨a0,0,none⟩) es.length ec,.slice (some ⟨b0,0,none⟩) ms.length bc],.int .i64 o,.int .i64 t] w fun e w'=>PP w nm nx (qpp.ansR nm nx es ms o t) (qpp.ansH nm nx es ms o t) (qpp.ansM nm nx es ms o t) (qpp.good nm nx es ms o t) e w':=by
 have hWb:Below w.heap.size w (((w.alloc (.cells #[.string nm,.int .i64 nx,.slice (some ⟨a0,0,none⟩) es.length ec,.slice (some ⟨b0,0,none⟩) ms.length bc] 68)).alloc (.cells #[.string ⟨#[]⟩,.int .i64 0,.slice none 0 0,.slice none 0 0] 68)).alloc (.cells #[.int .i64 0,.string ⟨#[]⟩,.string ⟨#[]⟩,.string ⟨#[]⟩,.bool false] 48)):=(((Below.refl _ _).alloc (Nat.le_refl _) _).alloc (by simp) _).alloc (by simp;omega) _
 have hA:=bold (bold (bnew w #[.string nm,.int .i64 nx,.slice (some ⟨a0,0,none⟩) es.length ec,.slice (some ⟨b0,0,none⟩) ms.length bc] 68) (.cells #[.string ⟨#[]⟩,.int .i64 0,.slice none 0 0,.slice none 0 0] 68)) (.cells #[.int .i64 0,.string ⟨#[]⟩,.string ⟨#[]⟩,.string ⟨#[]⟩,.bool false] 48)
 have hR:=bold (bnew (w.alloc (.cells #[.string nm,.int .i64 nx,.slice (some ⟨a0,0,none⟩) es.length ec,.slice (some ⟨b0,0,none⟩) ms.length bc] 68)) #[.string ⟨#[]⟩,.int .i64 0,.slice none 0 0,.slice none 0 0] 68) (.cells #[.int .i64 0,.string ⟨#[]⟩,.string ⟨#[]⟩,.string ⟨#[]⟩,.bool false] 48)
 have hM:=bnew ((w.alloc (.cells #[.string nm,.int .i64 nx,.slice (some ⟨a0,0,none⟩) es.length ec,.slice (some ⟨b0,0,none⟩) ms.length bc] 68)).alloc (.cells #[.string ⟨#[]⟩,.int .i64 0,.slice none 0 0,.slice none 0 0] 68)) #[.int .i64 0,.string ⟨#[]⟩,.string ⟨#[]⟩,.string ⟨#[]⟩,.bool false] 48
 have hsz2:((w.alloc (.cells #[.string nm,.int .i64 nx,.slice (some ⟨a0,0,none⟩) es.length ec,.slice (some ⟨b0,0,none⟩) ms.length bc] 68)).alloc (.cells #[.string ⟨#[]⟩,.int .i64 0,.slice none 0 0,.slice none 0 0] 68)).heap.size=w.heap.size+2:=by simp
 rw [World.size_alloc] at hR
 rw [hsz2] at hM
 obtain⟨W,hW⟩:∃ W,((w.alloc (.cells #[.string nm,.int .i64 nx,.slice (some ⟨a0,0,none⟩) es.length ec,.slice (some ⟨b0,0,none⟩) ms.length bc] 68)).alloc (.cells #[.string ⟨#[]⟩,.int .i64 0,.slice none 0 0,.slice none 0 0] 68)).alloc (.cells #[.int .i64 0,.string ⟨#[]⟩,.string ⟨#[]⟩,.string ⟨#[]⟩,.bool false] 48)=W:=⟨_,rfl⟩
 have hWs:W.heap.size=w.heap.size+3:=by rw [<- hW];simp
 rw [hW] at hWb hA hR hM
 have HE:Hid (Row flM.c 5 W W.heap.size (some ⟨a0,0,none⟩) es):=hE.inn hWb
 have HRS:Hid (W.heap[w.heap.size+1]?=some (.cells #[.string ⟨#[]⟩,.int .i64 0,.slice none 0 0,.slice none 0 0] 68 (0,0))/\W.heap[w.heap.size+2]?=some (.cells #[.int .i64 0,.string ⟨#[]⟩,.string ⟨#[]⟩,.string ⟨#[]⟩,.bool false] 48 (0,0))):=⟨hR,hM⟩
 have HB:Hid (Row flH.c 7 W W.heap.size (some ⟨b0,0,none⟩) ms):=hB.inn hWb
 have HF:Hid (Fit nm es ms):=F
 have BX:Hid (∀ V,Below W.heap.size W V->(V.cell? ⟨w.heap.size,0,none⟩=some (.string nm)/\V.cell? ⟨w.heap.size,1,none⟩=some (.int .i64 nx)/\V.cell? ⟨w.heap.size,2,none⟩=some (.slice (some ⟨a0,0,none⟩) es.length ec)/\V.cell? ⟨w.heap.size,3,none⟩=some (.slice (some ⟨b0,0,none⟩) ms.length bc))/\(V.cell? ⟨w.heap.size+1,0,none⟩=some (.string ⟨#[]⟩)/\V.cell? ⟨w.heap.size+1,1,none⟩=some (.int .i64 0)/\V.cell? ⟨w.heap.size+1,2,none⟩=some (.slice none 0 0)/\V.cell? ⟨w.heap.size+1,3,none⟩=some (.slice none 0 0))/\(V.cell? ⟨w.heap.size+2,0,none⟩=some (.int .i64 0)/\V.cell? ⟨w.heap.size+2,1,none⟩=some (.string ⟨#[]⟩)/\V.cell? ⟨w.heap.size+2,2,none⟩=some (.string ⟨#[]⟩)/\V.cell? ⟨w.heap.size+2,3,none⟩=some (.string ⟨#[]⟩)/\V.cell? ⟨w.heap.size+2,4,none⟩=some (.bool false))/\(V.frozen? ⟨w.heap.size+1,0,none⟩=false/\V.frozen? ⟨w.heap.size+1,1,none⟩=false/\V.frozen? ⟨w.heap.size+1,2,none⟩=false/\V.frozen? ⟨w.heap.size+1,3,none⟩=false)/\V.frozen? ⟨w.heap.size+2,0,none⟩=false/\V.frozen? ⟨w.heap.size+2,1,none⟩=false/\V.frozen? ⟨w.heap.size+2,2,none⟩=false/\V.frozen? ⟨w.heap.size+2,3,none⟩=false/\V.frozen? ⟨w.heap.size+2,4,none⟩=false):=fun V hV=>by
  have a:=bstay hA hV (by omega)
  have r:=bstay hR hV (by omega)
  have m:=bstay hM hV (by omega)
  exact⟨⟨bcell a rfl,bcell a rfl,bcell a rfl,bcell a rfl⟩,⟨bcell r rfl,bcell r rfl,bcell r rfl,bcell r rfl⟩,⟨bcell m rfl,bcell m rfl,bcell m rfl,bcell m rfl,bcell m rfl⟩,⟨bfree r 0,bfree r 1,bfree r 2,bfree r 3⟩,bfree m 0,bfree m 1,bfree m 2,bfree m 3,bfree m 4⟩
 have hok:=impl_okb nm nx es ms _ _ ec bc W F HE.out HB.out
 have CP:Hid (∀ V,Below W.heap.size W V->Calls Tryz.prog 118 #[.agg #[.string nm,.int .i64 nx,.slice (some ⟨a0,0,none⟩) es.length ec,.slice (some ⟨b0,0,none⟩) ms.length bc]] V fun r w'=>∃ g h,r=.returned (.agg #[.string nm,.int .i64 nx,.slice (some ⟨g,0,none⟩) es.length es.length,.slice (some ⟨h,0,none⟩) ms.length ms.length])/\V.heap.size <= g/\V.heap.size <= h/\g≠h/\Own flM.c 5 48 w' g es es.length/\Own flH.c 7 102 w' h ms ms.length/\Below V.heap.size V w'):=fun V hV=>cqu.copy_queue nm nx es ms a0 b0 ec bc V F.ns F.el F.ml F.eb F.mb (HE.out.inn hV) (HB.out.inn hV)
 have HAR:Hid (qpp.ansR nm nx es ms o t=if qpp.good nm nx es ms o t=true then es.tail else es):=rfl
 have HAH:Hid (qpp.ansH nm nx es ms o t=if qpp.good nm nx es ms o t=true then ms.take (qpp.atO o ms ms.length)++⟨t,o,qpp.headM es⟩ :: ms.drop (qpp.atO o ms ms.length) else ms):=rfl
 have HAM:Hid (qpp.ansM nm nx es ms o t=if qpp.good nm nx es ms o t=true then qpp.headM es else qpp.headM []):=rfl
 have HGD:Hid (qpp.good nm nx es ms o t=(okB nm nx es ms && qpp.hand o t && !es.isEmpty && !ms.any (qpp.late o t))):=rfl
 obtain⟨AR,hAR⟩:∃ y,qpp.ansR nm nx es ms o t=y:=⟨_,rfl⟩
 obtain⟨AH,hAH⟩:∃ y,qpp.ansH nm nx es ms o t=y:=⟨_,rfl⟩
 obtain⟨AM,hAM⟩:∃ y,qpp.ansM nm nx es ms o t=y:=⟨_,rfl⟩
 obtain⟨GD,hGD⟩:∃ y,qpp.good nm nx es ms o t=y:=⟨_,rfl⟩
 rw [hAR,hGD] at HAR
 rw [hAH,hGD] at HAH
 rw [hAM,hGD] at HAM
 rw [hGD] at HGD
 have HGD:Hid ((okB nm nx es ms && qpp.hand o t && !es.isEmpty && !ms.any (qpp.late o t))=GD):=HGD.out.symm
 have HGT:Hid (GD=false):=hGD.symm.trans hgd
 simp only [hAR,hAH,hAM,hGD]
 obtain⟨⟨x0,x1,x2,x3⟩,_⟩:=BX.out W (Below.refl _ _)
 clear hgd hE hB hA hR hM F hAR hAH hAM hGD
 go_enter Tryz.func65,Tryz.ntmps65
 go_wp2_with (go_at_call 46;fail)
 clear hW x0 x1 x2 x3
 refine hok.mono ?_
 rintro e w1 ⟨rfl,hb1⟩
 obtain⟨ob,hob⟩:∃ ob,okB nm nx es ms=ob:=⟨_,rfl⟩
 rw [hob] at HGD ⊢
 clear hok
 cases ob with
 | false =>
  obtain rfl:es=AR:=by have:=HAR.out;rw [HGT.out] at this;exact this.symm
  obtain rfl:ms=AH:=by have:=HAH.out;rw [HGT.out] at this;exact this.symm
  obtain rfl:qpp.headM []=AM:=by have:=HAM.out;rw [HGT.out] at this;exact this.symm
  obtain rfl:GD=false:=HGT.out
  have hcq:=CP.out w1 hb1
  clear HAR HAH HAM HGD HGT
  obtain⟨⟨x0,x1,x2,x3⟩,_⟩:=BX.out w1 hb1
  go_wp2_with (go_at_call 118;fail)
  clear x0 x1 x2 x3
  refine hcq.mono ?_
  rintro e wz ⟨g,h,rfl,hg,hh,hgh,oe,om,hbz⟩
  have hBz:=fl.bt hb1 hbz
  obtain⟨_,⟨z0,z1,z2,z3⟩,⟨y0,y1,y2,y3,y4⟩,⟨f0,f1,f2,f3⟩,e0,e1,e2,e3,e4⟩:=BX.out wz hBz
  have hsx:=hb1.size
  have HFN:Hid (OwnO flM.c 5 48 wz g 0 es es.length/\OwnO flH.c 7 102 wz h 0 ms ms.length/\Below w.heap.size w wz):=⟨of_own oe,of_own om,hWb.trans (hBz.mono hWb.size)⟩
  clear hcq oe om hbz hBz
  go_wp2
  refine bodyPost_ret (v:=.tuple #[.agg #[.string nm,.int .i64 nx,.slice (some ⟨g,0,none⟩) es.length es.length,.slice (some ⟨h,0,none⟩) ms.length ms.length],.agg #[.int .i64 0,.string ⟨#[]⟩,.string ⟨#[]⟩,.string ⟨#[]⟩,.bool false],.bool false]) (by simp [results,Tryz.results65,go_sem,z0,z1,z2,z3,y0,y1,y2,y3,y4]) rfl ⟨g,_,h,_,rfl,by omega,by omega,hgh,?_,?_,?_⟩
  ·exact HFN.out.1.kept (s9.heap (by omega) (by omega))
  ·exact HFN.out.2.1.kept (s9.heap (by omega) (by omega))
  ·exact s9.bel HFN.out.2.2 (by omega) (by omega)
 | true =>
  have hhd:=qhd.impl_hand o t w1
  obtain⟨hn,hhn⟩:∃ hn,qpp.hand o t=hn:=⟨_,rfl⟩
  rw [hhn] at HGD hhd
  go_wp2_with (go_at_call 105;fail)
  refine hhd.mono ?_
  rintro e wh ⟨rfl,hwh⟩
  obtain rfl:=hwh.symm
  clear hhd
  cases hn with
  | false =>
   obtain rfl:es=AR:=by have:=HAR.out;rw [HGT.out] at this;exact this.symm
   obtain rfl:ms=AH:=by have:=HAH.out;rw [HGT.out] at this;exact this.symm
   obtain rfl:qpp.headM []=AM:=by have:=HAM.out;rw [HGT.out] at this;exact this.symm
   obtain rfl:GD=false:=HGT.out
   have hcq:=CP.out w1 hb1
   clear HAR HAH HAM HGD HGT
   obtain⟨⟨x0,x1,x2,x3⟩,_⟩:=BX.out w1 hb1
   go_wp2_with (go_at_call 118;fail)
   clear x0 x1 x2 x3
   refine hcq.mono ?_
   rintro e wz ⟨g,h,rfl,hg,hh,hgh,oe,om,hbz⟩
   have hBz:=fl.bt hb1 hbz
   obtain⟨_,⟨z0,z1,z2,z3⟩,⟨y0,y1,y2,y3,y4⟩,⟨f0,f1,f2,f3⟩,e0,e1,e2,e3,e4⟩:=BX.out wz hBz
   have hsx:=hb1.size
   have HFN:Hid (OwnO flM.c 5 48 wz g 0 es es.length/\OwnO flH.c 7 102 wz h 0 ms ms.length/\Below w.heap.size w wz):=⟨of_own oe,of_own om,hWb.trans (hBz.mono hWb.size)⟩
   clear hcq oe om hbz hBz
   go_wp2
   refine bodyPost_ret (v:=.tuple #[.agg #[.string nm,.int .i64 nx,.slice (some ⟨g,0,none⟩) es.length es.length,.slice (some ⟨h,0,none⟩) ms.length ms.length],.agg #[.int .i64 0,.string ⟨#[]⟩,.string ⟨#[]⟩,.string ⟨#[]⟩,.bool false],.bool false]) (by simp [results,Tryz.results65,go_sem,z0,z1,z2,z3,y0,y1,y2,y3,y4]) rfl ⟨g,_,h,_,rfl,by omega,by omega,hgh,?_,?_,?_⟩
   ·exact HFN.out.1.kept (s9.heap (by omega) (by omega))
   ·exact HFN.out.2.1.kept (s9.heap (by omega) (by omega))
   ·exact s9.bel HFN.out.2.2 (by omega) (by omega)
  | true =>
   obtain⟨⟨x0,x1,x2,x3⟩,_⟩:=BX.out w1 hb1
   by_cases hes:es=[]
   ·have hl0:((es.length:Int) == 0)=true:=by simp [hes]
    have hie:es.isEmpty=true:=by simp [hes]
    clear hes
    obtain rfl:es=AR:=by have:=HAR.out;rw [HGT.out] at this;exact this.symm
    obtain rfl:ms=AH:=by have:=HAH.out;rw [HGT.out] at this;exact this.symm
    obtain rfl:qpp.headM []=AM:=by have:=HAM.out;rw [HGT.out] at this;exact this.symm
    obtain rfl:GD=false:=HGT.out
    have hcq:=CP.out w1 hb1
    clear HAR HAH HAM HGD HGT
    obtain⟨⟨x0,x1,x2,x3⟩,_⟩:=BX.out w1 hb1
    go_wp2_with (go_at_call 118;fail)
    clear x0 x1 x2 x3
    refine hcq.mono ?_
    rintro e wz ⟨g,h,rfl,hg,hh,hgh,oe,om,hbz⟩
    have hBz:=fl.bt hb1 hbz
    obtain⟨_,⟨z0,z1,z2,z3⟩,⟨y0,y1,y2,y3,y4⟩,⟨f0,f1,f2,f3⟩,e0,e1,e2,e3,e4⟩:=BX.out wz hBz
    have hsx:=hb1.size
    have HFN:Hid (OwnO flM.c 5 48 wz g 0 es es.length/\OwnO flH.c 7 102 wz h 0 ms ms.length/\Below w.heap.size w wz):=⟨of_own oe,of_own om,hWb.trans (hBz.mono hWb.size)⟩
    clear hcq oe om hbz hBz
    go_wp2
    refine bodyPost_ret (v:=.tuple #[.agg #[.string nm,.int .i64 nx,.slice (some ⟨g,0,none⟩) es.length es.length,.slice (some ⟨h,0,none⟩) ms.length ms.length],.agg #[.int .i64 0,.string ⟨#[]⟩,.string ⟨#[]⟩,.string ⟨#[]⟩,.bool false],.bool false]) (by simp [results,Tryz.results65,go_sem,z0,z1,z2,z3,y0,y1,y2,y3,y4]) rfl ⟨g,_,h,_,rfl,by omega,by omega,hgh,?_,?_,?_⟩
    ·exact HFN.out.1.kept (s9.heap (by omega) (by omega))
    ·exact HFN.out.2.1.kept (s9.heap (by omega) (by omega))
    ·exact s9.bel HFN.out.2.2 (by omega) (by omega)
   ·have hl0:((es.length:Int) == 0)=false:=by simp [hes]
    have hie:es.isEmpty=false:=by simp [hes]
    obtain⟨⟨q,x,y,z,ag⟩,h0,hr0,hrt⟩:∃ r0,es[0]?=some r0/\qpp.headM es=r0/\es=r0 :: es.tail:=by
     cases es with
     | nil=>exact absurd rfl hes
     | cons r l=>exact⟨r,rfl,rfl,rfl⟩
    have HH0:Hid (es[0]?=some ⟨q,x,y,z,ag⟩/\qpp.headM es=⟨q,x,y,z,ag⟩/\es=⟨q,x,y,z,ag⟩ :: es.tail):=⟨h0,hr0,hrt⟩
    clear hes h0 hr0 hrt
    have HOK:Hid (qk.OkQ nm nx es ms):=okB_true.1 hob
    have hln:=HOK.out.ln
    have hop:=open_of nm nx es ms a0 b0 ec bc w1 HF.out.ns HF.out.el HF.out.ml HF.out.eb HF.out.mb (HE.out.inn hb1) (HB.out.inn hb1)
    go_wp2_with (go_at_call 139;fail)
    refine hop.mono ?_
    rintro e w2 ⟨hb,g,h,rfl,hsg,om,hh,hhb⟩
    have hb2:=hsg.bel
    have hB2:=fl.bt hb1 hb2
    have HOM:Hid (Own flH.c 7 102 w2 h ms ms.length):=om
    have hhB:w1.heap.size <= hb:=hsg.hbB
    have hgB:w1.heap.size <= g:=hsg.gB
    have hbl2:hb<w2.heap.size:=(Array.getElem?_eq_some_iff.1 hsg.box).1
    have hhl2:=om.lt
    have hhw1:w1.heap.size <= h:=hh
    have hgh:h≠g:=by
     obtain⟨cur,hc1,_⟩:=om
     obtain⟨cur',hc2,_⟩:=hsg.row
     rintro rfl
     rw [hc1] at hc2
     simp at hc2
    have hfr:=first_run w1 ⟨nm,nx,some ⟨h,0,none⟩,ms.length,ms.length⟩ hb g es.length es ⟨q,x,y,z,ag⟩ w2 hsg HH0.out.1 (by omega) (sorted_heap HOK.out.ru)
    clear hop x0 x1 x2 x3 hsg om hl0
    go_wp2_with (go_at_call 140;fail)
    refine hfr.mono ?_
    rintro e w3 ⟨rfl,M,hMp,hMh,hsg3,hkq3⟩
    have om3:Own flH.c 7 102 w3 h ms ms.length:=HOM.out.kept (hkq3.block h hhl2 hgh hhb)
    have hs23:=hkq3.size
    have hal:=fl.bl w3 (.cells #[.int .i64 t,.int .i64 o,.int .i64 q,.string x,.string y,.string z,.bool ag] 102)
    have hN:=bnew w3 #[.int .i64 t,.int .i64 o,.int .i64 q,.string x,.string y,.string z,.bool ag] 102
    have omV:=om3.below hal om3.lt
    have sgV:=hsg3.on hal
    obtain⟨V,hV⟩:∃ V,w3.alloc (.cells #[.int .i64 t,.int .i64 o,.int .i64 q,.string x,.string y,.string z,.bool ag] 102)=V:=⟨_,rfl⟩
    have hVs:V.heap.size=w3.heap.size+1:=by rw [<- hV];simp
    rw [hV] at hal hN omV sgV
    have HN:Hid (V.heap[w3.heap.size]?=some (.cells #[.int .i64 t,.int .i64 o,.int .i64 q,.string x,.string y,.string z,.bool ag] 102 (0,0))):=hN
    have HOMV:Hid (Own flH.c 7 102 V h ms ms.length):=omV
    have HSGV:Hid (SG w1 hb ⟨nm,nx,some ⟨h,0,none⟩,ms.length,ms.length⟩ g es.length M V):=sgV
    have HMP:Hid ((⟨q,x,y,z,ag⟩ :: M).Perm es):=hMp
    have HMH:Hid (hp.Heap less M M.length):=hMh
    have hse:=sch.search_held ms h ms.length t o q x y z ag V.drew HF.out.ml ((sch.rh_of omV.lt omV.row).below ((Below.refl _ _).drew)) (qpp.mon_ok HOK.out _)
    have v3:V.cell? ⟨hb,3,none⟩=some (.slice (some ⟨h,0,none⟩) ms.length ms.length):=bcell sgV.box rfl
    obtain⟨m0,m1,m2,m3,m4,m5,m6⟩:=fl.q7 hN
    have hb13:Below w1.heap.size w1 V:=sgV.bel
    clear hfr hMp hMh hsg3 hkq3 om3 hN omV sgV HOM
    go_wp2
    clear hV
    go_region_with (go_at_call 141;refine hse.mono ?_;rintro e w4 ⟨⟨p,bf,rfl,hpos,hbf⟩,hb4⟩)
    all_goals
     replace hb4:Below V.heap.size V w4:=(Below.drew (Below.refl _ V)).trans hb4
     clear hbf
     have HPS:Hid (sch.PosH ms ⟨t,o,⟨q,x,y,z,ag⟩⟩ p):=hpos
     have hple:=hpos.le
     have hsg4:=HSGV.out.on hb4
     have om4:=HOMV.out.below hb4 HOMV.out.lt
     have hN4:=bstay HN.out hb4 (by omega)
     have hB4:Below W.heap.size W w4:=(hb1.trans (hb13.mono hb1.size)).trans (hb4.mono (by have:=hb13.size;have:=hb1.size;omega))
     have u3:w4.cell? ⟨hb,3,none⟩=some (.slice (some ⟨h,0,none⟩) ms.length ms.length):=bcell hsg4.box rfl
     have HS4:Hid (SG w1 hb ⟨nm,nx,some ⟨h,0,none⟩,ms.length,ms.length⟩ g es.length M w4):=hsg4
     have HO4:Hid (Own flH.c 7 102 w4 h ms ms.length):=om4
     have HN4:Hid (w4.heap[w3.heap.size]?=some (.cells #[.int .i64 t,.int .i64 o,.int .i64 q,.string x,.string y,.string z,.bool ag] 102 (0,0))):=hN4
     clear hse v3 m0 m1 m2 m3 m4 m5 m6 hpos HSGV HOMV HN hsg4
     obtain⟨m0,m1,m2,m3,m4,m5,m6⟩:=fl.q7 hN4
     by_cases hpl:p<ms.length
     ·have i2:(p:Int)<(ms.length:Int):=by omega
      have d2:decide ((p:Int)<(ms.length:Int))=true:=by simpa using i2
      have HG:Hid (ms[p]?=some ms[p]):=List.getElem?_eq_getElem hpl
      obtain⟨hd,he⟩:∃ e,ms[p]=e:=⟨_,rfl⟩
      rw [he] at HG
      obtain⟨_,c1,_⟩:=(sch.rh_of om4.lt om4.row).2 p hd HG.out
      clear he om4 hN4
      by_cases hoo:hd.o=o
      ·have q1:(hd.o == o)=true:=by simpa using hoo
       have hla:ms.any (qpp.late o t)=true:=(qpp.late_iff HOK.out HPS.out).2 ⟨hd,HG.out,hoo⟩
       clear hoo
       obtain rfl:es=AR:=by have:=HAR.out;rw [HGT.out] at this;exact this.symm
       obtain rfl:ms=AH:=by have:=HAH.out;rw [HGT.out] at this;exact this.symm
       obtain rfl:qpp.headM []=AM:=by have:=HAM.out;rw [HGT.out] at this;exact this.symm
       obtain rfl:GD=false:=HGT.out
       have hcq:=CP.out w4 hB4
       clear HAR HAH HAM HGD HGT
       obtain⟨⟨x0,x1,x2,x3⟩,_⟩:=BX.out w4 hB4
       go_wp2_with (go_at_call 118;fail)
       clear x0 x1 x2 x3
       refine hcq.mono ?_
       rintro e wz ⟨g,h,rfl,hg,hh,hgh,oe,om,hbz⟩
       have hBz:=fl.bt hB4 hbz
       obtain⟨_,⟨z0,z1,z2,z3⟩,⟨y0,y1,y2,y3,y4⟩,⟨f0,f1,f2,f3⟩,e0,e1,e2,e3,e4⟩:=BX.out wz hBz
       have hsx:=hB4.size
       have HFN:Hid (OwnO flM.c 5 48 wz g 0 es es.length/\OwnO flH.c 7 102 wz h 0 ms ms.length/\Below w.heap.size w wz):=⟨of_own oe,of_own om,hWb.trans (hBz.mono hWb.size)⟩
       clear hcq oe om hbz hBz
       go_wp2
       refine bodyPost_ret (v:=.tuple #[.agg #[.string nm,.int .i64 nx,.slice (some ⟨g,0,none⟩) es.length es.length,.slice (some ⟨h,0,none⟩) ms.length ms.length],.agg #[.int .i64 0,.string ⟨#[]⟩,.string ⟨#[]⟩,.string ⟨#[]⟩,.bool false],.bool false]) (by simp [results,Tryz.results65,go_sem,z0,z1,z2,z3,y0,y1,y2,y3,y4]) rfl ⟨g,_,h,_,rfl,by omega,by omega,hgh,?_,?_,?_⟩
       ·exact HFN.out.1.kept (s9.heap (by omega) (by omega))
       ·exact HFN.out.2.1.kept (s9.heap (by omega) (by omega))
       ·exact s9.bel HFN.out.2.2 (by omega) (by omega)
      ·have q1:(hd.o == o)=false:=by simpa using hoo
       have hla:ms.any (qpp.late o t)=false:=by
        cases hh:ms.any (qpp.late o t) with
        | false=>rfl
        | true=>obtain⟨a,h1,h2⟩:=(qpp.late_iff HOK.out HPS.out).1 hh;rw [HG.out] at h1;cases h1;exact absurd h2 hoo
       clear hoo
       exact absurd (HGT.out.symm.trans HGD.out.symm) (by simp [hie,hla])
     ·have hpe:p=ms.length:=by omega
      have i2:¬ (p:Int)<(ms.length:Int):=by omega
      have d2:decide ((p:Int)<(ms.length:Int))=false:=by simpa using i2
      have hla:ms.any (qpp.late o t)=false:=by
       cases hh:ms.any (qpp.late o t) with
       | false=>rfl
       | true=>obtain⟨a,h1,h2⟩:=(qpp.late_iff HOK.out HPS.out).1 hh;have:=(List.getElem?_eq_some_iff.1 h1).1;omega
      clear om4 hN4
      exact absurd (HGT.out.symm.trans HGD.out.symm) (by simp [hie,hla])
end Go.Proofs.YteoojodkkjepeaaGreat.qoi
