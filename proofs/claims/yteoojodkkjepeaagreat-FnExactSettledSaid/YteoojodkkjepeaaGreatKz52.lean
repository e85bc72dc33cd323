/- SetQueue. -/
import Derived.Test.YteoojodkkjepeaaGreatKz51
import Derived.Test.YteoojodkkjepeaaGreatKz44
set_option maxRecDepth 100000
set_option maxHeartbeats 8000000
set_option linter.unusedVariables false
namespace Go.Proofs.YteoojodkkjepeaaGreat.sqi
open ChangeShapes WideShapes ChangeAt RowKit fl fo qit qst qpu qpo qop qcl qsp qdp qpi qhn qdi qbk qri
theorem settled_one (nm:ByteArray) (nx:Int) (es:List flM.Ms) (ms:List flH.Hd) (a0 b0 ec bc:Nat) (w:World) (F:Fit nm es ms) (hob:okB nm nx es ms=true) (hE:Row flM.c 5 w w.heap.size (some ⟨a0,0,none⟩) es) (hB:Row flH.c 7 w w.heap.size (some ⟨b0,0,none⟩) ms) :
  Calls Tryz.prog 74 #[.agg #[.string nm,.int .i64 nx,.slice (some ⟨a0,0,none⟩) es.length ec,.slice (some ⟨b0,0,none⟩) ms.length bc]] w fun e w'=>PD w nm nx (backs es ms) [] ms.length e w':=by
 obtain ⟨W,hW,hWb,hA,hR,hzz⟩:=fl.bx2 w #[.string nm,.int .i64 nx,.slice (some ⟨a0,0,none⟩) es.length ec,.slice (some ⟨b0,0,none⟩) ms.length bc] #[.string ⟨#[]⟩,.int .i64 0,.slice none 0 0,.slice none 0 0] 68 68
 have hWs:W.heap.size=w.heap.size+2:=by omega
 clear hzz
 have HA:Hid (W.heap[w.heap.size]?=some (.cells #[.string nm,.int .i64 nx,.slice (some ⟨a0,0,none⟩) es.length ec,.slice (some ⟨b0,0,none⟩) ms.length bc] 68 (0,0))):=hA
 have HR:Hid (W.heap[w.heap.size+1]?=some (.cells #[.string ⟨#[]⟩,.int .i64 0,.slice none 0 0,.slice none 0 0] 68 (0,0))):=hR
 have HE:Hid (Row flM.c 5 W W.heap.size (some ⟨a0,0,none⟩) es):=hE.inn hWb
 have HB:Hid (Row flH.c 7 W W.heap.size (some ⟨b0,0,none⟩) ms):=hB.inn hWb
 have HF:Hid (Fit nm es ms):=F
 have BX:Hid (∀ V,Below W.heap.size W V->(V.cell? ⟨w.heap.size,0,none⟩=some (.string nm)/\V.cell? ⟨w.heap.size,1,none⟩=some (.int .i64 nx)/\V.cell? ⟨w.heap.size,2,none⟩=some (.slice (some ⟨a0,0,none⟩) es.length ec)/\V.cell? ⟨w.heap.size,3,none⟩=some (.slice (some ⟨b0,0,none⟩) ms.length bc))/\(V.cell? ⟨w.heap.size+1,0,none⟩=some (.string ⟨#[]⟩)/\V.cell? ⟨w.heap.size+1,1,none⟩=some (.int .i64 0)/\V.cell? ⟨w.heap.size+1,2,none⟩=some (.slice none 0 0)/\V.cell? ⟨w.heap.size+1,3,none⟩=some (.slice none 0 0))/\V.frozen? ⟨w.heap.size+1,0,none⟩=false/\V.frozen? ⟨w.heap.size+1,1,none⟩=false/\V.frozen? ⟨w.heap.size+1,2,none⟩=false/\V.frozen? ⟨w.heap.size+1,3,none⟩=false):=fun V hV=>by
  have a:=bstay HA.out hV (by omega)
  have r:=bstay HR.out hV (by omega)
  exact ⟨⟨bcell a rfl,bcell a rfl,bcell a rfl,bcell a rfl⟩,⟨bcell r rfl,bcell r rfl,bcell r rfl,bcell r rfl⟩,bfree r 0,bfree r 1,bfree r 2,bfree r 3⟩
 obtain ⟨AR,hAR⟩:∃ AR,backs es ms=AR:=⟨_,rfl⟩
 have HAR:Hid (backs es ms=AR):=hAR
 have HOK:Hid (qk.OkQ nm nx es ms):=okB_true.1 hob
 have hln:=HOK.out.ln
 have hop:=open_of nm nx es ms a0 b0 ec bc W HF.out.ns HF.out.el HF.out.ml HF.out.eb HF.out.mb HE.out HB.out
 rw [hAR]
 obtain ⟨⟨x0,x1,x2,x3⟩,_,_⟩:=BX.out W (Below.refl _ _)
 clear hE hB hA hR F hAR hob
 go_enter Tryz.func74,Tryz.ntmps74
 go_wp2_with (go_at_call 139; fail)
 clear hW x0 x1 x2 x3
 refine hop.mono ?_
 rintro e w2 ⟨hb,g,h,rfl,hsg,om,hh,hhb⟩
 have hb2:=hsg.bel
 have hhB:W.heap.size <= hb:=hsg.hbB
 have hbl2:hb < w2.heap.size:=(Array.getElem?_eq_some_iff.1 hsg.box).1
 have hhl:=om.lt
 have hsg3:SG W hb ⟨nm,nx,none,0,0⟩ g es.length es (w2.setCell ⟨hb,3,none⟩ (.slice none 0 0)):=sg_held hsg (Below.refl _ _)
 have HR0:Hid (qsb.RS W hb ⟨nm,nx,none,0,0⟩ g es h ms 0 es (w2.setCell ⟨hb,3,none⟩ (.slice none 0 0))):=⟨SN.of hsg3,sorted_heap HOK.out.ru,by simp,fun _=>⟨hsg3,rfl⟩,(of_own om).kept (Below.heap_setCell _ _ _ _ hhb),hhb⟩
 have y3:w2.cell? ⟨hb,3,none⟩=some (.slice (some ⟨h,0,none⟩) ms.length ms.length):=bcell hsg.box rfl
 have yf:=bfree hsg.box 3
 have hpb:=qsb.set_back W hb ⟨nm,nx,none,0,0⟩ g es h ms.length ms _ HR0 (by omega)
 clear hop hsg om hsg3
 go_wp2_with (go_at_call 147; fail)
 clear y3 yf
 refine hpb.mono ?_
 rintro e wr ⟨rfl,M,hR⟩
 have hk:ms.length <= ms.length:=Nat.le_refl _
 have HML:Hid (M.length=es.length+ms.length):=hR.out.len hk
 clear hpb HR0
 obtain ⟨g5,cap5,hsg5⟩:=hR.out.open hk
 have hcl:=closed_run W ⟨nm,nx,none,0,0⟩ hb g5 cap5 M wr hsg5 (by have:=HML.out; omega) hR.out.hp
 have hb13:=hsg5.bel
 have hg5B:=hsg5.gB
 have HPM:Hid (M.Perm (backs es ms)):=by
  have h1:=hR.out.pm
  rw [List.take_length] at h1
  exact h1.trans (backs_perm es ms).symm
 clear hR hsg5
 go_wp2_with (go_at_call 143; fail)
 refine hcl.mono ?_
 rintro e w6 ⟨R,gr,cr,rfl,hRp,hRs,hRo,hkq⟩
 have hRe:R=backs es ms:=sort_uniq (hRp.trans HPM.out) hRs (of_up (qsb.ok_all HOK.out))
 obtain rfl:AR=R:=by rw [hRe]; exact HAR.out.symm
 have hb16:Below W.heap.size W w6:=⟨hkq.os.trans hb13.os,hkq.tape.trans hb13.tape,hkq.output.trans hb13.output,Nat.le_trans hb13.size hkq.size,fun q hq=>(hkq.block q (Nat.lt_of_lt_of_le hq hb13.size) (by omega) (by omega)).trans (hb13.block q hq)⟩
 have hgr:wr.heap.size <= gr/\gr < w6.heap.size:=hRo.lt gr rfl
 have hs12:=hb13.size
 have hs36:=hkq.size
 have HFN:Hid (OwnO flM.c 5 48 w6 gr 0 AR AR.length/\Below w.heap.size w w6):=⟨owns_ownO flM.c_len hRo,hWb.trans (hb16.mono hWb.size)⟩
 obtain ⟨_,⟨z0,z1,z2,z3⟩,f0,f1,f2,f3⟩:=BX.out w6 hb16
 clear hcl hRp hRs hRo hkq hb16 hb13 HOK hRe HPM HAR HML
 go_wp2
 refine bodyPost_ret (v:=.tuple #[.agg #[.string nm,.int .i64 nx,.slice (some ⟨gr,0,none⟩) AR.length cr,.slice none 0 0],.int .i64 ms.length]) (by simp [results,Tryz.results74,go_sem,z0,z1,z2,z3]) rfl ⟨gr,_,w.heap.size,_,_,rfl,by omega,by omega,by omega,by simp only [World.size_setCell]; omega,?_,.inl rfl,?_⟩
 ·exact ((((HFN.out.1).kept (Below.heap_setCell _ _ _ _ (by show gr ≠ w.heap.size+1; omega))).kept (Below.heap_setCell _ _ _ _ (by show gr ≠ w.heap.size+1; omega))).kept (Below.heap_setCell _ _ _ _ (by show gr ≠ w.heap.size+1; omega))).kept (Below.heap_setCell _ _ _ _ (by show gr ≠ w.heap.size+1; omega))
 ·exact (((HFN.out.2.setCell (by show w.heap.size <= w.heap.size+1; omega) _).setCell (by show w.heap.size <= w.heap.size+1; omega) _).setCell (by show w.heap.size <= w.heap.size+1; omega) _).setCell (by show w.heap.size <= w.heap.size+1; omega) _
end Go.Proofs.YteoojodkkjepeaaGreat.sqi
