/- StreamOkSpec, CoreBase, SpecUnbind. -/
import Derived.Test.YtaoefccgdfcchaaGreatKq20
import Derived.Test.YtaoefccgdfcchaaGreatKq16
import Derived.Test.YtaoefccgdfcchaaGreatKq21
import Derived.Test.YtaoefccgdfcchaaGreatKq23
import Derived.Test.YtaoefccgdfcchaaGreatKq24
import Derived.Test.YtaoefccgdfcchaaGreatKq11
import Derived.Test.YtaoefccgdfcchaaGreatKq12
import Derived.Test.YtaoefccgdfcchaaGreatKq10
import Derived.Test.YtaoefccgdfcchaaGreatKq13
set_option maxRecDepth 100000
set_option maxHeartbeats 8000000
set_option linter.unusedVariables false
namespace Go.Proofs.YtaoefccgdfcchaaGreat.sts
open ChangeShapes WideShapes ChangeAt RowKit fl rc rr rf st
theorem spec_ok (sn:ByteArray) (lo nx:Int) (es:List flY.En) (ms:List Ex) (g h cg ch:Nat) (w:World) (F:Fit sn es ms) (hY:RY w g es) (hE:RE w h ms) :
  Calls Tryz.prog 45 #[.agg #[.string sn,.int .i64 lo,.int .i64 nx,.slice (some ⟨g,0,none⟩) es.length cg,.slice (some ⟨h,0,none⟩) ms.length ch]] w fun e w'=>e=.returned (.bool (okB sn lo nx es ms))/\Below w.heap.size w w':=by
 have hb:=fl.bl w (.cells #[.string sn,.int .i64 lo,.int .i64 nx,.slice (some ⟨g,0,none⟩) es.length cg,.slice (some ⟨h,0,none⟩) ms.length ch] 54)
 have hA:=bnew w #[.string sn,.int .i64 lo,.int .i64 nx,.slice (some ⟨g,0,none⟩) es.length cg,.slice (some ⟨h,0,none⟩) ms.length ch] 54
 have hlt:w.heap.size < (w.alloc (.cells #[.string sn,.int .i64 lo,.int .i64 nx,.slice (some ⟨g,0,none⟩) es.length cg,.slice (some ⟨h,0,none⟩) ms.length ch] 54)).heap.size:=by simp
 have HY:Hid (RY (w.alloc (.cells #[.string sn,.int .i64 lo,.int .i64 nx,.slice (some ⟨g,0,none⟩) es.length cg,.slice (some ⟨h,0,none⟩) ms.length ch] 54)) g es):=hY.below hb
 have HE:Hid (RE (w.alloc (.cells #[.string sn,.int .i64 lo,.int .i64 nx,.slice (some ⟨g,0,none⟩) es.length cg,.slice (some ⟨h,0,none⟩) ms.length ch] 54)) h ms):=hE.below hb
 obtain ⟨W,hW⟩:∃ W,w.alloc (.cells #[.string sn,.int .i64 lo,.int .i64 nx,.slice (some ⟨g,0,none⟩) es.length cg,.slice (some ⟨h,0,none⟩) ms.length ch] 54)=W:=⟨_,rfl⟩
 rw [hW] at hb hA HY HE hlt
 have BOX:Hid (∀ wr,Below W.heap.size W wr->wr.cell? ⟨w.heap.size,0,none⟩=some (.string sn)/\wr.cell? ⟨w.heap.size,1,none⟩=some (.int .i64 lo)/\wr.cell? ⟨w.heap.size,2,none⟩=some (.int .i64 nx)/\wr.cell? ⟨w.heap.size,3,none⟩=some (.slice (some ⟨g,0,none⟩) es.length cg)/\wr.cell? ⟨w.heap.size,4,none⟩=some (.slice (some ⟨h,0,none⟩) ms.length ch)):=fun wr hr=>by
  have h1:=bstay hA hr hlt
  exact ⟨bcell h1 rfl,bcell h1 rfl,bcell h1 rfl,bcell h1 rfl,bcell h1 rfl⟩
 obtain ⟨c0,c1,c2,c3,c4⟩:=BOX.out W (Below.refl _ _)
 have kn:=fun W=>nm.spec_name sn W F.ns
 have hel:=F.el
 have hml:=F.ml
 have HF:Hid (Fit sn es ms):=F
 have hno:∀ {p:Prop},(OkT sn lo nx es ms->p)->¬ p->okB sn lo nx es ms=false:=fun h1 h2=>okB_no (fun h=>h2 (h1 h))
 obtain ⟨ob,hob⟩:∃ ob,okB sn lo nx es ms=ob:=⟨_,rfl⟩
 rw [hob] at hno ⊢
 have HNO:Hid (∀ {p:Prop},(OkT sn lo nx es ms->p)->¬ p->ob=false):=hno
 have HYES:Hid (OkT sn lo nx es ms->ob=true):=fun h=>by rw [<- hob]; exact okB_true.2 h
 clear hY hE hA F hob
 cases q1:nm.good sn with
 | false =>
  obtain rfl:=hno (fun h=>h.nmk) (by rw [q1]; simp)
  simp only [q1] at kn
  clear hno HNO HYES
  go_enter Tryz.func45,Tryz.ntmps45
  go_wp2_with (go_at_call 91; refine (kn _).mono ?_; rintro e w0 ⟨rfl,hw0⟩; rw [<- hw0]; clear hw0 w0)
  go_ret
  exact ⟨rfl,hb⟩
 | true =>
  simp only [q1] at kn
  by_cases q2:0 <= nx/\nx <= 1000000000
  rotate_left
  ·have f0:decide (0 <= nx/\nx <= 1000000000)=false:=decide_eq_false q2
   obtain rfl:=hno (fun h=>h.nx0) q2
   clear hno HNO HYES
   go_enter Tryz.func45,Tryz.ntmps45
   go_wp2_with (first | (go_at_call 91; refine (kn _).mono ?_; rintro e w0 ⟨rfl,hw0⟩; rw [<- hw0]; clear hw0 w0) | (go_at_call 92; refine (ky.within _ _ _ _).mono ?_; rintro e w0 ⟨rfl,hw0⟩; rw [<- hw0]; clear hw0 w0; try rw [f0]))
   go_ret
   exact ⟨rfl,hb⟩
  have f0:decide (0 <= nx/\nx <= 1000000000)=true:=decide_eq_true q2
  by_cases q3:0 <= lo/\lo <= nx
  rotate_left
  ·have f1:decide (0 <= lo/\lo <= nx)=false:=decide_eq_false q3
   obtain rfl:=hno (fun h=>h.lo0) q3
   clear hno HNO HYES
   go_enter Tryz.func45,Tryz.ntmps45
   go_wp2_with (first | (go_at_call 91; refine (kn _).mono ?_; rintro e w0 ⟨rfl,hw0⟩; rw [<- hw0]; clear hw0 w0) | (go_at_call 92; refine (ky.within _ _ _ _).mono ?_; rintro e w0 ⟨rfl,hw0⟩; rw [<- hw0]; clear hw0 w0; try rw [f0]; try rw [f1]))
   go_ret
   exact ⟨rfl,hb⟩
  have f1:decide (0 <= lo/\lo <= nx)=true:=decide_eq_true q3
  have i4:IntKind.i64.wrap (nx - lo)=nx - lo:=by rw [IntKind.wrap_i64]; omega
  by_cases q4:nx - lo=(es.length:Int)
  rotate_left
  ·have f2:((es.length:Int) != nx - lo)=true:=by simpa using (fun h=>q4 h.symm)
   obtain rfl:=hno (fun h=>h.len.symm) q4
   clear hno HNO HYES
   go_enter Tryz.func45,Tryz.ntmps45
   go_wp2_with (first | (go_at_call 91; refine (kn _).mono ?_; rintro e w0 ⟨rfl,hw0⟩; rw [<- hw0]; clear hw0 w0) | (go_at_call 92; refine (ky.within _ _ _ _).mono ?_; rintro e w0 ⟨rfl,hw0⟩; rw [<- hw0]; clear hw0 w0; try rw [f0]; try rw [f1]))
   go_ret
   exact ⟨rfl,hb⟩
  have f2:((es.length:Int) != nx - lo)=false:=by simpa using q4.symm
  by_cases q5:es.length <= 400
  rotate_left
  ·have f3:decide ((400:Int) < (es.length:Int))=true:=by simp; omega
   obtain rfl:=hno (fun h=>h.el) q5
   clear hno HNO HYES
   go_enter Tryz.func45,Tryz.ntmps45
   go_wp2_with (first | (go_at_call 91; refine (kn _).mono ?_; rintro e w0 ⟨rfl,hw0⟩; rw [<- hw0]; clear hw0 w0) | (go_at_call 92; refine (ky.within _ _ _ _).mono ?_; rintro e w0 ⟨rfl,hw0⟩; rw [<- hw0]; clear hw0 w0; try rw [f0]; try rw [f1]))
   go_ret
   exact ⟨rfl,hb⟩
  have f3:decide ((400:Int) < (es.length:Int))=false:=by simp; omega
  by_cases q6:ms.length <= 20
  rotate_left
  ·have f4:decide ((20:Int) < (ms.length:Int))=true:=by simp; omega
   obtain rfl:=hno (fun h=>h.ml) q6
   clear hno HNO HYES
   go_enter Tryz.func45,Tryz.ntmps45
   go_wp2_with (first | (go_at_call 91; refine (kn _).mono ?_; rintro e w0 ⟨rfl,hw0⟩; rw [<- hw0]; clear hw0 w0) | (go_at_call 92; refine (ky.within _ _ _ _).mono ?_; rintro e w0 ⟨rfl,hw0⟩; rw [<- hw0]; clear hw0 w0; try rw [f0]; try rw [f1]))
   go_ret
   exact ⟨rfl,hb⟩
  have f4:decide ((20:Int) < (ms.length:Int))=false:=by simp; omega
  clear hno
  have HQ:Hid ((0 <= nx/\nx <= 1000000000)/\(0 <= lo/\lo <= nx)/\(es.length:Int)=nx - lo/\es.length <= 400/\ms.length <= 20):=⟨q2,q3,q4.symm,q5,q6⟩
  have l0:0 <= lo:=q3.1
  have l1:lo <= 1000000000:=by omega
  go_enter Tryz.func45,Tryz.ntmps45
  go_wp2_with (first | (go_at_call 91; refine (kn _).mono ?_; rintro e w0 ⟨rfl,hw0⟩; rw [<- hw0]; clear hw0 w0) | (go_at_call 92; refine (ky.within _ _ _ _).mono ?_; rintro e w0 ⟨rfl,hw0⟩; rw [<- hw0]; clear hw0 w0; try rw [f0]; try rw [f1]))
  clear hW c0 c1 c2 c3 c4 kn f0 f1 f2 f3 f4 q2 q3 q4 i4
  go_loopw [3,4] (fun v _ wr=>∃ k:Nat,k <= es.length/\v=.int .i64 k/\Hid (GoodY lo es k)/\Below W.heap.size W wr) (fun v _ _=>es.length - (intOf v).toNat)
  case atStart=>exact ⟨0,Nat.zero_le _,rfl,goodY_zero lo es,Below.refl _ _⟩
  case round =>
   obtain ⟨k,hk,rfl,hgood,hbel⟩:=hrel
   have hbsz:=hbel.size
   obtain ⟨c0,c1,c2,c3,c4⟩:=BOX.out wr hbel
   by_cases hkl:k < es.length
   ·have g0:es[k]?=some es[k]:=List.getElem?_eq_getElem hkl
    have hsz:=HF.out.eb es[k] (List.getElem_mem hkl)
    obtain ⟨a0,a1,a2⟩:=(HY.out.below hbel).2 k _ g0
    have HG:Hid (es[k]?=some es[k]):=g0
    obtain ⟨⟨eo,et,eb⟩,he⟩:∃ e,es[k]=e:=⟨_,rfl⟩
    rw [he] at a0 a1 a2 HG hsz
    have hsz':eb.size <= 1048576:=hsz
    have hbX:Below W.heap.size W (wr.alloc (.cells #[.int .i64 eo,.int .i64 et,.string eb] 134)):=hbel.alloc hbsz _
    have hx1:=bnew wr #[.int .i64 eo,.int .i64 et,.string eb] 134
    have hxl:wr.heap.size < (wr.alloc (.cells #[.int .i64 eo,.int .i64 et,.string eb] 134)).heap.size:=by simp
    obtain ⟨X1,hX1⟩:∃ X1,wr.alloc (.cells #[.int .i64 eo,.int .i64 et,.string eb] 134)=X1:=⟨_,rfl⟩
    rw [hX1] at hbX hx1 hxl
    have x0:∀ N:qi.Cls X1,N.x.cell? ⟨wr.heap.size,0,none⟩=some (.int .i64 eo):=fun N=>bcell (bstay hx1 N.h hxl) rfl
    have x1:∀ N:qi.Cls X1,N.x.cell? ⟨wr.heap.size,1,none⟩=some (.int .i64 et):=fun N=>bcell (bstay hx1 N.h hxl) rfl
    have x2:∀ N:qi.Cls X1,N.x.cell? ⟨wr.heap.size,2,none⟩=some (.string eb):=fun N=>bcell (bstay hx1 N.h hxl) rfl
    have r1:∀ N:qi.Cls X1,N.x.cell? ⟨w.heap.size,1,none⟩=some (.int .i64 lo):=fun N=>(BOX.out N.x (hbX.trans (Below.mono N.h hbX.size))).2.1
    have r3:∀ N:qi.Cls X1,N.x.cell? ⟨w.heap.size,3,none⟩=some (.slice (some ⟨g,0,none⟩) es.length cg):=fun N=>(BOX.out N.x (hbX.trans (Below.mono N.h hbX.size))).2.2.2.1
    have kin:=fun N:qi.Cls X1=>rk.in' et 0 1000000000 N
    have i2:(k:Int) < (es.length:Int):=by omega
    have i3:IntKind.i64.wrap (lo+(k:Int))=lo+(k:Int):=by rw [IntKind.wrap_i64]; omega
    have hbadp:Hid (¬ enOk lo k ⟨eo,et,eb⟩->ob=false):=fun hh=>HNO.out (fun h=>h.eo k _ HG.out) hh
    clear g0 he hx1
    by_cases p1:lo+(k:Int)=eo
    rotate_left
    ·have u1:(eo != lo+(k:Int))=true:=by simpa using (fun h=>p1 h.symm)
     obtain rfl:=hbadp.out (fun h=>p1 h.1.symm)
     clear hbadp HNO HYES
     go_wp2
     refine qi.region_in X1 (qi.T.refl X1) (by kernel_rfl) (by kernel_rfl) ?_
     repeat (go_big_quiet_step (first | (go_at_call 92; refine (kin _).mono ?_; rintro e wx ⟨rfl,hTx⟩; exact ⟨rfl,⟨wx,hTx⟩,rfl⟩)))
     refine wpQuiet_nil ?_
     rintro _ ⟨N,rfl⟩
     have hN:=N.h
     generalize N.x=wN at hN ⊢
     clear N kin x0 x1 x2 r1 r3
     have hbN:Below W.heap.size W wN:=hbX.trans (Below.mono hN hbX.size)
     go_wp2
     go_ret
     exact ⟨rfl,hb.trans (hbN.mono hb.size)⟩
    have u1:(eo != lo+(k:Int))=false:=by simpa using p1.symm
    by_cases p2:0 <= et/\et <= 1000000000
    rotate_left
    ·have u2:decide ((0:Int) <= et/\et <= 1000000000)=false:=decide_eq_false p2
     simp only [u2] at kin
     obtain rfl:=hbadp.out (fun h=>p2 ⟨h.2.1,h.2.2.1⟩)
     clear p2 hbadp HNO HYES u2
     go_wp2
     refine qi.region_in X1 (qi.T.refl X1) (by kernel_rfl) (by kernel_rfl) ?_
     repeat (go_big_quiet_step (first | (go_at_call 92; refine (kin _).mono ?_; rintro e wx ⟨rfl,hTx⟩; exact ⟨rfl,⟨wx,hTx⟩,rfl⟩)))
     refine wpQuiet_nil ?_
     rintro _ ⟨N,rfl⟩
     have hN:=N.h
     generalize N.x=wN at hN ⊢
     clear N kin x0 x1 x2 r1 r3
     have hbN:Below W.heap.size W wN:=hbX.trans (Below.mono hN hbX.size)
     go_wp2
     go_ret
     exact ⟨rfl,hb.trans (hbN.mono hb.size)⟩
    have u2:decide ((0:Int) <= et/\et <= 1000000000)=true:=decide_eq_true p2
    simp only [u2] at kin
    by_cases p3:eb.size <= 3000
    rotate_left
    ·have u3:decide ((3000:Int) < (eb.size:Int))=true:=by simp; omega
     obtain rfl:=hbadp.out (fun h=>p3 h.2.2.2)
     clear p2 hbadp HNO HYES u2
     go_wp2
     refine qi.region_in X1 (qi.T.refl X1) (by kernel_rfl) (by kernel_rfl) ?_
     repeat (go_big_quiet_step (first | (go_at_call 92; refine (kin _).mono ?_; rintro e wx ⟨rfl,hTx⟩; exact ⟨rfl,⟨wx,hTx⟩,rfl⟩)))
     refine wpQuiet_nil ?_
     rintro _ ⟨N,rfl⟩
     have hN:=N.h
     generalize N.x=wN at hN ⊢
     clear N kin x0 x1 x2 r1 r3
     have hbN:Below W.heap.size W wN:=hbX.trans (Below.mono hN hbX.size)
     go_wp2
     go_ret
     exact ⟨rfl,hb.trans (hbN.mono hb.size)⟩
    have u3:decide ((3000:Int) < (eb.size:Int))=false:=by simp; omega
    have hen:enOk lo k ⟨eo,et,eb⟩:=⟨p1.symm,p2.1,p2.2,p3⟩
    clear hbadp u2
    by_cases hk0:k=0
    ·subst hk0
     have hnext:Hid (GoodY lo es (0+1)):=goodY_next hgood.out HG.out hen (fun p h=>absurd rfl h)
     have u1':(eo != lo)=false:=by simpa using u1
     have i3':IntKind.i64.wrap lo=lo:=by simpa using i3
     clear hen p2 p1
     go_wp2
     refine qi.region_in X1 (qi.T.refl X1) (by kernel_rfl) (by kernel_rfl) ?_
     repeat (go_big_quiet_step (first | (go_at_call 92; refine (kin _).mono ?_; rintro e wx ⟨rfl,hTx⟩; exact ⟨rfl,⟨wx,hTx⟩,rfl⟩)))
     refine wpQuiet_nil ?_
     rintro _ ⟨N,rfl⟩
     have hN:=N.h
     generalize N.x=wN at hN ⊢
     clear N kin x0 x1 x2 r1 r3
     have hbN:Below W.heap.size W wN:=hbX.trans (Below.mono hN hbX.size)
     go_wp2
     go_roundw
     case rel=>exact ⟨0+1,by omega,by go_num,hnext,hbN⟩
     case measure=>simp [intOf]; omega
    obtain ⟨m,rfl⟩:∃ m,k=m+1:=⟨k - 1,by omega⟩
    have g1:es[m]?=some es[m]:=List.getElem?_eq_getElem (by omega)
    obtain ⟨d0,d1,d2⟩:=(HY.out.below hbX).2 m _ g1
    have HG1:Hid (es[m]?=some es[m]):=g1
    obtain ⟨⟨po,pt,pb⟩,hpe⟩:∃ e,es[m]=e:=⟨_,rfl⟩
    rw [hpe] at d0 d1 d2 HG1
    have hgeX:=(HY.out.below hbX).1
    have P1:∀ N:qi.Cls X1,N.x.cell? ⟨g,m*3+1,none⟩=some (.int .i64 pt):=fun N=>(Below.cell N.h (p:=⟨g,m*3+1,none⟩) hgeX).trans d1
    have j1:IntKind.i64.wrap (m:Int)=(m:Int):=by rw [IntKind.wrap_i64]; omega
    have j2:(m:Int) < (es.length:Int):=by omega
    have j3:((m+1:Nat):Int)=(m:Int)+1:=by omega
    rw [j3] at u1 i3 p1
    clear j3
    clear g1 hpe d0 d1 d2
    by_cases p4:pt <= et
    rotate_left
    ·have u4:decide (et < pt)=true:=by simp; omega
     obtain rfl:=HNO.out (fun h=>h.eu m _ _ HG1.out HG.out) (by show ¬ pt <= et; omega)
     clear hen p2 HNO HYES
     go_wp2
     refine qi.region_in X1 (qi.T.refl X1) (by kernel_rfl) (by kernel_rfl) ?_
     repeat (go_big_quiet_step (first | (go_at_call 92; refine (kin _).mono ?_; rintro e wx ⟨rfl,hTx⟩; exact ⟨rfl,⟨wx,hTx⟩,rfl⟩)))
     refine wpQuiet_nil ?_
     rintro _ ⟨N,rfl⟩
     have hN:=N.h
     generalize N.x=wN at hN ⊢
     clear N kin x0 x1 x2 r1 r3 P1
     have hbN:Below W.heap.size W wN:=hbX.trans (Below.mono hN hbX.size)
     go_wp2
     go_ret
     exact ⟨rfl,hb.trans (hbN.mono hb.size)⟩
    have u4:decide (et < pt)=false:=by simp; omega
    have hnext:Hid (GoodY lo es (m+1+1)):=goodY_next hgood.out HG.out hen (fun p _ hp=>by
     have hp2:es[m]?=some p:=hp
     rw [HG1.out] at hp2
     cases hp2
     exact p4)
    clear hen p2
    go_wp2
    refine qi.region_in X1 (qi.T.refl X1) (by kernel_rfl) (by kernel_rfl) ?_
    repeat (go_big_quiet_step (first | (go_at_call 92; refine (kin _).mono ?_; rintro e wx ⟨rfl,hTx⟩; exact ⟨rfl,⟨wx,hTx⟩,rfl⟩)))
    refine wpQuiet_nil ?_
    rintro _ ⟨N,rfl⟩
    have hN:=N.h
    generalize N.x=wN at hN ⊢
    clear N kin x0 x1 x2 r1 r3 P1
    have hbN:Below W.heap.size W wN:=hbX.trans (Below.mono hN hbX.size)
    go_wp2
    go_roundw
    case rel=>exact ⟨m+1+1,by omega,by go_num,hnext,hbN⟩
    case measure=>simp [intOf]; omega
   ·obtain rfl:k=es.length:=by omega
    have HGY:Hid (GoodY lo es es.length):=hgood
    clear hgood
    go_wp2
    clear c0 c1 c2 c3 c4
    go_loopw [5,6] (fun v _ wq=>∃ k:Nat,k <= ms.length/\v=.int .i64 k/\Hid (GoodK nx ms k)/\Below W.heap.size W wq) (fun v _ _=>ms.length - (intOf v).toNat)
    case atStart=>exact ⟨0,Nat.zero_le _,rfl,goodK_zero nx ms,hbel⟩
    case round =>
     clear hbel hbsz
     obtain ⟨k,hk,rfl,hgood,hbel⟩:=hrel
     have hbsz:=hbel.size
     obtain ⟨c0,c1,c2,c3,c4⟩:=BOX.out wr hbel
     by_cases hkl:k < ms.length
     ·have g0:ms[k]?=some ms[k]:=List.getElem?_eq_getElem hkl
      have hsz:=HF.out.mb ms[k] (List.getElem_mem hkl)
      obtain ⟨a0,a1⟩:=(HE.out.below hbel).2 k _ g0
      have HG:Hid (ms[k]?=some ms[k]):=g0
      obtain ⟨⟨mn,mo⟩,he⟩:∃ e,ms[k]=e:=⟨_,rfl⟩
      rw [he] at a0 a1 HG hsz
      have hbX:Below W.heap.size W (wr.alloc (.cells #[.string mn,.int .i64 mo] 136)):=hbel.alloc hbsz _
      have hx1:=bnew wr #[.string mn,.int .i64 mo] 136
      have hxl:wr.heap.size < (wr.alloc (.cells #[.string mn,.int .i64 mo] 136)).heap.size:=by simp
      obtain ⟨X1,hX1⟩:∃ X1,wr.alloc (.cells #[.string mn,.int .i64 mo] 136)=X1:=⟨_,rfl⟩
      rw [hX1] at hbX hx1 hxl
      have x0:∀ N:qi.Cls X1,N.x.cell? ⟨wr.heap.size,0,none⟩=some (.string mn):=fun N=>bcell (bstay hx1 N.h hxl) rfl
      have x1:∀ N:qi.Cls X1,N.x.cell? ⟨wr.heap.size,1,none⟩=some (.int .i64 mo):=fun N=>bcell (bstay hx1 N.h hxl) rfl
      have x2:True:=trivial
      have r1:∀ N:qi.Cls X1,N.x.cell? ⟨w.heap.size,2,none⟩=some (.int .i64 nx):=fun N=>(BOX.out N.x (hbX.trans (Below.mono N.h hbX.size))).2.2.1
      have r3:∀ N:qi.Cls X1,N.x.cell? ⟨w.heap.size,4,none⟩=some (.slice (some ⟨h,0,none⟩) ms.length ch):=fun N=>(BOX.out N.x (hbX.trans (Below.mono N.h hbX.size))).2.2.2.2
      have kq:=fun N:qi.Cls X1=>rk.name' mn hsz N
      have kin:=fun N:qi.Cls X1=>rk.in' mo 0 nx N
      have i2:(k:Int) < (ms.length:Int):=by omega
      have hbadp:Hid (¬ mkOk nx ⟨mn,mo⟩->ob=false):=fun hh=>HNO.out (fun h=>h.mo k _ HG.out) hh
      clear g0 he hx1
      cases p1:nm.good mn with
      | false =>
       simp only [p1] at kq
       obtain rfl:=hbadp.out (fun h=>by have h2:nm.good mn=true:=h.1; rw [p1] at h2; cases h2)
       clear hbadp HNO HYES
       go_wp2
       refine qi.region_in X1 (qi.T.refl X1) (by kernel_rfl) (by kernel_rfl) ?_
       repeat (go_big_quiet_step (first | (go_at_call 91; refine (kq _).mono ?_; rintro e wx ⟨rfl,hTx⟩; exact ⟨rfl,⟨wx,hTx⟩,rfl⟩) | (go_at_call 92; refine (kin _).mono ?_; rintro e wx ⟨rfl,hTx⟩; exact ⟨rfl,⟨wx,hTx⟩,rfl⟩)))
       refine wpQuiet_nil ?_
       rintro _ ⟨N,rfl⟩
       have hN:=N.h
       generalize N.x=wN at hN ⊢
       clear N kin kq x0 x1 x2 r1 r3
       have hbN:Below W.heap.size W wN:=hbX.trans (Below.mono hN hbX.size)
       go_wp2
       go_ret
       exact ⟨rfl,hb.trans (hbN.mono hb.size)⟩
      | true =>
      simp only [p1] at kq
      by_cases p2:0 <= mo/\mo <= nx
      rotate_left
      ·have u2:decide ((0:Int) <= mo/\mo <= nx)=false:=decide_eq_false p2
       simp only [u2] at kin
       obtain rfl:=hbadp.out (fun h=>p2 h.2)
       clear p2 hbadp HNO HYES u2
       go_wp2
       refine qi.region_in X1 (qi.T.refl X1) (by kernel_rfl) (by kernel_rfl) ?_
       repeat (go_big_quiet_step (first | (go_at_call 91; refine (kq _).mono ?_; rintro e wx ⟨rfl,hTx⟩; exact ⟨rfl,⟨wx,hTx⟩,rfl⟩) | (go_at_call 92; refine (kin _).mono ?_; rintro e wx ⟨rfl,hTx⟩; exact ⟨rfl,⟨wx,hTx⟩,rfl⟩)))
       refine wpQuiet_nil ?_
       rintro _ ⟨N,rfl⟩
       have hN:=N.h
       generalize N.x=wN at hN ⊢
       clear N kin kq x0 x1 x2 r1 r3
       have hbN:Below W.heap.size W wN:=hbX.trans (Below.mono hN hbX.size)
       go_wp2
       go_ret
       exact ⟨rfl,hb.trans (hbN.mono hb.size)⟩
      have u2:decide ((0:Int) <= mo/\mo <= nx)=true:=decide_eq_true p2
      simp only [u2] at kin
      have hmk:mkOk nx ⟨mn,mo⟩:=⟨p1,p2⟩
      clear hbadp u2
      by_cases hk0:k=0
      ·subst hk0
       have hnext:Hid (GoodK nx ms (0+1)):=goodK_next hgood.out HG.out hmk (fun p h=>absurd rfl h)
       clear hmk p2
       go_wp2
       refine qi.region_in X1 (qi.T.refl X1) (by kernel_rfl) (by kernel_rfl) ?_
       repeat (go_big_quiet_step (first | (go_at_call 91; refine (kq _).mono ?_; rintro e wx ⟨rfl,hTx⟩; exact ⟨rfl,⟨wx,hTx⟩,rfl⟩) | (go_at_call 92; refine (kin _).mono ?_; rintro e wx ⟨rfl,hTx⟩; exact ⟨rfl,⟨wx,hTx⟩,rfl⟩)))
       refine wpQuiet_nil ?_
       rintro _ ⟨N,rfl⟩
       have hN:=N.h
       generalize N.x=wN at hN ⊢
       clear N kin kq x0 x1 x2 r1 r3
       have hbN:Below W.heap.size W wN:=hbX.trans (Below.mono hN hbX.size)
       go_wp2
       go_roundw
       case rel=>exact ⟨0+1,by omega,by go_num,hnext,hbN⟩
       case measure=>simp [intOf]; omega
      obtain ⟨m,rfl⟩:∃ m,k=m+1:=⟨k - 1,by omega⟩
      have g1:ms[m]?=some ms[m]:=List.getElem?_eq_getElem (by omega)
      obtain ⟨d0,d1⟩:=(HE.out.below hbX).2 m _ g1
      have HG1:Hid (ms[m]?=some ms[m]):=g1
      obtain ⟨⟨pn,po⟩,hpe⟩:∃ e,ms[m]=e:=⟨_,rfl⟩
      rw [hpe] at d0 d1 HG1
      have hgeX:=(HE.out.below hbX).1
      have P1:∀ N:qi.Cls X1,N.x.cell? ⟨h,m*2,none⟩=some (.string pn):=fun N=>(Below.cell N.h (p:=⟨h,m*2,none⟩) hgeX).trans d0
      have j1:IntKind.i64.wrap (m:Int)=(m:Int):=by rw [IntKind.wrap_i64]; omega
      have j2:(m:Int) < (ms.length:Int):=by omega
      clear g1 hpe d0 d1
      cases p4:(Op.bytesLess mn.toList pn.toList || mn.toList == pn.toList) with
      | true =>
       obtain rfl:=HNO.out (fun h=>ro.cmp_neg.1 (h.mu m _ _ (by omega) HG1.out HG.out)) (fun hl=>by
        have h2:=ro.above.2 hl
        have h3:(lt mn pn || mn.toList == pn.toList)=true:=p4
        rw [h2] at h3
        cases h3)
       clear hmk p2 HNO HYES
       go_wp2
       refine qi.region_in X1 (qi.T.refl X1) (by kernel_rfl) (by kernel_rfl) ?_
       repeat (go_big_quiet_step (first | (go_at_call 91; refine (kq _).mono ?_; rintro e wx ⟨rfl,hTx⟩; exact ⟨rfl,⟨wx,hTx⟩,rfl⟩) | (go_at_call 92; refine (kin _).mono ?_; rintro e wx ⟨rfl,hTx⟩; exact ⟨rfl,⟨wx,hTx⟩,rfl⟩)))
       refine wpQuiet_nil ?_
       rintro _ ⟨N,rfl⟩
       have hN:=N.h
       generalize N.x=wN at hN ⊢
       clear N kin kq x0 x1 x2 r1 r3 P1
       have hbN:Below W.heap.size W wN:=hbX.trans (Below.mono hN hbX.size)
       go_wp2
       go_ret
       exact ⟨rfl,hb.trans (hbN.mono hb.size)⟩
      | false =>
      have hnext:Hid (GoodK nx ms (m+1+1)):=goodK_next hgood.out HG.out hmk (fun p _ hp=>by
       have hp2:ms[m]?=some p:=hp
       rw [HG1.out] at hp2
       cases hp2
       exact ro.above.1 p4)
      clear hmk p2
      go_wp2
      refine qi.region_in X1 (qi.T.refl X1) (by kernel_rfl) (by kernel_rfl) ?_
      repeat (go_big_quiet_step (first | (go_at_call 91; refine (kq _).mono ?_; rintro e wx ⟨rfl,hTx⟩; exact ⟨rfl,⟨wx,hTx⟩,rfl⟩) | (go_at_call 92; refine (kin _).mono ?_; rintro e wx ⟨rfl,hTx⟩; exact ⟨rfl,⟨wx,hTx⟩,rfl⟩)))
      refine wpQuiet_nil ?_
      rintro _ ⟨N,rfl⟩
      have hN:=N.h
      generalize N.x=wN at hN ⊢
      clear N kin kq x0 x1 x2 r1 r3 P1
      have hbN:Below W.heap.size W wN:=hbX.trans (Below.mono hN hbX.size)
      go_wp2
      go_roundw
      case rel=>exact ⟨m+1+1,by omega,by go_num,hnext,hbN⟩
      case measure=>simp [intOf]; omega
     ·obtain rfl:k=ms.length:=by omega
      obtain rfl:=HYES.out ⟨q1,HQ.out.1,HQ.out.2.1,HQ.out.2.2.1,HQ.out.2.2.2.1,HQ.out.2.2.2.2,(goodY_all HGY.out (Nat.le_refl _)).1,(goodY_all HGY.out (Nat.le_refl _)).2,fun i m hm=>hgood.out.1 i m (List.getElem?_eq_some_iff.1 hm).1 hm,hgood.out.2⟩
      go_wp2
      go_ret
      exact ⟨rfl,hb.trans (hbel.mono hb.size)⟩
end Go.Proofs.YtaoefccgdfcchaaGreat.sts
namespace Go.Proofs.YtaoefccgdfcchaaGreat.cb
open ChangeShapes WideShapes ChangeAt RowKit rc rr ra rt ro fl co
structure Fit (es:List Ex) (bs:List Bi) (qs:List qu.E) (ts:List su.E):Prop where
 el:es.length <= 1048576
 bl:bs.length <= 1048576
 ql:qs.length <= 1048576
 tl:ts.length <= 1048576
 eb:∀ e ∈ es,e.n.size <= 1048576
 bb:∀ b ∈ bs,b.x.size <= 1048576/\b.k.size <= 1048576/\b.q.size <= 1048576
 qf:∀ e ∈ qs,qsp.Fit e.nm e.rs e.hs
 tf:∀ e ∈ ts,st.Fit e.nm e.rs e.hs
theorem fit {es:List Ex} {bs:List Bi} {qs:List qu.E} {ts:List su.E} (h:es.length+bulkE es+bs.length+bulkB bs+qs.length+bulk qu.wt qs+ts.length+bulk su.wt ts <= 1048576):Fit es bs qs ts:=by
 refine ⟨by omega,by omega,by omega,by omega,fun e he=>?_,fun e he=>?_,fun e he=>?_,fun e he=>?_⟩
 ·have h1:e.n.size <= bulkE es:=bulkE_le he
  omega
 ·have h1:e.x.size+e.k.size+e.q.size <= bulkB bs:=bulkB_le he
  omega
 ·have h1:e.nm.size+e.rs.length+bulk flM.wt e.rs+e.hs.length+bulk flH.wt e.hs <= bulk qu.wt qs:=bulk_le qu.wt he
  refine ⟨by omega,by omega,by omega,fun m hm=>?_,fun m hm=>?_⟩
  ·have h2:m.x.size+m.k.size+m.b.size <= bulk flM.wt e.rs:=bulk_le flM.wt hm
   omega
  ·have h2:m.m.x.size+m.m.k.size+m.m.b.size <= bulk flH.wt e.hs:=bulk_le flH.wt hm
   omega
 ·have h1:e.nm.size+e.rs.length+bulk flY.wt e.rs+e.hs.length+bulk flK.wt e.hs <= bulk su.wt ts:=bulk_le su.wt he
  exact st.fit (by omega)
structure Same (qs ks:List qu.E) (ts us:List su.E):Prop where
 ql:ks.length=qs.length
 tl:us.length=ts.length
 q:∀ (k:Nat) (r s:qu.E),ks[k]?=some r->qs[k]?=some s->qu.same r s
 t:∀ (k:Nat) (r s:su.E),us[k]?=some r->ts[k]?=some s->su.same r s
section
variable {es:List Ex} {bs:List Bi} {qs ks:List qu.E} {ts us:List su.E}
theorem Same.flip (h:Same qs ks ts us):Same ks qs us ts:=⟨h.ql.symm,h.tl.symm,fun k r s hr hs=>by obtain ⟨a,b,c,d⟩:=h.q k s r hs hr; exact ⟨a.symm,b.symm,c.symm,d.symm⟩,fun k r s hr hs=>by obtain ⟨a,b,c,d,e⟩:=h.t k s r hs hr; exact ⟨a.symm,b.symm,c.symm,d.symm,e.symm⟩⟩
theorem Same.q_at (h:Same qs ks ts us) {i:Nat} {e:qu.E} (he:qs[i]?=some e):∃ r,ks[i]?=some r/\qu.same r e:=by
 have hi:=(List.getElem?_eq_some_iff.1 he).1
 have hi2:i < ks.length:=by have:=h.ql; omega
 have hr:ks[i]?=some ks[i]:=List.getElem?_eq_getElem hi2
 exact ⟨_,hr,h.q i _ _ hr he⟩
theorem Same.t_at (h:Same qs ks ts us) {i:Nat} {e:su.E} (he:ts[i]?=some e):∃ r,us[i]?=some r/\su.same r e:=by
 have hi:=(List.getElem?_eq_some_iff.1 he).1
 have hi2:i < us.length:=by have:=h.tl; omega
 have hr:us[i]?=some us[i]:=List.getElem?_eq_getElem hi2
 exact ⟨_,hr,h.t i _ _ hr he⟩
theorem ok_imp (h:Same qs ks ts us) (ok:OkC es bs ks us):OkC es bs qs ts:=by
 refine ⟨⟨fun i e hi he=>?_,fun i a b hi ha hb=>?_⟩,⟨fun i e hi he=>?_,fun i a b hi ha hb=>?_⟩,ok.r,by rw [<- h.ql]; exact ok.ql,by rw [<- h.tl]; exact ok.tl⟩
 ·obtain ⟨r,hr,h1,h2,h3,h4⟩:=h.q_at he
  have:=ok.q.1 i r (List.getElem?_eq_some_iff.1 hr).1 hr
  rw [h1,h2,h3,h4] at this
  refine ⟨this.1,fun hp=>this.2 ?_⟩
  obtain ⟨t,a,ha,hn⟩:=su.place_there.1 hp
  obtain ⟨a',ha',g1,_⟩:=h.t_at ha
  exact su.place_there.2 ⟨t,a',ha',g1.trans hn⟩
 ·obtain ⟨a',ha',h1,_⟩:=h.q_at ha
  obtain ⟨b',hb',h2,_⟩:=h.q_at hb
  have:=ok.q.2 i a' b' (List.getElem?_eq_some_iff.1 hb').1 ha' hb'
  rwa [h1,h2] at this
 ·obtain ⟨r,hr,h1,h2,h3,h4,h5⟩:=h.t_at he
  have:=ok.t.1 i r (List.getElem?_eq_some_iff.1 hr).1 hr
  rwa [h1,h2,h3,h4,h5] at this
 ·obtain ⟨a',ha',h1,_⟩:=h.t_at ha
  obtain ⟨b',hb',h2,_⟩:=h.t_at hb
  have:=ok.t.2 i a' b' (List.getElem?_eq_some_iff.1 hb').1 ha' hb'
  rwa [h1,h2] at this
theorem ok_same (h:Same qs ks ts us):okC es bs ks us=okC es bs qs ts:=by
 cases h1:okC es bs qs ts with
 | true=>exact okC_true.2 (ok_imp h.flip (okC_true.1 h1))
 | false=>exact okC_no fun h2=>by have:=okC_true.2 (ok_imp h h2); rw [h1] at this; cases this
theorem same_of {w:World} {B ge gb gq gt:Nat} (h:Cg w B es bs qs ts ge gb gq gt ks us):Same qs ks ts us:=⟨h.hq.len,h.ht.len,fun k r s hr hs=>h.hq.same k r s (List.getElem?_eq_some_iff.1 hs).1 hr hs,fun k r s hr hs=>h.ht.same k r s (List.getElem?_eq_some_iff.1 hs).1 hr hs⟩
theorem mem_at {α:Type} {l:List α} {e:α} (h:e ∈ l):∃ i:Nat,l[i]?=some e:=List.mem_iff_getElem?.1 h
theorem fit_same (F:Fit es bs qs ts) (h:Same qs ks ts us):Fit es bs ks us:=by
 refine ⟨F.el,F.bl,by rw [h.ql]; exact F.ql,by rw [h.tl]; exact F.tl,F.eb,F.bb,fun e he=>?_,fun e he=>?_⟩
 ·obtain ⟨i,hi⟩:=mem_at he
  obtain ⟨r,hr,h1,h2,h3,h4⟩:=h.flip.q_at hi
  have:=F.qf r (List.mem_iff_getElem?.2 ⟨i,hr⟩)
  rwa [h1,h3,h4] at this
 ·obtain ⟨i,hi⟩:=mem_at he
  obtain ⟨r,hr,h1,h2,h3,h4,h5⟩:=h.flip.t_at hi
  have:=F.tf r (List.mem_iff_getElem?.2 ⟨i,hr⟩)
  rwa [h1,h4,h5] at this
end
theorem ans_ok {n:ByteArray} {nx:Int} {rs:List flM.Ms} {hs:List flH.Hd} {r:Ending} (h:qks.Ans n nx rs hs r):r=.returned (.bool (qsp.okB n nx rs hs)):=by
 obtain ⟨b,rfl,hb⟩:=h
 rw [qsp.okB_of hb]
theorem kq_spec {es:List Ex} {bs:List Bi} {qs:List qu.E} {ts:List su.E} {w:World} (F:Fit es bs qs ts) (hV:∀ r ∈ qs,Row flM.c 5 w w.heap.size r.ra r.rs/\Row flH.c 7 w w.heap.size r.ha r.hs):∀ r ∈ qs,∀ V,Below w.heap.size w V->Calls Tryz.prog 44 #[.agg #[.string r.nm,.int .i64 r.nx,.slice r.ra r.rs.length r.rc,.slice r.ha r.hs.length r.hc]] V fun e w'=>e=.returned (.bool (qsp.okB r.nm r.nx r.rs r.hs))/\Below V.heap.size V w':=fun r hr V hb=>by
 have f:=F.qf r hr
 exact (qks.spec_ok r.nm r.nx r.rs r.hs r.ra r.ha r.rc r.hc V f.ns f.el f.ml f.eb f.mb ((hV r hr).1.inn hb) ((hV r hr).2.inn hb)).mono fun e w' ⟨h1,h2⟩=>⟨ans_ok h1,h2⟩
theorem kq_impl {es:List Ex} {bs:List Bi} {qs:List qu.E} {ts:List su.E} {w:World} (F:Fit es bs qs ts) (hV:∀ r ∈ qs,Row flM.c 5 w w.heap.size r.ra r.rs/\Row flH.c 7 w w.heap.size r.ha r.hs):∀ r ∈ qs,∀ V,Below w.heap.size w V->Calls Tryz.prog 59 #[.agg #[.string r.nm,.int .i64 r.nx,.slice r.ra r.rs.length r.rc,.slice r.ha r.hs.length r.hc]] V fun e w'=>e=.returned (.bool (qsp.okB r.nm r.nx r.rs r.hs))/\Below V.heap.size V w':=fun r hr V hb=>by
 have f:=F.qf r hr
 exact (qki.impl_ok r.nm r.nx r.rs r.hs r.ra r.ha r.rc r.hc V f.ns f.el f.ml f.eb f.mb ((hV r hr).1.inn hb) ((hV r hr).2.inn hb)).mono fun e w' ⟨h1,h2⟩=>⟨ans_ok h1,h2⟩
def At (w:World) (r:su.E):Prop:=∃ g h,r.ra=some ⟨g,0,none⟩/\r.ha=some ⟨h,0,none⟩/\st.RY w g r.rs/\RE w h r.hs
theorem At.below {w w':World} {r:su.E} (a:At w r) (hb:Below w.heap.size w w'):At w' r:=by
 obtain ⟨g,h,h1,h2,h3,h4⟩:=a
 exact ⟨g,h,h1,h2,h3.below hb,h4.below hb⟩
theorem at_mine {w:World} {B:Nat} {r:su.E} (m:su.Mine w B r):At w r:=by
 obtain ⟨g,h,h1,h2,_,_,_,h5,h6,_⟩:=m
 exact ⟨g,h,h1,h2,st.ry_own h5,st.re_own h6⟩
theorem at_so {w:World} {B g:Nat} {l ks:List su.E} (so:su.So w B g l ks l.length):∀ r ∈ ks,At w r:=fun r hr=>by
 obtain ⟨j,hj⟩:=mem_at hr
 exact at_mine (so.mine j r (by have:=(List.getElem?_eq_some_iff.1 hj).1; have:=so.len; omega) hj)
theorem kt_spec {es:List Ex} {bs:List Bi} {qs:List qu.E} {ts:List su.E} {w:World} (F:Fit es bs qs ts) (hV:∀ r ∈ ts,At w r):∀ r ∈ ts,∀ V,Below w.heap.size w V->Calls Tryz.prog 45 #[.agg #[.string r.nm,.int .i64 r.lo,.int .i64 r.nx,.slice r.ra r.rs.length r.rc,.slice r.ha r.hs.length r.hc]] V fun e w'=>e=.returned (.bool (st.okB r.nm r.lo r.nx r.rs r.hs))/\Below V.heap.size V w':=fun r hr V hb=>by
 obtain ⟨g,h,h1,h2,h3,h4⟩:=(hV r hr).below hb
 rw [h1,h2]
 exact sts.spec_ok r.nm r.lo r.nx r.rs r.hs g h r.rc r.hc V (F.tf r hr) h3 h4
theorem kt_impl {es:List Ex} {bs:List Bi} {qs:List qu.E} {ts:List su.E} {w:World} (F:Fit es bs qs ts) (hV:∀ r ∈ ts,At w r):∀ r ∈ ts,∀ V,Below w.heap.size w V->Calls Tryz.prog 60 #[.agg #[.string r.nm,.int .i64 r.lo,.int .i64 r.nx,.slice r.ra r.rs.length r.rc,.slice r.ha r.hs.length r.hc]] V fun e w'=>e=.returned (.bool (st.okB r.nm r.lo r.nx r.rs r.hs))/\Below V.heap.size V w':=fun r hr V hb=>by
 obtain ⟨g,h,h1,h2,h3,h4⟩:=(hV r hr).below hb
 rw [h1,h2]
 exact sti.impl_ok r.nm r.lo r.nx r.rs r.hs g h r.rc r.hc V (F.tf r hr) h3 h4
theorem kr_spec {es:List Ex} {bs:List Bi} {qs:List qu.E} {ts:List su.E} {w:World} (F:Fit es bs qs ts) (ge gb ec bc:Nat) (hE:RE w ge es) (hB:RB w gb bs):∀ V,Below w.heap.size w V->Calls Tryz.prog 46 #[.agg #[.slice (some ⟨ge,0,none⟩) es.length ec,.slice (some ⟨gb,0,none⟩) bs.length bc]] V fun e w'=>e=.returned (.bool (okR es bs))/\Below V.heap.size V w':=fun V hb =>
 (rk.spec_routes es bs ge ec gb bc V F.el F.bl F.eb F.bb (hE.below hb) (hB.below hb)).mono fun e w' ⟨⟨b,h1,h2⟩,h3⟩=>⟨by rw [h1,okR_of h2],h3⟩
theorem kr_impl {es:List Ex} {bs:List Bi} {qs:List qu.E} {ts:List su.E} {w:World} (F:Fit es bs qs ts) (ge gb ec bc:Nat) (hE:RE w ge es) (hB:RB w gb bs):∀ V,Below w.heap.size w V->Calls Tryz.prog 54 #[.agg #[.slice (some ⟨ge,0,none⟩) es.length ec,.slice (some ⟨gb,0,none⟩) bs.length bc]] V fun e w'=>e=.returned (.bool (okR es bs))/\Below V.heap.size V w':=fun V hb =>
 (ri.impl_routes es bs ge ec gb bc V F.el F.bl F.eb F.bb (hE.below hb) (hB.below hb)).mono fun e w' ⟨⟨b,h1,h2⟩,h3⟩=>⟨by rw [h1,okR_of h2],h3⟩
theorem spec_ok {es:List Ex} {bs:List Bi} {qs ks:List qu.E} {ts us:List su.E} {w:World} {B ge gb gq gt:Nat} (ec bc qc tc:Nat) (F:Fit es bs qs ts) (h:Cg w B es bs qs ts ge gb gq gt ks us) :
  Calls Tryz.prog 17 #[.agg #[.slice (some ⟨ge,0,none⟩) es.length ec,.slice (some ⟨gb,0,none⟩) bs.length bc,.slice (some ⟨gq,0,none⟩) qs.length qc,.slice (some ⟨gt,0,none⟩) ts.length tc]] w fun e w'=>e=.returned (.bool (okC es bs qs ts))/\Below w.heap.size w w':=by
 have F2:=fit_same F (same_of h)
 have hq:=h.hq.v
 have ht:=h.ht.v
 have k:=(cos.spec_ok es bs ks us _ _ _ _ ec bc qc tc w F2.ql F2.tl hq.1 ht.1 (kq_spec F2 hq.2) (kt_spec F2 (at_so h.ht)) (kr_spec F2 ge gb ec bc h.he.all h.hb.all))
 rw [ok_same (same_of h),h.hq.len,h.ht.len] at k
 exact k
theorem impl_ok {es:List Ex} {bs:List Bi} {qs ks:List qu.E} {ts us:List su.E} {w:World} {B ge gb gq gt:Nat} (ec bc qc tc:Nat) (F:Fit es bs qs ts) (h:Cg w B es bs qs ts ge gb gq gt ks us) :
  Calls Tryz.prog 22 #[.agg #[.slice (some ⟨ge,0,none⟩) es.length ec,.slice (some ⟨gb,0,none⟩) bs.length bc,.slice (some ⟨gq,0,none⟩) qs.length qc,.slice (some ⟨gt,0,none⟩) ts.length tc]] w fun e w'=>e=.returned (.bool (okC es bs qs ts))/\Below w.heap.size w w':=by
 have F2:=fit_same F (same_of h)
 have hq:=h.hq.v
 have ht:=h.ht.v
 have k:=(coi.impl_ok es bs ks us _ _ gq gt ec bc qc tc w F2.ql F2.tl (qu.r_of hq.1 h.hq.own.lt) (su.r_of ht.1 h.ht.own.lt) (kq_impl F2 hq.2) (kt_impl F2 (at_so h.ht)) (kr_impl F2 ge gb ec bc h.he.all h.hb.all))
 rw [ok_same (same_of h),h.hq.len,h.ht.len] at k
 exact k
end Go.Proofs.YtaoefccgdfcchaaGreat.cb
namespace Go.Proofs.YtaoefccgdfcchaaGreat.db
open ChangeShapes WideShapes ChangeAt RowKit
section
variable {w w1 w2:World} {g:Nat} {r:Option Nat}
theorem gb_refl (w:World) (r:Option Nat):w.grownBy w r:=⟨rfl,rfl,rfl,Nat.le_refl _,fun _ _ _=>rfl⟩
theorem gb_set (h:w.grownBy w1 (some g)) (o:Nat) (v:Value):w.grownBy (w1.setCell ⟨g,o,none⟩ v) (some g):=by
 have hb:Below 0 w1 (w1.setCell ⟨g,o,none⟩ v):=(Below.refl 0 w1).setCell (Nat.zero_le _) v
 exact h.trans ⟨hb.os,hb.tape,hb.output,hb.size,fun k hk hne=>RowKit.Below.heap_setCell _ _ _ _ (by intro e; exact hne (by rw [e]))⟩
end
end Go.Proofs.YtaoefccgdfcchaaGreat.db
namespace Go.Proofs.YtaoefccgdfcchaaGreat.su
open ChangeShapes WideShapes ChangeAt RowKit rr ra rt fl
def cE (e:Ex):List Value:=[.string e.n,.int .i64 e.k]
def cB (e:Bi):List Value:=[.string e.x,.string e.k,.string e.q]
theorem cE_len (e:Ex):(cE e).length=2:=rfl
theorem cB_len (e:Bi):(cB e).length=3:=rfl
section
variable {W W':World}
theorem own_stays {B n m:Nat} {T:TypeId} {v:Value} {xs:List Value} (h:W.ownsRow B T n v m xs) (hb:Below W.heap.size W W'):W'.ownsRow B T n v m xs :=
 h.kept (row:=none) ⟨hb.os,hb.tape,hb.output,hb.size,fun k hk _=>hb.block k hk⟩ (by cases h:v.ownBlock <;> simp)
theorem apart {B n m h:Nat} {T T':TypeId} {v:Value} {xs:List Value} {cur:Array Value} (h1:W.ownsRow B T n v m xs) (h2:W.heap[h]?=some (.cells cur T' (0,0))) (hT:T ≠ T'):v.ownBlock ≠ some h:=by
 intro e
 obtain ⟨_,⟨rfl,_⟩ | ⟨g,cap,c,rfl,_,h3,_⟩⟩:=h1
 ·simp [Value.ownBlock] at e
 ·simp [Value.ownBlock] at e
  subst e
  rw [h2] at h3
  simp at h3
  exact hT h3.2.symm
theorem apartOO {B n m B' n' m':Nat} {T T':TypeId} {v v':Value} {xs xs':List Value} (h1:W.ownsRow B T n v m xs) (h2:W.ownsRow B' T' n' v' m' xs') (hT:T ≠ T'):v.ownBlock=none ∨ v.ownBlock ≠ v'.ownBlock:=by
 obtain ⟨_,⟨rfl,_⟩ | ⟨g,cap,c,rfl,_,h3,_⟩⟩:=h1
 ·exact .inl rfl
 ·refine .inr fun e=>?_
  refine apart h2 h3 (Ne.symm hT) ?_
  rw [<- e]
  rfl
end
theorem infoB:∃ i0,Tryz.prog.info? 138=some i0/\i0.zero=some (.agg #[.string ByteArray.empty,.string ByteArray.empty,.string ByteArray.empty])/\i0.size=3/\i0.bytes=48:=by
 have h:=rt.infoB
 cases hh:Tryz.prog.info? 138 with
 | none=>rw [hh] at h; cases h
 | some i=>rw [hh] at h; simp at h; exact ⟨i,rfl,h.1,h.2.1,h.2.2⟩
theorem infoE:∃ i0,Tryz.prog.info? 137=some i0/\i0.zero=some (.agg #[.string ByteArray.empty,.int .i64 0])/\i0.size=2/\i0.bytes=24:=by
 have h:=rt.infoE
 cases hh:Tryz.prog.info? 137 with
 | none=>rw [hh] at h; cases h
 | some i=>rw [hh] at h; simp at h; exact ⟨i,rfl,h.1,h.2.1,h.2.2⟩
theorem se_row {W:World} {B:Nat} {a:Option Addr} {es:List Ex} (h:Row cE 2 W B a es):SE W B a es:=by
 rcases h with h | ⟨b,off,ha,hlt,hc⟩
 ·exact .inl h
 ·exact .inr ⟨b,off,ha,hlt,fun i e he=>⟨hc i e he 0 _ rfl,hc i e he 1 _ rfl⟩⟩
theorem sb_row {W:World} {B:Nat} {a:Option Addr} {bs:List Bi} (h:Row cB 3 W B a bs):SB W B a bs:=by
 rcases h with h | ⟨b,off,ha,hlt,hc⟩
 ·exact .inl h
 ·exact .inr ⟨b,off,ha,hlt,fun i e he=>⟨hc i e he 0 _ rfl,hc i e he 1 _ rfl,hc i e he 2 _ rfl⟩⟩
end Go.Proofs.YtaoefccgdfcchaaGreat.su
