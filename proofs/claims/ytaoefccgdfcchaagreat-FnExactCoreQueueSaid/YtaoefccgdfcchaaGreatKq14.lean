/- RouteMarks0, RouteMarks, RouteMarksB0, RouteMarksB, RouteOwn0, RouteOwn. -/
import Derived.Test.YtaoefccgdfcchaaGreatKq11
import Derived.Test.YtaoefccgdfcchaaGreatKq01
import Derived.Laws.AppendOwn
import Derived.Test.YtaoefccgdfcchaaGreatKq12
import Derived.Test.YtaoefccgdfcchaaGreatKq13
set_option maxRecDepth 100000
set_option maxHeartbeats 8000000
set_option linter.unusedVariables false
namespace Go.Proofs.YtaoefccgdfcchaaGreat.rm
open ChangeShapes WideShapes ChangeAt RowKit rr ra rt
section
variable {w w1 w2:World} {r:Option Nat} {g:Nat}
theorem gb_refl (w:World) (r:Option Nat):w.grownBy w r:=⟨rfl,rfl,rfl,Nat.le_refl _,fun _ _ _=>rfl⟩
theorem gb_below (h:w.grownBy w1 r) (hb:Below w1.heap.size w1 w2):w.grownBy w2 r:=h.trans ⟨hb.os,hb.tape,hb.output,hb.size,fun k hk _=>hb.block k hk⟩
theorem gb_set (h:w.grownBy w1 (some g)) (o:Nat) (v:Value):w.grownBy (w1.setCell ⟨g,o,none⟩ v) (some g):=by
 have hb:Below 0 w1 (w1.setCell ⟨g,o,none⟩ v):=(Below.refl 0 w1).setCell (Nat.zero_le _) v
 exact h.trans ⟨hb.os,hb.tape,hb.output,hb.size,fun k hk hne=>RowKit.Below.heap_setCell _ _ _ _ (by intro e; exact hne (by rw [e]))⟩
end
theorem anyE {w:World} {g k:Nat} {l l':List Ex} (h:FE w g l k) (hl:l'.length=l.length):FE w g l' 0:=by
 obtain ⟨cur,h1,h2,_⟩:=h
 exact ⟨cur,h1,by omega,fun i e hi=>by omega⟩
def mksE (k0 n:Nat):List Ex:=(List.range n).map fun i=>⟨sm.mt (k0+2*i),((k0+2*i:Nat):Int)+1⟩
theorem mksE_at (k0 n k:Nat) (h:k < n):(mksE k0 n)[k]?=some ⟨sm.mt (k0+2*k),((k0+2*k:Nat):Int)+1⟩:=by simp [mksE,h]
theorem mksE_len (k0 n:Nat):(mksE k0 n).length=n:=by simp [mksE]
theorem mark_exs (n g c k0:Nat) (w:World) (hl:n <= 2000000) (hk0:1 <= k0/\k0 <= 1000000000000) (ha:FE w g (mksE k0 n) 0) :
  Calls Tryz.prog 72 #[.slice (some ⟨g,0,none⟩) n c,.int .i64 k0] w fun e w'=>e=.returned (.int .i64 (k0+2*n:Nat))/\w.grownBy w' (some g)/\FE w' g (mksE k0 n) n:=by
 have HA:Hid (FE w g (mksE k0 n) 0):=ha
 clear ha
 go_enter Tryz.func72,Tryz.ntmps72
 go_wp2
 go_loopw [1,5] (fun y x wr=>∃ k:Nat,k <= n/\x=.int .i64 k/\y=.int .i64 (k0+2*k:Nat)/\w.grownBy wr (some g)/\Hid (FE wr g (mksE k0 n) k)) (fun _ x _=>n - (intOf x).toNat)
 case atStart=>exact ⟨0,Nat.zero_le _,rfl,rfl,gb_refl _ _,HA⟩
 case round =>
  obtain ⟨k,hk,rfl,rfl,hbel,hf⟩:=hrel
  by_cases hkl:k < n
  ·have hg:=mksE_at k0 n k hkl
   obtain ⟨m,hm⟩:∃ m,k0+2*k=m:=⟨_,rfl⟩
   rw [hm] at hg
   rw [hm]
   have hm9:m <= 9000000000000:=by omega
   have HG:Hid ((mksE k0 n)[k]?=some ⟨sm.mt m,(m:Int)+1⟩):=hg
   have HM:Hid (k0+2*k=m):=hm
   have hmt:=fun W=>sm.mark_text m W (by omega) (by omega)
   have hfl:=hf.out.lt
   have hml:=mksE_len k0 n
   have h20:k*2 < (mksE k0 n).length*2:=by omega
   have h21:k*2+1 < (mksE k0 n).length*2:=by omega
   clear hm hg hml
   go_wp2_with (go_at_call 74; refine (hmt _).mono ?_; rintro e w1 ⟨rfl,hb1⟩; have hf1:=hf.out.below hb1 hfl; obtain ⟨v0,g0⟩:=hf1.at (k*2) h20; have z0:=hf1.free (k*2); obtain ⟨v1,g1⟩:=hf1.at (k*2+1) h21; have z1:=hf1.free (k*2+1); have HN:Hid (FE ((w1.setCell ⟨g,k*2,none⟩ (.string (sm.mt m))).setCell ⟨g,k*2+1,none⟩ (.int .i64 ((m:Int)+1))) g (mksE k0 n) (k+1)):=FE.set (e:=⟨sm.mt m,(m:Int)+1⟩) hf1 HG.out; clear hf1)
   go_roundw
   case rel=>exact ⟨k+1,by omega,by go_num,by rw [show k0+2*(k+1)=m+2 by have:=HM.out; omega]; go_num,gb_set (gb_set (gb_below hbel hb1) _ _) _ _,HN⟩
   case measure=>simp [intOf]; omega
  ·obtain rfl:k=n:=by omega
   go_wp2
   go_ret
   exact ⟨rfl,hbel,hf.out⟩
end Go.Proofs.YtaoefccgdfcchaaGreat.rm
namespace Go.Proofs.YtaoefccgdfcchaaGreat.rm
open ChangeShapes WideShapes ChangeAt RowKit rr ra rt
theorem held_exs (n g c k0:Nat) (w:World) (hl:n <= 2000000) (hk0:1 <= k0/\k0 <= 1000000000000) (ha:RE w g (mksE k0 n)) :
  Calls Tryz.prog 79 #[.slice (some ⟨g,0,none⟩) n c,.int .i64 k0] w fun e w'=>e=.returned (.int .i64 (k0+2*n:Nat))/\Below w.heap.size w w':=by
 have HA:Hid (RE w g (mksE k0 n)):=ha
 clear ha
 go_enter Tryz.func79,Tryz.ntmps79
 go_wp2
 go_loopw [1,5] (fun y x wr=>∃ k:Nat,k <= n/\x=.int .i64 k/\y=.int .i64 (k0+2*k:Nat)/\Below w.heap.size w wr) (fun _ x _=>n - (intOf x).toNat)
 case atStart=>exact ⟨0,Nat.zero_le _,rfl,rfl,Below.refl _ _⟩
 case round =>
  obtain ⟨k,hk,rfl,rfl,hbel⟩:=hrel
  by_cases hkl:k < n
  ·have hg:=mksE_at k0 n k hkl
   obtain ⟨m,hm⟩:∃ m,k0+2*k=m:=⟨_,rfl⟩
   rw [hm] at hg
   rw [hm]
   have hm9:m <= 9000000000000:=by omega
   have HM:Hid (k0+2*k=m):=hm
   have hR:=HA.out.below hbel
   obtain ⟨c0,c1⟩:=hR.2 k _ hg
   have hmt:=fun W=>sm.mark_text m W (by omega) (by omega)
   have hlt:=hR.1
   have c0:wr.cell? ⟨g,k*2,none⟩=some (.string (sm.mt m)):=c0
   have c1:wr.cell? ⟨g,k*2+1,none⟩=some (.int .i64 ((m:Int)+1)):=c1
   clear hm hg hR
   go_wp2
   go_region_with (go_at_call 74; refine (hmt _).mono ?_; rintro e w1 ⟨rfl,hb1⟩; have d0:w1.cell? ⟨g,k*2,none⟩=some (.string (sm.mt m)):=(hb1.cell (by exact hlt)).trans c0; have d1:w1.cell? ⟨g,k*2+1,none⟩=some (.int .i64 ((m:Int)+1)):=(hb1.cell (by exact hlt)).trans c1)
   all_goals go_wp2
   all_goals go_roundw
   all_goals first | exact ⟨k+1,by omega,by go_num,by rw [show k0+2*(k+1)=m+2 by have:=HM.out; omega]; go_num,hbel.drew.trans (hb1.mono hbel.size)⟩ | (simp [intOf]; omega)
  ·obtain rfl:k=n:=by omega
   go_wp2
   go_ret
   exact ⟨rfl,hbel⟩
end Go.Proofs.YtaoefccgdfcchaaGreat.rm
namespace Go.Proofs.YtaoefccgdfcchaaGreat.rm
open ChangeShapes WideShapes ChangeAt RowKit rr ra rt
def CB (w:World) (g n:Nat) (f:Nat->Value) (k:Nat):Prop:=∃ cur,w.heap[g]?=some (.cells cur 138 (0,0))/\n <= cur.size/\∀ j,j < k->cur[j]?=some (f j)
theorem CB.at {w:World} {g n k:Nat} {f:Nat->Value} (h:CB w g n f k) (o:Nat) (ho:o < n):∃ v,w.cell? ⟨g,o,none⟩=some v:=by
 obtain ⟨cur,hg,hs,_⟩:=h
 exact ⟨cur[o]'(by omega),by simp [World.cell?,hg,Array.getElem?_eq_getElem (show o < cur.size by omega)]⟩
theorem CB.free {w:World} {g n k:Nat} {f:Nat->Value} (h:CB w g n f k) (o:Nat):w.frozen? ⟨g,o,none⟩=false:=by
 obtain ⟨cur,hg,_⟩:=h
 simp [World.frozen?,hg]
theorem CB.below {w w':World} {g n k B:Nat} {f:Nat->Value} (h:CB w g n f k) (hb:Below B w w') (hg:g < B):CB w' g n f k:=by
 obtain ⟨cur,h1,h2⟩:=h
 exact ⟨cur,by rw [hb.block g hg]; exact h1,h2⟩
theorem CB.lt {w:World} {g n k:Nat} {f:Nat->Value} (h:CB w g n f k):g < w.heap.size:=by
 obtain ⟨cur,hg,_⟩:=h
 exact (Array.getElem?_eq_some_iff.1 hg).1
theorem CB.put {w:World} {g n k:Nat} {f:Nat->Value} {v:Value} (h:CB w g n f k) (hk:k < n) (hv:f k=v):CB (w.setCell ⟨g,k,none⟩ v) g n f (k+1):=by
 obtain ⟨cur,h1,h2,h3⟩:=h
 refine ⟨_,heap_setCell_same w g k cur _ v h1,by simpa using h2,fun j hj=>?_⟩
 by_cases e:j=k
 ·subst e
  simp [Array.getElem?_setIfInBounds,hv]
  omega
 ·have hold:=h3 j (by omega)
  simp only [Array.getElem?_setIfInBounds]
  rw [if_neg (by omega)]
  exact hold
def mksB (k0 n:Nat):List Bi:=(List.range n).map fun i=>⟨sm.mt (k0+i*3),sm.mt (k0+i*3+1),sm.mt (k0+i*3+2)⟩
theorem mksB_at (k0 n k:Nat) (h:k < n):(mksB k0 n)[k]?=some ⟨sm.mt (k0+k*3),sm.mt (k0+k*3+1),sm.mt (k0+k*3+2)⟩:=by simp [mksB,h]
theorem mksB_len (k0 n:Nat):(mksB k0 n).length=n:=by simp [mksB]
def fB (k0 j:Nat):Value:=.string (sm.mt (k0+j))
theorem CB.of {w:World} {g k k0:Nat} {l:List Bi} (h:FB w g l k):CB w g (l.length*3) (fB k0) 0:=by
 obtain ⟨cur,h1,h2,_⟩:=h
 exact ⟨cur,h1,h2,fun j hj=>by omega⟩
theorem CB.all {w:World} {g k0 n:Nat} (h:CB w g (n*3) (fB k0) (n*3)):FB w g (mksB k0 n) n:=by
 obtain ⟨cur,h1,h2,h3⟩:=h
 refine ⟨cur,h1,by rw [mksB_len]; exact h2,fun i e hi he=>?_⟩
 rw [mksB_at k0 n i hi] at he
 cases he
 refine ⟨h3 _ (by omega),h3 _ (by omega),h3 _ (by omega)⟩
theorem mark_bis (n g c k0:Nat) (w:World) (hl:n <= 2000000) (hk0:1 <= k0/\k0 <= 1000000000000) (ha:CB w g (n*3) (fB k0) 0) :
  Calls Tryz.prog 73 #[.slice (some ⟨g,0,none⟩) n c,.int .i64 k0] w fun e w'=>e=.returned (.int .i64 (k0+n*3:Nat))/\w.grownBy w' (some g)/\FB w' g (mksB k0 n) n:=by
 have HA:Hid (CB w g (n*3) (fB k0) (0*3)):=ha
 clear ha
 go_enter Tryz.func73,Tryz.ntmps73
 go_wp2
 go_loopw [1,5] (fun y x wr=>∃ k:Nat,k <= n/\x=.int .i64 k/\y=.int .i64 (k0+k*3:Nat)/\w.grownBy wr (some g)/\Hid (CB wr g (n*3) (fB k0) (k*3))) (fun _ x _=>n - (intOf x).toNat)
 case atStart=>exact ⟨0,Nat.zero_le _,rfl,by simp,gb_refl _ _,HA⟩
 case round =>
  obtain ⟨k,hk,rfl,rfl,hbel,hf⟩:=hrel
  by_cases hkl:k < n
  ·have e0:fB k0 (k*3)=.string (sm.mt (k0+k*3)):=rfl
   have e1:fB k0 (k*3+1)=.string (sm.mt (k0+k*3+1)):=rfl
   have e2:fB k0 (k*3+1+1)=.string (sm.mt (k0+k*3+1+1)):=rfl
   obtain ⟨m,hm⟩:∃ m,k0+k*3=m:=⟨_,rfl⟩
   rw [hm] at e0 e1 e2
   rw [hm]
   have hm9:m <= 9000000000000:=by omega
   have HM:Hid (k0+k*3=m):=hm
   have hmt0:=fun W=>sm.mark_text m W (by omega) (by omega)
   have hmt1:=fun W=>sm.mark_text (m+1) W (by omega) (by omega)
   have hmt2:=fun W=>sm.mark_text (m+1+1) W (by omega) (by omega)
   rw [show ((m+1:Nat):Int)=(m:Int)+1 by omega] at hmt1
   rw [show ((m+1+1:Nat):Int)=(m:Int)+1+1 by omega] at hmt2
   have E1:Hid (fB k0 (k*3+1)=.string (sm.mt (m+1))):=e1
   have E2:Hid (fB k0 (k*3+1+1)=.string (sm.mt (m+1+1))):=e2
   have E0:Hid (fB k0 (k*3)=.string (sm.mt m)):=e0
   clear hm e0 e1 e2
   go_wp2_with (go_at_call 74; fail)
   refine (hmt0 _).mono ?_
   rintro e w1 ⟨rfl,hb1⟩
   have f1:=hf.out.below hb1 hf.out.lt
   have b1:w.grownBy (w1.setCell ⟨g,k*3,none⟩ (.string (sm.mt m))) (some g):=gb_set (gb_below hbel hb1) _ _
   obtain ⟨v0,g0⟩:=f1.at (k*3) (by omega)
   have z0:=f1.free (k*3)
   have F1:Hid (CB (w1.setCell ⟨g,k*3,none⟩ (.string (sm.mt m))) g (n*3) (fB k0) (k*3+1)):=f1.put (by omega) E0.out
   clear f1
   go_wp2_with (go_at_call 74; fail)
   refine (hmt1 _).mono ?_
   rintro e w2 ⟨rfl,hb2⟩
   have f2:=F1.out.below hb2 F1.out.lt
   have b2:w.grownBy (w2.setCell ⟨g,k*3+1,none⟩ (.string (sm.mt (m+1)))) (some g):=gb_set (gb_below b1 hb2) _ _
   obtain ⟨v1,g1⟩:=f2.at (k*3+1) (by omega)
   have z1:=f2.free (k*3+1)
   have F2:Hid (CB (w2.setCell ⟨g,k*3+1,none⟩ (.string (sm.mt (m+1)))) g (n*3) (fB k0) (k*3+1+1)):=f2.put (by omega) E1.out
   clear f2 g0 z0
   go_wp2_with (go_at_call 74; fail)
   refine (hmt2 _).mono ?_
   rintro e w3 ⟨rfl,hb3⟩
   have f3:=F2.out.below hb3 F2.out.lt
   have b3:w.grownBy (w3.setCell ⟨g,k*3+2,none⟩ (.string (sm.mt (m+1+1)))) (some g):=gb_set (gb_below b2 hb3) _ _
   obtain ⟨v2,g2⟩:=f3.at (k*3+2) (by omega)
   have z2:=f3.free (k*3+2)
   have F3:Hid (CB (w3.setCell ⟨g,k*3+2,none⟩ (.string (sm.mt (m+1+1)))) g (n*3) (fB k0) (k*3+1+1+1)):=f3.put (by omega) E2.out
   clear f3 g1 z1
   go_wp2
   go_roundw
   case rel=>exact ⟨k+1,by omega,by go_num,by rw [show k0+(k+1)*3=m+3 by have:=HM.out; omega]; go_num,b3,by rw [show (k+1)*3=k*3+1+1+1 by omega]; exact F3⟩
   case measure=>simp [intOf]; omega
  ·obtain rfl:k=n:=by omega
   go_wp2
   go_ret
   exact ⟨rfl,hbel,hf.out.all⟩
end Go.Proofs.YtaoefccgdfcchaaGreat.rm
namespace Go.Proofs.YtaoefccgdfcchaaGreat.rm
open ChangeShapes WideShapes ChangeAt RowKit rr ra rt
theorem held_bis (n g c k0:Nat) (w:World) (hl:n <= 2000000) (hk0:1 <= k0/\k0 <= 1000000000000) (ha:RB w g (mksB k0 n)) :
  Calls Tryz.prog 80 #[.slice (some ⟨g,0,none⟩) n c,.int .i64 k0] w fun e w'=>e=.returned (.int .i64 (k0+n*3:Nat))/\Below w.heap.size w w':=by
 have HA:Hid (RB w g (mksB k0 n)):=ha
 clear ha
 go_enter Tryz.func80,Tryz.ntmps80
 go_wp2
 go_loopw [1,5] (fun y x wr=>∃ k:Nat,k <= n/\x=.int .i64 k/\y=.int .i64 (k0+k*3:Nat)/\Below w.heap.size w wr) (fun _ x _=>n - (intOf x).toNat)
 case atStart=>exact ⟨0,Nat.zero_le _,rfl,by simp,Below.refl _ _⟩
 case round =>
  obtain ⟨k,hk,rfl,rfl,hbel⟩:=hrel
  by_cases hkl:k < n
  ·have hg:=mksB_at k0 n k hkl
   obtain ⟨m,hm⟩:∃ m,k0+k*3=m:=⟨_,rfl⟩
   rw [hm] at hg
   rw [hm]
   have hm9:m <= 9000000000000:=by omega
   have HM:Hid (k0+k*3=m):=hm
   have hR:=HA.out.below hbel
   obtain ⟨c0,c1,c2⟩:=hR.2 k _ hg
   have hmt0:=fun W=>sm.mark_text m W (by omega) (by omega)
   have hmt1:=fun W=>sm.mark_text (m+1) W (by omega) (by omega)
   have hmt2:=fun W=>sm.mark_text (m+2) W (by omega) (by omega)
   rw [show ((m+1:Nat):Int)=(m:Int)+1 by omega] at hmt1
   rw [show ((m+2:Nat):Int)=(m:Int)+1+1 by omega] at hmt2
   have hlt:=hR.1
   have c0:wr.cell? ⟨g,k*3,none⟩=some (.string (sm.mt m)):=c0
   have c1:wr.cell? ⟨g,k*3+1,none⟩=some (.string (sm.mt (m+1))):=c1
   have c2:wr.cell? ⟨g,k*3+2,none⟩=some (.string (sm.mt (m+2))):=c2
   clear hm hg hR
   go_wp2
   go_region_with (go_at_call 74; refine (hmt0 _).mono ?_; rintro e w1 ⟨rfl,hb1⟩; have d0:w1.cell? ⟨g,k*3,none⟩=some (.string (sm.mt m)):=(hb1.cell (by exact hlt)).trans c0; have d1:w1.cell? ⟨g,k*3+1,none⟩=some (.string (sm.mt (m+1))):=(hb1.cell (by exact hlt)).trans c1; have d2:w1.cell? ⟨g,k*3+2,none⟩=some (.string (sm.mt (m+2))):=(hb1.cell (by exact hlt)).trans c2; have l1:g < w1.heap.size:=Nat.lt_of_lt_of_le hlt hb1.size)
   all_goals go_wp2
   all_goals go_region_with (go_at_call 74; refine (hmt1 _).mono ?_; rintro e w2 ⟨rfl,hb2⟩; have j1:w2.cell? ⟨g,k*3+1,none⟩=some (.string (sm.mt (m+1))):=(hb2.cell (by exact l1)).trans d1; have j2:w2.cell? ⟨g,k*3+2,none⟩=some (.string (sm.mt (m+2))):=(hb2.cell (by exact l1)).trans d2; have l2:g < w2.heap.size:=Nat.lt_of_lt_of_le l1 hb2.size)
   all_goals go_wp2
   all_goals go_region_with (go_at_call 74; refine (hmt2 _).mono ?_; rintro e w3 ⟨rfl,hb3⟩; have i2:w3.cell? ⟨g,k*3+2,none⟩=some (.string (sm.mt (m+2))):=(hb3.cell (by exact l2)).trans j2)
   all_goals go_wp2
   all_goals go_roundw
   all_goals first | (have q1:=hbel.drew.trans (hb1.mono hbel.size); have q2:=q1.drew.trans (hb2.mono q1.size); have q3:=q2.drew.trans (hb3.mono q2.size); exact ⟨k+1,by omega,by go_num,by rw [show k0+(k+1)*3=m+3 by have:=HM.out; omega]; go_num,q3⟩) | (simp [intOf]; omega)
  ·obtain rfl:k=n:=by omega
   go_wp2
   go_ret
   exact ⟨rfl,hbel⟩
end Go.Proofs.YtaoefccgdfcchaaGreat.rm
namespace Go.Proofs.YtaoefccgdfcchaaGreat.ro2
open ChangeShapes WideShapes ChangeAt RowKit rr ra rt fl rm
theorem keptE {w w':World} {g k:Nat} {l:List Ex} (h:FE w g l k) (hg:w'.heap[g]?=w.heap[g]?):FE w' g l k:=by
 obtain ⟨cur,h1,h2⟩:=h
 exact ⟨cur,by rw [hg]; exact h1,h2⟩
theorem keptB {w w':World} {g k:Nat} {l:List Bi} (h:FB w g l k) (hg:w'.heap[g]?=w.heap[g]?):FB w' g l k:=by
 obtain ⟨cur,h1,h2⟩:=h
 exact ⟨cur,by rw [hg]; exact h1,h2⟩
theorem to_allE (l:List Ex) (a:Option Addr) (cap:Nat) (w:World) (hl:l.length <= 1048576) (hS:SE w w.heap.size a l) :
  Calls Tryz.prog 47 #[.slice a l.length cap] w fun e w'=>e=.returned (.slice (some ⟨w.heap.size,0,none⟩) l.length l.length)/\FE w' w.heap.size l l.length/\Below w.heap.size w w':=by
 obtain ⟨i0,hi,hz0,hz1,hz2⟩:∃ i0,Tryz.prog.info? 137=some i0/\i0.zero=some (.agg #[.string ByteArray.empty,.int .i64 0])/\i0.size=2/\i0.bytes=24:=by
  have h:=infoE
  cases hh:Tryz.prog.info? 137 with
  | none=>rw [hh] at h; cases h
  | some i=>rw [hh] at h; simp at h; exact ⟨i,rfl,h.1,h.2.1,h.2.2⟩
 have hmk:=run_makeSlice (P:=Tryz.prog) w 31 137 i0 _ Tryz.underlying31 hi hz0 .i64 .i64 (l.length:Int) (l.length:Int) (by omega) (Int.le_refl _) (by rw [hz1]; simp; omega) (by rw [hz2]; omega) (by omega)
 rw [hz1,show ((l.length:Int)).toNat=l.length by omega] at hmk
 have hmk2:(Instr.makeSlice 31 (.int .i64 (l.length:Int)) (.int .i64 (l.length:Int))).run Tryz.prog w=.ok (.slice (some ⟨w.heap.size,0,none⟩) l.length l.length) (w.alloc (.cells (madeCells #[.string ByteArray.empty,.int .i64 0] (l.length*2)) 137)):=hmk
 have hf0:=madeE w l
 have hb0:=fl.bl w (.cells (madeCells #[.string ByteArray.empty,.int .i64 0] (l.length*2)) 137)
 obtain ⟨W,hW⟩:∃ W,w.alloc (.cells (madeCells #[.string ByteArray.empty,.int .i64 0] (l.length*2)) 137)=W:=⟨_,rfl⟩
 rw [hW] at hmk2 hf0 hb0
 have HF0:Hid (FE W w.heap.size l 0):=hf0
 clear hmk hW hf0
 rcases hS with rfl | ⟨b,off,rfl,hlt,hc⟩
 ·have hmk3:(Instr.makeSlice 31 (.int .i64 0) (.int .i64 0)).run Tryz.prog w=.ok (.slice (some ⟨w.heap.size,0,none⟩) 0 0) W:=by simpa using hmk2
  clear hmk2
  go_enter Tryz.func47,Tryz.ntmps47
  go_wp2
  refine wp_loop_rounds 1 ?_
  rw [rounds_succ]
  go_wp2
  go_ret
  exact ⟨rfl,HF0.out,hb0⟩
 ·have HC:Hid (∀ (i:Nat) (e:Ex),l[i]?=some e->w.cell? ⟨b,off+i*2,none⟩=some (.string e.n)/\w.cell? ⟨b,off+i*2+1,none⟩=some (.int .i64 e.k)):=hc
  clear hc
  go_enter Tryz.func47,Tryz.ntmps47
  go_wp2
  go_loopw [4] (fun x wr=>∃ k:Nat,k <= l.length/\x=.int .i64 k/\Below w.heap.size w wr/\Hid (FE wr w.heap.size l k)) (fun x _=>l.length - (intOf x).toNat)
  case atStart=>exact ⟨0,Nat.zero_le _,rfl,hb0,HF0⟩
  case round =>
   obtain ⟨k,hk,rfl,hbel,hf⟩:=hrel
   have hbs:=hbel.size
   by_cases hkl:k < l.length
   ·have g0:l[k]?=some l[k]:=List.getElem?_eq_getElem hkl
    obtain ⟨a0,a1⟩:=HC.out k l[k] g0
    have c0:=(hbel.cell (p:=⟨b,off+k*2,none⟩) hlt).trans a0
    have c1:=(hbel.cell (p:=⟨b,off+k*2+1,none⟩) hlt).trans a1
    have HG:Hid (l[k]?=some l[k]):=g0
    obtain ⟨⟨en,ek⟩,he⟩:∃ e,l[k]=e:=⟨_,rfl⟩
    rw [he] at c0 c1 HG
    have hone:=to_oneE ⟨en,ek⟩ wr
    have hfl:=hf.out.lt
    clear g0 he a0 a1
    go_wp2_with (go_at_call 98; refine hone.mono ?_; rintro e w1 ⟨rfl,hb1⟩; have hf1:=hf.out.below hb1 hfl; obtain ⟨v0,g0⟩:=hf1.at (k*2) (by omega); have z0:=hf1.free (k*2); obtain ⟨v1,g1⟩:=hf1.at (k*2+1) (by omega); have z1:=hf1.free (k*2+1); have HN:Hid (FE ((w1.setCell ⟨w.heap.size,k*2,none⟩ (.string en)).setCell ⟨w.heap.size,k*2+1,none⟩ (.int .i64 ek)) w.heap.size l (k+1)):=FE.set (e:=⟨en,ek⟩) hf1 HG.out; clear hf1)
    go_roundw
    case rel=>exact ⟨k+1,by omega,by go_num,(((hbel.trans (hb1.mono hbs)).setCell (Nat.le_refl _) _).setCell (Nat.le_refl _) _),HN⟩
    case measure=>simp [intOf]; omega
   ·obtain rfl:k=l.length:=by omega
    go_wp2
    go_ret
    exact ⟨rfl,hf.out,hbel⟩
theorem to_allB (l:List Bi) (a:Option Addr) (cap:Nat) (w:World) (hl:l.length <= 1048576) (hS:SB w w.heap.size a l) :
  Calls Tryz.prog 48 #[.slice a l.length cap] w fun e w'=>e=.returned (.slice (some ⟨w.heap.size,0,none⟩) l.length l.length)/\FB w' w.heap.size l l.length/\Below w.heap.size w w':=by
 obtain ⟨i0,hi,hz0,hz1,hz2⟩:∃ i0,Tryz.prog.info? 138=some i0/\i0.zero=some (.agg #[.string ByteArray.empty,.string ByteArray.empty,.string ByteArray.empty])/\i0.size=3/\i0.bytes=48:=by
  have h:=infoB
  cases hh:Tryz.prog.info? 138 with
  | none=>rw [hh] at h; cases h
  | some i=>rw [hh] at h; simp at h; exact ⟨i,rfl,h.1,h.2.1,h.2.2⟩
 have hmk:=run_makeSlice (P:=Tryz.prog) w 32 138 i0 _ Tryz.underlying32 hi hz0 .i64 .i64 (l.length:Int) (l.length:Int) (by omega) (Int.le_refl _) (by rw [hz1]; simp; omega) (by rw [hz2]; omega) (by omega)
 rw [hz1,show ((l.length:Int)).toNat=l.length by omega] at hmk
 have hmk2:(Instr.makeSlice 32 (.int .i64 (l.length:Int)) (.int .i64 (l.length:Int))).run Tryz.prog w=.ok (.slice (some ⟨w.heap.size,0,none⟩) l.length l.length) (w.alloc (.cells (madeCells #[.string ByteArray.empty,.string ByteArray.empty,.string ByteArray.empty] (l.length*3)) 138)):=hmk
 have hf0:=madeB w l
 have hb0:=fl.bl w (.cells (madeCells #[.string ByteArray.empty,.string ByteArray.empty,.string ByteArray.empty] (l.length*3)) 138)
 obtain ⟨W,hW⟩:∃ W,w.alloc (.cells (madeCells #[.string ByteArray.empty,.string ByteArray.empty,.string ByteArray.empty] (l.length*3)) 138)=W:=⟨_,rfl⟩
 rw [hW] at hmk2 hf0 hb0
 have HF0:Hid (FB W w.heap.size l 0):=hf0
 clear hmk hW hf0
 rcases hS with rfl | ⟨b,off,rfl,hlt,hc⟩
 ·have hmk3:(Instr.makeSlice 32 (.int .i64 0) (.int .i64 0)).run Tryz.prog w=.ok (.slice (some ⟨w.heap.size,0,none⟩) 0 0) W:=by simpa using hmk2
  clear hmk2
  go_enter Tryz.func48,Tryz.ntmps48
  go_wp2
  refine wp_loop_rounds 1 ?_
  rw [rounds_succ]
  go_wp2
  go_ret
  exact ⟨rfl,HF0.out,hb0⟩
 ·have HC:Hid (∀ (i:Nat) (e:Bi),l[i]?=some e->w.cell? ⟨b,off+i*3,none⟩=some (.string e.x)/\w.cell? ⟨b,off+i*3+1,none⟩=some (.string e.k)/\w.cell? ⟨b,off+i*3+2,none⟩=some (.string e.q)):=hc
  clear hc
  go_enter Tryz.func48,Tryz.ntmps48
  go_wp2
  go_loopw [4] (fun x wr=>∃ k:Nat,k <= l.length/\x=.int .i64 k/\Below w.heap.size w wr/\Hid (FB wr w.heap.size l k)) (fun x _=>l.length - (intOf x).toNat)
  case atStart=>exact ⟨0,Nat.zero_le _,rfl,hb0,HF0⟩
  case round =>
   obtain ⟨k,hk,rfl,hbel,hf⟩:=hrel
   have hbs:=hbel.size
   by_cases hkl:k < l.length
   ·have g0:l[k]?=some l[k]:=List.getElem?_eq_getElem hkl
    obtain ⟨a0,a1,a2⟩:=HC.out k l[k] g0
    have c0:=(hbel.cell (p:=⟨b,off+k*3,none⟩) hlt).trans a0
    have c1:=(hbel.cell (p:=⟨b,off+k*3+1,none⟩) hlt).trans a1
    have c2:=(hbel.cell (p:=⟨b,off+k*3+2,none⟩) hlt).trans a2
    have HG:Hid (l[k]?=some l[k]):=g0
    obtain ⟨⟨ex,ek,eq⟩,he⟩:∃ e,l[k]=e:=⟨_,rfl⟩
    rw [he] at c0 c1 c2 HG
    have hone:=to_oneB ⟨ex,ek,eq⟩ wr
    have hfl:=hf.out.lt
    clear g0 he a0 a1 a2
    go_wp2_with (go_at_call 99; refine hone.mono ?_; rintro e w1 ⟨rfl,hb1⟩; have hf1:=hf.out.below hb1 hfl; obtain ⟨v0,g0⟩:=hf1.at (k*3) (by omega); have z0:=hf1.free (k*3); obtain ⟨v1,g1⟩:=hf1.at (k*3+1) (by omega); have z1:=hf1.free (k*3+1); obtain ⟨v2,g2⟩:=hf1.at (k*3+2) (by omega); have z2:=hf1.free (k*3+2); have HN:Hid (FB (((w1.setCell ⟨w.heap.size,k*3,none⟩ (.string ex)).setCell ⟨w.heap.size,k*3+1,none⟩ (.string ek)).setCell ⟨w.heap.size,k*3+2,none⟩ (.string eq)) w.heap.size l (k+1)):=FB.set (e:=⟨ex,ek,eq⟩) hf1 HG.out; clear hf1)
    go_roundw
    case rel=>exact ⟨k+1,by omega,by go_num,((((hbel.trans (hb1.mono hbs)).setCell (Nat.le_refl _) _).setCell (Nat.le_refl _) _).setCell (Nat.le_refl _) _),HN⟩
    case measure=>simp [intOf]; omega
   ·obtain rfl:k=l.length:=by omega
    go_wp2
    go_ret
    exact ⟨rfl,hf.out,hbel⟩
theorem to_routes (es:List Ex) (bs:List Bi) (ea ba:Option Addr) (ec bc:Nat) (w:World) (hel:es.length <= 1048576) (hbl:bs.length <= 1048576) (hE:SE w w.heap.size ea es) (hB:SB w w.heap.size ba bs) :
  Calls Tryz.prog 18 #[.agg #[.slice ea es.length ec,.slice ba bs.length bc]] w fun e w'=>∃ g h,e=.returned (.agg #[.slice (some ⟨g,0,none⟩) es.length es.length,.slice (some ⟨h,0,none⟩) bs.length bs.length])/\w.heap.size <= g/\w.heap.size <= h/\g ≠ h/\FE w' g es es.length/\FB w' h bs bs.length/\Below w.heap.size w w':=by
 have hb:Below w.heap.size w (((w.alloc (.cells #[.slice ea es.length ec,.slice ba bs.length bc] 25)).alloc (.cells #[.slice none 0 0,.slice none 0 0] 34)).alloc (.cells #[.slice none 0 0,.slice none 0 0] 34)):=(((Below.refl _ _).alloc (Nat.le_refl _) _).alloc (by simp) _).alloc (by simp; omega) _
 have hA:(((w.alloc (.cells #[.slice ea es.length ec,.slice ba bs.length bc] 25)).alloc (.cells #[.slice none 0 0,.slice none 0 0] 34)).alloc (.cells #[.slice none 0 0,.slice none 0 0] 34)).heap[w.heap.size]?=some (.cells #[.slice ea es.length ec,.slice ba bs.length bc] 25 (0,0)):=by
  rw [Below.heap_alloc _ _ _ (by simp; omega),Below.heap_alloc _ _ _ (by simp)]
  exact heap_alloc_new w _
 have hR:(((w.alloc (.cells #[.slice ea es.length ec,.slice ba bs.length bc] 25)).alloc (.cells #[.slice none 0 0,.slice none 0 0] 34)).alloc (.cells #[.slice none 0 0,.slice none 0 0] 34)).heap[w.heap.size+1]?=some (.cells #[.slice none 0 0,.slice none 0 0] 34 (0,0)):=by
  rw [Below.heap_alloc _ _ _ (by simp)]
  have:=heap_alloc_new (w.alloc (.cells #[.slice ea es.length ec,.slice ba bs.length bc] 25)) (.cells #[.slice none 0 0,.slice none 0 0] 34)
  rwa [World.size_alloc] at this
 have hO:(((w.alloc (.cells #[.slice ea es.length ec,.slice ba bs.length bc] 25)).alloc (.cells #[.slice none 0 0,.slice none 0 0] 34)).alloc (.cells #[.slice none 0 0,.slice none 0 0] 34)).heap[w.heap.size+1+1]?=some (.cells #[.slice none 0 0,.slice none 0 0] 34 (0,0)):=by
  have:=heap_alloc_new ((w.alloc (.cells #[.slice ea es.length ec,.slice ba bs.length bc] 25)).alloc (.cells #[.slice none 0 0,.slice none 0 0] 34)) (.cells #[.slice none 0 0,.slice none 0 0] 34)
  rwa [World.size_alloc,World.size_alloc] at this
 have hS:(((w.alloc (.cells #[.slice ea es.length ec,.slice ba bs.length bc] 25)).alloc (.cells #[.slice none 0 0,.slice none 0 0] 34)).alloc (.cells #[.slice none 0 0,.slice none 0 0] 34)).heap.size=w.heap.size+3:=by simp
 obtain ⟨W,hW⟩:∃ W,((w.alloc (.cells #[.slice ea es.length ec,.slice ba bs.length bc] 25)).alloc (.cells #[.slice none 0 0,.slice none 0 0] 34)).alloc (.cells #[.slice none 0 0,.slice none 0 0] 34)=W:=⟨_,rfl⟩
 rw [hW] at hb hA hR hO hS
 have he:=to_allE es ea ec W hel (rl.SE.inn hE hb)
 have hS3:w.heap.size+3 <= W.heap.size:=by omega
 have HSB:Hid (SB w w.heap.size ba bs):=hB
 have x0:W.cell? ⟨w.heap.size,0,none⟩=some (.slice ea es.length ec):=by simp [World.cell?,hA]
 have HA:Hid (W.heap[w.heap.size]?=some (.cells #[.slice ea es.length ec,.slice ba bs.length bc] 25 (0,0))):=hA
 have HR:Hid (W.heap[w.heap.size+1]?=some (.cells #[.slice none 0 0,.slice none 0 0] 34 (0,0))):=hR
 have HO:Hid (W.heap[w.heap.size+1+1]?=some (.cells #[.slice none 0 0,.slice none 0 0] 34 (0,0))):=hO
 clear hE hB hA hR hO hS
 go_enter Tryz.func18,Tryz.ntmps18
 go_wp2_with (go_at_call 47; fail)
 clear hW
 refine he.mono ?_
 rintro e w1 ⟨rfl,hre,hb1⟩
 have hs1:=hb1.size
 have o1:=(hb1.block (w.heap.size+1+1) (by omega)).trans HO.out
 have o0c:w1.cell? ⟨w.heap.size+1+1,0,none⟩=some (.slice none 0 0):=by simp [World.cell?,o1]
 have o0f:w1.frozen? ⟨w.heap.size+1+1,0,none⟩=false:=by simp [World.frozen?,o1]
 -- the row is stored
 have o2:=heap_setCell_same w1 (w.heap.size+1+1) 0 _ _ (.slice (some ⟨W.heap.size,0,none⟩) es.length es.length) o1
 have a2:=(Below.heap_setCell w1 ⟨w.heap.size+1+1,0,none⟩ (.slice (some ⟨W.heap.size,0,none⟩) es.length es.length) w.heap.size (by show w.heap.size ≠ w.heap.size+1+1; omega)).trans ((hb1.block w.heap.size (by omega)).trans HA.out)
 have r2:=(Below.heap_setCell w1 ⟨w.heap.size+1+1,0,none⟩ (.slice (some ⟨W.heap.size,0,none⟩) es.length es.length) (w.heap.size+1) (by show w.heap.size+1 ≠ w.heap.size+1+1; omega)).trans ((hb1.block (w.heap.size+1) (by omega)).trans HR.out)
 have hbw2:Below w.heap.size w (w1.setCell ⟨w.heap.size+1+1,0,none⟩ (.slice (some ⟨W.heap.size,0,none⟩) es.length es.length)):=(hb.trans (hb1.mono (by omega))).setCell (by show w.heap.size <= w.heap.size+1+1; omega) _
 have re2:FE (w1.setCell ⟨w.heap.size+1+1,0,none⟩ (.slice (some ⟨W.heap.size,0,none⟩) es.length es.length)) W.heap.size es es.length:=keptE hre (Below.heap_setCell _ _ _ _ (by show W.heap.size ≠ w.heap.size+1+1; omega))
 have hsz2:(w1.setCell ⟨w.heap.size+1+1,0,none⟩ (.slice (some ⟨W.heap.size,0,none⟩) es.length es.length)).heap.size=w1.heap.size:=by simp
 have sb2:=rl.SB.inn HSB.out hbw2
 have hq:=to_allB bs ba bc _ hbl sb2
 obtain ⟨W2,hW2⟩:∃ W2,w1.setCell ⟨w.heap.size+1+1,0,none⟩ (.slice (some ⟨W.heap.size,0,none⟩) es.length es.length)=W2:=⟨_,rfl⟩
 rw [hW2] at o2 a2 r2 hbw2 re2 hsz2 hq
 simp at o2
 have a1c:W2.cell? ⟨w.heap.size,1,none⟩=some (.slice ba bs.length bc):=by simp [World.cell?,a2]
 have HO2:Hid (W2.heap[w.heap.size+1+1]?=some (.cells #[.slice (some ⟨W.heap.size,0,none⟩) es.length es.length,.slice none 0 0] 34 (0,0))):=o2
 have HR2:Hid (W2.heap[w.heap.size+1]?=some (.cells #[.slice none 0 0,.slice none 0 0] 34 (0,0))):=r2
 have HRE:Hid (FE W2 W.heap.size es es.length):=re2
 have hl2:w.heap.size+3 <= W2.heap.size:=by omega
 clear he x0 hre o1 o2 a2 r2 re2 sb2
 go_wp2_with (go_at_call 48; fail)
 clear hW2
 refine hq.mono ?_
 rintro e w3 ⟨rfl,hrb,hb3⟩
 have hs3:=hb3.size
 have u:=(hb3.block (w.heap.size+1+1) (by omega)).trans HO2.out
 have v:=(hb3.block (w.heap.size+1) (by omega)).trans HR2.out
 have u0:w3.cell? ⟨w.heap.size+1+1,0,none⟩=some (.slice (some ⟨W.heap.size,0,none⟩) es.length es.length):=by simp [World.cell?,u]
 have u1:w3.cell? ⟨w.heap.size+1+1,1,none⟩=some (.slice none 0 0):=by simp [World.cell?,u]
 have uf:w3.frozen? ⟨w.heap.size+1+1,1,none⟩=false:=by simp [World.frozen?,u]
 have v0:w3.cell? ⟨w.heap.size+1,0,none⟩=some (.slice none 0 0):=by simp [World.cell?,v]
 have v1:w3.cell? ⟨w.heap.size+1,1,none⟩=some (.slice none 0 0):=by simp [World.cell?,v]
 have vf0:w3.frozen? ⟨w.heap.size+1,0,none⟩=false:=by simp [World.frozen?,v]
 have vf1:w3.frozen? ⟨w.heap.size+1,1,none⟩=false:=by simp [World.frozen?,v]
 have HRB:Hid (FB w3 W2.heap.size bs bs.length):=hrb
 have HRE3:Hid (FE w3 W.heap.size es es.length):=HRE.out.below hb3 HRE.out.lt
 have hbw3:Below w.heap.size w w3:=hbw2.trans (hb3.mono (by omega))
 have q1:W.heap.size <= w1.heap.size:=hs1
 clear hq u v hrb a1c o0c o0f
 go_wp2
 refine bodyPost_ret (v:=.agg #[.slice (some ⟨W.heap.size,0,none⟩) es.length es.length,.slice (some ⟨W2.heap.size,0,none⟩) bs.length bs.length]) (by simp [results,Tryz.results18,go_sem,v0,v1]) rfl ⟨W.heap.size,W2.heap.size,rfl,by omega,by omega,by have:=HRE.out.lt; omega,?_,?_,?_⟩
 ·exact keptE (keptE (keptE HRE3.out (Below.heap_setCell _ _ _ _ (by show W.heap.size ≠ w.heap.size+1+1; omega))) (Below.heap_setCell _ _ _ _ (by show W.heap.size ≠ w.heap.size+1; omega))) (Below.heap_setCell _ _ _ _ (by show W.heap.size ≠ w.heap.size+1; omega))
 ·exact keptB (keptB (keptB HRB.out (Below.heap_setCell _ _ _ _ (by show W2.heap.size ≠ w.heap.size+1+1; omega))) (Below.heap_setCell _ _ _ _ (by show W2.heap.size ≠ w.heap.size+1; omega))) (Below.heap_setCell _ _ _ _ (by show W2.heap.size ≠ w.heap.size+1; omega))
 ·exact ((hbw3.setCell (by show w.heap.size <= w.heap.size+1+1; omega) _).setCell (by show w.heap.size <= w.heap.size+1; omega) _).setCell (by show w.heap.size <= w.heap.size+1; omega) _
structure Tn (w w':World) (a b:Nat):Prop where
 os:w'.os=w.os
 tape:w'.tape=w.tape
 output:w'.output=w.output
 size:w.heap.size <= w'.heap.size
 block:∀ k,k < w.heap.size->k ≠ a->k ≠ b->w'.heap[k]?=w.heap[k]?
theorem Tn.below {w w':World} {a b B:Nat} (h:Tn w w' a b) (hs:B <= w.heap.size) (ha:B <= a) (hb:B <= b):Below B w w':=⟨h.os,h.tape,h.output,h.size,fun k hk=>h.block k (by omega) (by omega) (by omega)⟩
theorem mark_routes (es:List Ex) (bs:List Bi) (g h ce cb:Nat) (w:World) (hel:es.length <= 1048576) (hbl:bs.length <= 1048576) (hgh:g ≠ h) (fe:FE w g es es.length) (fb:FB w h bs bs.length) :
  Calls Tryz.prog 31 #[.agg #[.slice (some ⟨g,0,none⟩) es.length ce,.slice (some ⟨h,0,none⟩) bs.length cb],.int .i64 1] w fun e w'=>e=.returned (.int .i64 (1+2*es.length+bs.length*3:Nat))/\FE w' g (mksE 1 es.length) es.length/\FB w' h (mksB (1+2*es.length) bs.length) bs.length/\Tn w w' g h:=by
 have hal:=fl.bl w (.cells #[.slice (some ⟨g,0,none⟩) es.length ce,.slice (some ⟨h,0,none⟩) bs.length cb] 34)
 have hA:=bnew w #[.slice (some ⟨g,0,none⟩) es.length ce,.slice (some ⟨h,0,none⟩) bs.length cb] 34
 have hgl:=fe.lt
 have hhl:=fb.lt
 have fe1:=fe.below hal hgl
 have fb1:=fb.below hal hhl
 obtain ⟨W,hW⟩:∃ W,w.alloc (.cells #[.slice (some ⟨g,0,none⟩) es.length ce,.slice (some ⟨h,0,none⟩) bs.length cb] 34)=W:=⟨_,rfl⟩
 rw [hW] at hal hA fe1 fb1
 have hmE:=mark_exs es.length g ce 1 W (by omega) (by omega) (anyE fe1 (mksE_len _ _))
 have x0:W.cell? ⟨w.heap.size,0,none⟩=some (.slice (some ⟨g,0,none⟩) es.length ce):=bcell hA rfl
 have HA:Hid (W.heap[w.heap.size]?=some (.cells #[.slice (some ⟨g,0,none⟩) es.length ce,.slice (some ⟨h,0,none⟩) bs.length cb] 34 (0,0))):=hA
 have HFB:Hid (FB W h bs bs.length):=fb1
 have hWs:=(Array.getElem?_eq_some_iff.1 hA).1
 clear fe fb fe1 fb1 hA
 go_enter Tryz.func31,Tryz.ntmps31
 go_wp2_with (go_at_call 72; fail)
 clear hW
 refine hmE.mono ?_
 rintro e w1 ⟨rfl,hg1,fe1⟩
 have x1:w1.cell? ⟨w.heap.size,1,none⟩=some (.slice (some ⟨h,0,none⟩) bs.length cb):=bcell ((hg1.block w.heap.size hWs (by simp; omega)).trans HA.out) rfl
 have fb1:FB w1 h bs bs.length:=keptB HFB.out (hg1.block h (by omega) (by simp; omega))
 have hmB:=mark_bis bs.length h cb (1+2*es.length) w1 (by omega) (by omega) (CB.of fb1)
 have HFE:Hid (FE w1 g (mksE 1 es.length) es.length):=fe1
 clear hmE x0 fe1 fb1
 go_wp2_with (go_at_call 73; fail)
 refine hmB.mono ?_
 rintro e w2 ⟨rfl,hg2,fb2⟩
 have HFB2:Hid (FB w2 h (mksB (1+2*es.length) bs.length) bs.length):=fb2
 clear hmB x1 fb2
 go_wp2
 go_ret
 refine ⟨rfl,keptE HFE.out (hg2.block g (by have:=hg1.size; omega) (by simp; omega)),HFB2.out,hg2.os.trans (hg1.os.trans hal.os),hg2.tape.trans (hg1.tape.trans hal.tape),hg2.output.trans (hg1.output.trans hal.output),by have:=hg1.size; have:=hg2.size; have:=hal.size; omega,fun k hk ha hb=>?_⟩
 have:=hg1.size
 rw [hg2.block k (by omega) (by simpa using hb),hg1.block k (by omega) (by simpa using ha),hal.block k hk]
end Go.Proofs.YtaoefccgdfcchaaGreat.ro2
namespace Go.Proofs.YtaoefccgdfcchaaGreat.ro2
open ChangeShapes WideShapes ChangeAt RowKit rr ra rt fl rm
theorem held_routes (n m g h ce cb:Nat) (w:World) (hel:n <= 1048576) (hbl:m <= 1048576) (fe:FE w g (mksE 1 n) n) (fb:FB w h (mksB (1+2*n) m) m) :
  Calls Tryz.prog 34 #[.agg #[.slice (some ⟨g,0,none⟩) n ce,.slice (some ⟨h,0,none⟩) m cb],.int .i64 1] w fun e w'=>e=.returned (.int .i64 (1+2*n+m*3:Nat))/\Below w.heap.size w w':=by
 have hal:=fl.bl w (.cells #[.slice (some ⟨g,0,none⟩) n ce,.slice (some ⟨h,0,none⟩) m cb] 34)
 have hA:=bnew w #[.slice (some ⟨g,0,none⟩) n ce,.slice (some ⟨h,0,none⟩) m cb] 34
 have re1:RE w g (mksE 1 n):=FE.all (by rw [mksE_len]; exact fe)
 have rb1:RB w h (mksB (1+2*n) m):=FB.all (by rw [mksB_len]; exact fb)
 have re2:=re1.below hal
 have rb2:=rb1.below hal
 obtain ⟨W,hW⟩:∃ W,w.alloc (.cells #[.slice (some ⟨g,0,none⟩) n ce,.slice (some ⟨h,0,none⟩) m cb] 34)=W:=⟨_,rfl⟩
 rw [hW] at hal hA re2 rb2
 have hmE:=held_exs n g ce 1 W (by omega) (by omega) re2
 have x0:W.cell? ⟨w.heap.size,0,none⟩=some (.slice (some ⟨g,0,none⟩) n ce):=bcell hA rfl
 have HA:Hid (W.heap[w.heap.size]?=some (.cells #[.slice (some ⟨g,0,none⟩) n ce,.slice (some ⟨h,0,none⟩) m cb] 34 (0,0))):=hA
 have HRB:Hid (RB W h (mksB (1+2*n) m)):=rb2
 have hWs:=(Array.getElem?_eq_some_iff.1 hA).1
 clear fe fb re1 rb1 re2 rb2 hA
 go_enter Tryz.func34,Tryz.ntmps34
 go_wp2_with (go_at_call 79; fail)
 clear hW
 refine hmE.mono ?_
 rintro e w1 ⟨rfl,hb1⟩
 have x1:w1.cell? ⟨w.heap.size,1,none⟩=some (.slice (some ⟨h,0,none⟩) m cb):=bcell (bstay HA.out hb1 hWs) rfl
 have hmB:=held_bis m h cb (1+2*n) w1 (by omega) (by omega) (HRB.out.below hb1)
 clear hmE x0
 go_wp2_with (go_at_call 80; fail)
 refine hmB.mono ?_
 rintro e w2 ⟨rfl,hb2⟩
 clear hmB x1
 go_wp2
 go_ret
 exact ⟨rfl,hal.trans ((hb1.trans (hb2.mono hb1.size)).mono hal.size)⟩
end Go.Proofs.YtaoefccgdfcchaaGreat.ro2
