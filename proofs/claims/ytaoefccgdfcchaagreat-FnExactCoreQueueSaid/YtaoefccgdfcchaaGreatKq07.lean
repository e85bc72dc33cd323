/- MrMark, RowMarks, QueueLib, QuRows. -/
import Derived.Test.YtaoefccgdfcchaaGreatKq01
import Derived.Test.YtaoefccgdfcchaaGreatKq06
import Derived.Test.YtaoefccgdfcchaaGreatKq02
import Derived.Test.YtaoefccgdfcchaaGreatKq03
set_option maxRecDepth 100000
set_option maxHeartbeats 8000000
set_option linter.unusedVariables false
namespace Go.Proofs.YtaoefccgdfcchaaGreat.mrK
open ChangeShapes WideShapes ChangeAt RowKit fl fo
def mks (k0 n:Nat):List rr.Ex:=(List.range n).map fun i=>⟨sm.mt (k0+2*i),((k0+2*i:Nat):Int)+1⟩
theorem mks_at (k0 n k:Nat) (h:k < n):(mks k0 n)[k]?=some ⟨sm.mt (k0+2*k),((k0+2*k:Nat):Int)+1⟩:=by simp [mks,h]
theorem mks_len (k0 n:Nat):(mks k0 n).length=n:=by simp [mks]
theorem last {T:TypeId} {w1:World} {g off k:Nat} {l:List rr.Ex} {e:rr.Ex} (hf:OwnO flK.c 2 T w1 g off l k) (he:l[k]?=some e) :
  OwnO flK.c 2 T ((w1.setCell ⟨g,off+k*2,none⟩ (.string e.n)).setCell ⟨g,off+k*2+1,none⟩ (.int .i64 e.k)) g off l (k+1):=by
 have hk:=(List.getElem?_eq_some_iff.1 he).1
 obtain ⟨cur,h1,h2⟩:=hf.cells
 have s1:=bset h1 (off+k*2) (.string e.n)
 refine ((hf.put flK.c_len (off+k*2) (.string e.n) (by omega)).put flK.c_len (off+k*2+1) (.int .i64 e.k) (by omega)).more he (fun j v hv=>?_)
 match j,hv with
 | 0,hv=>cases hv; rw [Nat.add_zero,set_ne s1 (by omega)]; exact set_eq h1 (by omega)
 | 1,hv=>cases hv; exact set_eq s1 (by rw [Array.size_setIfInBounds]; omega)
 | j+2,hv=>simp [flK.c] at hv
theorem mark_all (n g off c k0:Nat) (w:World) (hl:n <= 2000000) (hk0:1 <= k0/\k0 <= 1000000000000) (ha:OwnO flK.c 2 136 w g off (mks k0 n) 0) :
  Calls Tryz.prog 78 #[.slice (some ⟨g,off,none⟩) n c,.int .i64 k0] w fun e w'=>e=.returned (.int .i64 (k0+2*n:Nat))/\Tn w w' (fun k=>k=g)/\OwnO flK.c 2 136 w' g off (mks k0 n) n:=by
 have HA:Hid (OwnO flK.c 2 136 w g off (mks k0 n) 0):=ha
 clear ha
 go_enter Tryz.func78,Tryz.ntmps78
 go_wp2
 go_loopw [1,5] (fun y x wr=>∃ k:Nat,k <= n/\x=.int .i64 k/\y=.int .i64 (k0+2*k:Nat)/\Tn w wr (fun k=>k=g)/\Hid (OwnO flK.c 2 136 wr g off (mks k0 n) k)) (fun _ x _=>n - (intOf x).toNat)
 case atStart=>exact ⟨0,Nat.zero_le _,rfl,rfl,Tn.refl _ _,HA⟩
 case round =>
  obtain ⟨k,hk,rfl,rfl,hbel,hf⟩:=hrel
  by_cases hkl:k < n
  ·have hg:=mks_at k0 n k hkl
   obtain ⟨m,hm⟩:∃ m,k0+2*k=m:=⟨_,rfl⟩
   rw [hm] at hg
   rw [hm]
   have hm9:m <= 9000000000000:=by omega
   have HG:Hid ((mks k0 n)[k]?=some ⟨sm.mt m,(m:Int)+1⟩):=hg
   have HM:Hid (k0+2*k=m):=hm
   have hmt:=fun W=>sm.mark_text m W (by omega) (by omega)
   have hml:=mks_len k0 n
   have h20:off+k*2 < off+(mks k0 n).length*2:=by omega
   have h21:off+k*2+1 < off+(mks k0 n).length*2:=by omega
   have hfl:=hf.out.lt
   clear hm hg hml
   go_wp2_with (go_at_call 74; refine (hmt _).mono ?_; rintro e w1 ⟨rfl,hb1⟩; have hf1:=hf.out.below hb1 hfl; obtain ⟨v0,g0⟩:=hf1.at (off+k*2) h20; have z0:=hf1.free (off+k*2); obtain ⟨v1,g1⟩:=hf1.at (off+k*2+1) h21; have z1:=hf1.free (off+k*2+1); have HN:Hid (OwnO flK.c 2 136 ((w1.setCell ⟨g,off+k*2,none⟩ (.string (sm.mt m))).setCell ⟨g,off+k*2+1,none⟩ (.int .i64 ((m:Int)+1))) g off (mks k0 n) (k+1)):=last (e:=⟨sm.mt m,(m:Int)+1⟩) hf1 HG.out; have hT1:Tn w w1 (fun k=>k=g):=hbel.trans (Tn.of _ hb1); clear hf1)
   go_roundw
   case rel=>exact ⟨k+1,by omega,by go_num,by rw [show k0+2*(k+1)=m+2 by have:=HM.out; omega]; go_num,(hT1.set rfl _ _).set rfl _ _,HN⟩
   case measure=>simp [intOf]; omega
  ·obtain rfl:k=n:=by omega
   go_wp2
   go_ret
   exact ⟨rfl,hbel,hf.out⟩
theorem held_all (n g off c k0:Nat) (w:World) (hl:n <= 2000000) (hk0:1 <= k0/\k0 <= 1000000000000) (ha:OwnO flK.c 2 136 w g off (mks k0 n) n) :
  Calls Tryz.prog 84 #[.slice (some ⟨g,off,none⟩) n c,.int .i64 k0] w fun e w'=>e=.returned (.int .i64 (k0+2*n:Nat))/\Below w.heap.size w w':=by
 have HA:Hid (OwnO flK.c 2 136 w g off (mks k0 n) n):=ha
 have hlt:=ha.lt
 clear ha
 go_enter Tryz.func84,Tryz.ntmps84
 go_wp2
 go_loopw [1,5] (fun y x wr=>∃ k:Nat,k <= n/\x=.int .i64 k/\y=.int .i64 (k0+2*k:Nat)/\Below w.heap.size w wr) (fun _ x _=>n - (intOf x).toNat)
 case atStart=>exact ⟨0,Nat.zero_le _,rfl,rfl,Below.refl _ _⟩
 case round =>
  obtain ⟨k,hk,rfl,rfl,hbel⟩:=hrel
  by_cases hkl:k < n
  ·have hg:=mks_at k0 n k hkl
   obtain ⟨m,hm⟩:∃ m,k0+2*k=m:=⟨_,rfl⟩
   rw [hm] at hg
   rw [hm]
   have hm9:m <= 9000000000000:=by omega
   have HM:Hid (k0+2*k=m):=hm
   have hR:=HA.out.below hbel hlt
   have hltr:=hR.lt
   have cs:∀ (j:Nat) (v:Value),(flK.c ⟨sm.mt m,(m:Int)+1⟩)[j]?=some v->wr.cell? ⟨g,off+k*2+j,none⟩=some v:=fun j v hv=>by
    obtain ⟨cur,h1,h2,h3⟩:=hR
    simp only [World.cell?,h1]
    simpa using h3 k _ hkl hg j v hv
   have c0:wr.cell? ⟨g,off+k*2,none⟩=some (.string (sm.mt m)):=cs 0 _ rfl
   have c1:wr.cell? ⟨g,off+k*2+1,none⟩=some (.int .i64 ((m:Int)+1)):=cs 1 _ rfl
   have hmt:=fun W=>sm.mark_text m W (by omega) (by omega)
   have i2:(k:Int) < (n:Int):=by omega
   clear hm hg hR cs
   go_wp2
   go_region_with (go_at_call 74; refine (hmt _).mono ?_; rintro e w1 ⟨rfl,hb1⟩; have d0:w1.cell? ⟨g,off+k*2,none⟩=some (.string (sm.mt m)):=(hb1.cell (by exact hltr)).trans c0; have d1:w1.cell? ⟨g,off+k*2+1,none⟩=some (.int .i64 ((m:Int)+1)):=(hb1.cell (by exact hltr)).trans c1)
   all_goals go_wp2
   all_goals go_roundw
   all_goals first | exact ⟨k+1,by omega,by go_num,by rw [show k0+2*(k+1)=m+2 by have:=HM.out; omega]; go_num,hbel.drew.trans (hb1.mono hbel.size)⟩ | (simp [intOf]; omega)
  ·obtain rfl:k=n:=by omega
   go_wp2
   go_ret
   exact ⟨rfl,hbel⟩
end Go.Proofs.YtaoefccgdfcchaaGreat.mrK
namespace Go.Proofs.YtaoefccgdfcchaaGreat.rmk
open ChangeShapes WideShapes ChangeAt RowKit fl fo
theorem mine_type {α:Type} {c:α->List Value} {n:Nat} {U:TypeId} {w:World} {B:Nat} {a:Option Addr} {l:List α} {k:Nat} (h:Mine c n U w B a l) (hk:blk a l k):∃ cur,w.heap[k]?=some (.cells cur U (0,0)):=by
 obtain ⟨hl,g,off,ha,rfl⟩:=hk
 rcases h with h | ⟨g',off',ha',_,cur,h1,_⟩
 ·exact absurd h hl
 ·rw [ha'] at ha; cases ha; exact ⟨cur,h1⟩
theorem ne_type {w:World} {k:Nat} {U V:TypeId} (hUV:U ≠ V) (h1:∃ cur,w.heap[k]?=some (.cells cur U (0,0))) (h2:∃ cur,w.heap[k]?=some (.cells cur V (0,0))):False:=by
 obtain ⟨c1,h1⟩:=h1
 obtain ⟨c2,h2⟩:=h2
 rw [h1] at h2
 simp at h2
 exact hUV h2.2
theorem mark0M (ao:Option Addr) (c k0:Nat) (w:World) (hk0:k0 <= 1000000000000) :
  Calls Tryz.prog 75 #[.slice ao 0 c,.int .i64 k0] w fun e w'=>e=.returned (.int .i64 k0)/\w'=w:=by
 go_enter Tryz.func75,Tryz.ntmps75
 go_wp2
 go_loopw [1,5] (fun y x wr=>x=.int .i64 0/\y=.int .i64 k0/\wr=w) (fun _ _ _=>0)
 case atStart=>exact ⟨rfl,rfl,rfl⟩
 case round =>
  obtain ⟨rfl,rfl,hw⟩:=hrel
  go_wp2
  go_ret
  exact ⟨rfl,by first | rfl | trivial⟩
theorem held0M (ao:Option Addr) (c k0:Nat) (w:World) (hk0:k0 <= 1000000000000) :
  Calls Tryz.prog 81 #[.slice ao 0 c,.int .i64 k0] w fun e w'=>e=.returned (.int .i64 k0)/\w'=w:=by
 go_enter Tryz.func81,Tryz.ntmps81
 go_wp2
 go_loopw [1,5] (fun y x wr=>x=.int .i64 0/\y=.int .i64 k0/\wr=w) (fun _ _ _=>0)
 case atStart=>exact ⟨rfl,rfl,rfl⟩
 case round =>
  obtain ⟨rfl,rfl,hw⟩:=hrel
  go_wp2
  go_ret
  exact ⟨rfl,by first | rfl | trivial⟩
theorem markM {B:Nat} (l:List flM.Ms) (a:Option Addr) (cap k0:Nat) (w:World) (hl:l.length <= 2000000) (hk0:1 <= k0/\k0 <= 1000000000000) (h:Mine flM.c 5 129 w B a l) :
  Calls Tryz.prog 75 #[.slice a l.length cap,.int .i64 k0] w fun e w'=>e=.returned (.int .i64 (k0+5*l.length:Nat))/\Tn w w' (blk a l)/\Mine flM.c 5 129 w' B a (mrM.mks k0 l.length):=by
 by_cases hn:l=[]
 ·subst hn
  refine (mark0M a cap k0 w hk0.2).mono ?_
  rintro e w' ⟨rfl,rfl⟩
  exact ⟨by simp,Tn.refl _ _,.inl (by simp [mrM.mks])⟩
 ·rcases h with h | ⟨g,off,rfl,hB,ho⟩
  ·exact absurd h hn
  ·exact (mrM.mark_all l.length g off cap k0 w hl hk0 (ho.any (by rw [mrM.mks_len]))).mono fun e w' ⟨h1,h2,h3⟩=>⟨h1,h2.wide (fun k hk=>⟨hn,g,off,rfl,hk⟩),.inr ⟨g,off,rfl,hB,by rw [mrM.mks_len]; exact h3⟩⟩
theorem heldM {B:Nat} (n:Nat) (a:Option Addr) (cap k0:Nat) (w:World) (hl:n <= 2000000) (hk0:1 <= k0/\k0 <= 1000000000000) (h:Mine flM.c 5 129 w B a (mrM.mks k0 n)) :
  Calls Tryz.prog 81 #[.slice a n cap,.int .i64 k0] w fun e w'=>e=.returned (.int .i64 (k0+5*n:Nat))/\Below w.heap.size w w':=by
 by_cases hn:n=0
 ·subst hn
  refine (held0M a cap k0 w hk0.2).mono ?_
  rintro e w' ⟨rfl,rfl⟩
  exact ⟨by simp,Below.refl _ _⟩
 ·rcases h with h | ⟨g,off,rfl,hB,ho⟩
  ·have:=congrArg List.length h
   rw [mrM.mks_len] at this
   simp at this
   exact absurd this hn
  ·rw [mrM.mks_len] at ho
   exact mrM.held_all n g off cap k0 w hl hk0 ho
theorem mark0H (ao:Option Addr) (c k0:Nat) (w:World) (hk0:k0 <= 1000000000000) :
  Calls Tryz.prog 76 #[.slice ao 0 c,.int .i64 k0] w fun e w'=>e=.returned (.int .i64 k0)/\w'=w:=by
 go_enter Tryz.func76,Tryz.ntmps76
 go_wp2
 go_loopw [1,5] (fun y x wr=>x=.int .i64 0/\y=.int .i64 k0/\wr=w) (fun _ _ _=>0)
 case atStart=>exact ⟨rfl,rfl,rfl⟩
 case round =>
  obtain ⟨rfl,rfl,hw⟩:=hrel
  go_wp2
  go_ret
  exact ⟨rfl,by first | rfl | trivial⟩
theorem held0H (ao:Option Addr) (c k0:Nat) (w:World) (hk0:k0 <= 1000000000000) :
  Calls Tryz.prog 82 #[.slice ao 0 c,.int .i64 k0] w fun e w'=>e=.returned (.int .i64 k0)/\w'=w:=by
 go_enter Tryz.func82,Tryz.ntmps82
 go_wp2
 go_loopw [1,5] (fun y x wr=>x=.int .i64 0/\y=.int .i64 k0/\wr=w) (fun _ _ _=>0)
 case atStart=>exact ⟨rfl,rfl,rfl⟩
 case round =>
  obtain ⟨rfl,rfl,hw⟩:=hrel
  go_wp2
  go_ret
  exact ⟨rfl,by first | rfl | trivial⟩
theorem markH {B:Nat} (l:List flH.Hd) (a:Option Addr) (cap k0:Nat) (w:World) (hl:l.length <= 2000000) (hk0:1 <= k0/\k0 <= 1000000000000) (h:Mine flH.c 7 131 w B a l) :
  Calls Tryz.prog 76 #[.slice a l.length cap,.int .i64 k0] w fun e w'=>e=.returned (.int .i64 (k0+7*l.length:Nat))/\Tn w w' (blk a l)/\Mine flH.c 7 131 w' B a (mrH.mks k0 l.length):=by
 by_cases hn:l=[]
 ·subst hn
  refine (mark0H a cap k0 w hk0.2).mono ?_
  rintro e w' ⟨rfl,rfl⟩
  exact ⟨by simp,Tn.refl _ _,.inl (by simp [mrH.mks])⟩
 ·rcases h with h | ⟨g,off,rfl,hB,ho⟩
  ·exact absurd h hn
  ·exact (mrH.mark_all l.length g off cap k0 w hl hk0 (ho.any (by rw [mrH.mks_len]))).mono fun e w' ⟨h1,h2,h3⟩=>⟨h1,h2.wide (fun k hk=>⟨hn,g,off,rfl,hk⟩),.inr ⟨g,off,rfl,hB,by rw [mrH.mks_len]; exact h3⟩⟩
theorem heldH {B:Nat} (n:Nat) (a:Option Addr) (cap k0:Nat) (w:World) (hl:n <= 2000000) (hk0:1 <= k0/\k0 <= 1000000000000) (h:Mine flH.c 7 131 w B a (mrH.mks k0 n)) :
  Calls Tryz.prog 82 #[.slice a n cap,.int .i64 k0] w fun e w'=>e=.returned (.int .i64 (k0+7*n:Nat))/\Below w.heap.size w w':=by
 by_cases hn:n=0
 ·subst hn
  refine (held0H a cap k0 w hk0.2).mono ?_
  rintro e w' ⟨rfl,rfl⟩
  exact ⟨by simp,Below.refl _ _⟩
 ·rcases h with h | ⟨g,off,rfl,hB,ho⟩
  ·have:=congrArg List.length h
   rw [mrH.mks_len] at this
   simp at this
   exact absurd this hn
  ·rw [mrH.mks_len] at ho
   exact mrH.held_all n g off cap k0 w hl hk0 ho
theorem mark0Y (ao:Option Addr) (c k0:Nat) (w:World) (hk0:k0 <= 1000000000000) :
  Calls Tryz.prog 77 #[.slice ao 0 c,.int .i64 k0] w fun e w'=>e=.returned (.int .i64 k0)/\w'=w:=by
 go_enter Tryz.func77,Tryz.ntmps77
 go_wp2
 go_loopw [1,5] (fun y x wr=>x=.int .i64 0/\y=.int .i64 k0/\wr=w) (fun _ _ _=>0)
 case atStart=>exact ⟨rfl,rfl,rfl⟩
 case round =>
  obtain ⟨rfl,rfl,hw⟩:=hrel
  go_wp2
  go_ret
  exact ⟨rfl,by first | rfl | trivial⟩
theorem held0Y (ao:Option Addr) (c k0:Nat) (w:World) (hk0:k0 <= 1000000000000) :
  Calls Tryz.prog 83 #[.slice ao 0 c,.int .i64 k0] w fun e w'=>e=.returned (.int .i64 k0)/\w'=w:=by
 go_enter Tryz.func83,Tryz.ntmps83
 go_wp2
 go_loopw [1,5] (fun y x wr=>x=.int .i64 0/\y=.int .i64 k0/\wr=w) (fun _ _ _=>0)
 case atStart=>exact ⟨rfl,rfl,rfl⟩
 case round =>
  obtain ⟨rfl,rfl,hw⟩:=hrel
  go_wp2
  go_ret
  exact ⟨rfl,by first | rfl | trivial⟩
theorem markY {B:Nat} (l:List flY.En) (a:Option Addr) (cap k0:Nat) (w:World) (hl:l.length <= 2000000) (hk0:1 <= k0/\k0 <= 1000000000000) (h:Mine flY.c 3 134 w B a l) :
  Calls Tryz.prog 77 #[.slice a l.length cap,.int .i64 k0] w fun e w'=>e=.returned (.int .i64 (k0+3*l.length:Nat))/\Tn w w' (blk a l)/\Mine flY.c 3 134 w' B a (mrY.mks k0 l.length):=by
 by_cases hn:l=[]
 ·subst hn
  refine (mark0Y a cap k0 w hk0.2).mono ?_
  rintro e w' ⟨rfl,rfl⟩
  exact ⟨by simp,Tn.refl _ _,.inl (by simp [mrY.mks])⟩
 ·rcases h with h | ⟨g,off,rfl,hB,ho⟩
  ·exact absurd h hn
  ·exact (mrY.mark_all l.length g off cap k0 w hl hk0 (ho.any (by rw [mrY.mks_len]))).mono fun e w' ⟨h1,h2,h3⟩=>⟨h1,h2.wide (fun k hk=>⟨hn,g,off,rfl,hk⟩),.inr ⟨g,off,rfl,hB,by rw [mrY.mks_len]; exact h3⟩⟩
theorem heldY {B:Nat} (n:Nat) (a:Option Addr) (cap k0:Nat) (w:World) (hl:n <= 2000000) (hk0:1 <= k0/\k0 <= 1000000000000) (h:Mine flY.c 3 134 w B a (mrY.mks k0 n)) :
  Calls Tryz.prog 83 #[.slice a n cap,.int .i64 k0] w fun e w'=>e=.returned (.int .i64 (k0+3*n:Nat))/\Below w.heap.size w w':=by
 by_cases hn:n=0
 ·subst hn
  refine (held0Y a cap k0 w hk0.2).mono ?_
  rintro e w' ⟨rfl,rfl⟩
  exact ⟨by simp,Below.refl _ _⟩
 ·rcases h with h | ⟨g,off,rfl,hB,ho⟩
  ·have:=congrArg List.length h
   rw [mrY.mks_len] at this
   simp at this
   exact absurd this hn
  ·rw [mrY.mks_len] at ho
   exact mrY.held_all n g off cap k0 w hl hk0 ho
theorem mark0K (ao:Option Addr) (c k0:Nat) (w:World) (hk0:k0 <= 1000000000000) :
  Calls Tryz.prog 78 #[.slice ao 0 c,.int .i64 k0] w fun e w'=>e=.returned (.int .i64 k0)/\w'=w:=by
 go_enter Tryz.func78,Tryz.ntmps78
 go_wp2
 go_loopw [1,5] (fun y x wr=>x=.int .i64 0/\y=.int .i64 k0/\wr=w) (fun _ _ _=>0)
 case atStart=>exact ⟨rfl,rfl,rfl⟩
 case round =>
  obtain ⟨rfl,rfl,hw⟩:=hrel
  go_wp2
  go_ret
  exact ⟨rfl,by first | rfl | trivial⟩
theorem held0K (ao:Option Addr) (c k0:Nat) (w:World) (hk0:k0 <= 1000000000000) :
  Calls Tryz.prog 84 #[.slice ao 0 c,.int .i64 k0] w fun e w'=>e=.returned (.int .i64 k0)/\w'=w:=by
 go_enter Tryz.func84,Tryz.ntmps84
 go_wp2
 go_loopw [1,5] (fun y x wr=>x=.int .i64 0/\y=.int .i64 k0/\wr=w) (fun _ _ _=>0)
 case atStart=>exact ⟨rfl,rfl,rfl⟩
 case round =>
  obtain ⟨rfl,rfl,hw⟩:=hrel
  go_wp2
  go_ret
  exact ⟨rfl,by first | rfl | trivial⟩
theorem markK {B:Nat} (l:List rr.Ex) (a:Option Addr) (cap k0:Nat) (w:World) (hl:l.length <= 2000000) (hk0:1 <= k0/\k0 <= 1000000000000) (h:Mine flK.c 2 136 w B a l) :
  Calls Tryz.prog 78 #[.slice a l.length cap,.int .i64 k0] w fun e w'=>e=.returned (.int .i64 (k0+2*l.length:Nat))/\Tn w w' (blk a l)/\Mine flK.c 2 136 w' B a (mrK.mks k0 l.length):=by
 by_cases hn:l=[]
 ·subst hn
  refine (mark0K a cap k0 w hk0.2).mono ?_
  rintro e w' ⟨rfl,rfl⟩
  exact ⟨by simp,Tn.refl _ _,.inl (by simp [mrK.mks])⟩
 ·rcases h with h | ⟨g,off,rfl,hB,ho⟩
  ·exact absurd h hn
  ·exact (mrK.mark_all l.length g off cap k0 w hl hk0 (ho.any (by rw [mrK.mks_len]))).mono fun e w' ⟨h1,h2,h3⟩=>⟨h1,h2.wide (fun k hk=>⟨hn,g,off,rfl,hk⟩),.inr ⟨g,off,rfl,hB,by rw [mrK.mks_len]; exact h3⟩⟩
theorem heldK {B:Nat} (n:Nat) (a:Option Addr) (cap k0:Nat) (w:World) (hl:n <= 2000000) (hk0:1 <= k0/\k0 <= 1000000000000) (h:Mine flK.c 2 136 w B a (mrK.mks k0 n)) :
  Calls Tryz.prog 84 #[.slice a n cap,.int .i64 k0] w fun e w'=>e=.returned (.int .i64 (k0+2*n:Nat))/\Below w.heap.size w w':=by
 by_cases hn:n=0
 ·subst hn
  refine (held0K a cap k0 w hk0.2).mono ?_
  rintro e w' ⟨rfl,rfl⟩
  exact ⟨by simp,Below.refl _ _⟩
 ·rcases h with h | ⟨g,off,rfl,hB,ho⟩
  ·have:=congrArg List.length h
   rw [mrK.mks_len] at this
   simp at this
   exact absurd this hn
  ·rw [mrK.mks_len] at ho
   exact mrK.held_all n g off cap k0 w hl hk0 ho
end Go.Proofs.YtaoefccgdfcchaaGreat.rmk
namespace Go.Proofs.YtaoefccgdfcchaaGreat.ql
open ChangeShapes WideShapes ChangeAt RowKit fl
theorem eq_queue (nm:ByteArray) (nx:Int) (rs:List flM.Ms) (hs:List flH.Hd) (ra ra' ha ha':Option Addr) (rc rc' hc hc':Nat) (w:World) (hrl:rs.length <= maxLen) (hhl:hs.length <= maxLen) (h1:Row flM.c 5 w w.heap.size ra rs) (h2:Row flM.c 5 w w.heap.size ra' rs) (h3:Row flH.c 7 w w.heap.size ha hs) (h4:Row flH.c 7 w w.heap.size ha' hs) :
  Calls Tryz.prog 70 #[.agg #[.string nm,.int .i64 nx,.slice ra rs.length rc,.slice ha hs.length hc],.agg #[.string nm,.int .i64 nx,.slice ra' rs.length rc',.slice ha' hs.length hc']] w fun e w'=>e=.returned (.bool true)/\Below w.heap.size w w':=by
 obtain ⟨W,hW,hb,hA,hB,_⟩:=fl.bx2 w #[.string nm,.int .i64 nx,.slice ra rs.length rc,.slice ha hs.length hc] #[.string nm,.int .i64 nx,.slice ra' rs.length rc',.slice ha' hs.length hc'] 58 58
 have he:=flM.eq_all rs ra ra' rc rc' W hrl (h1.inn hb) (h2.inn hb)
 have HB3:Hid (Row flH.c 7 W W.heap.size ha hs):=h3.inn hb
 have HB4:Hid (Row flH.c 7 W W.heap.size ha' hs):=h4.inn hb
 have x0:W.cell? ⟨w.heap.size,0,none⟩=some (.string nm):=bcell hA rfl
 have x1:W.cell? ⟨w.heap.size,1,none⟩=some (.int .i64 nx):=bcell hA rfl
 have x2:W.cell? ⟨w.heap.size,2,none⟩=some (.slice ra rs.length rc):=bcell hA rfl
 have y0:W.cell? ⟨w.heap.size+1,0,none⟩=some (.string nm):=bcell hB rfl
 have y1:W.cell? ⟨w.heap.size+1,1,none⟩=some (.int .i64 nx):=bcell hB rfl
 have y2:W.cell? ⟨w.heap.size+1,2,none⟩=some (.slice ra' rs.length rc'):=bcell hB rfl
 have HA:Hid (W.heap[w.heap.size]?=some (.cells #[.string nm,.int .i64 nx,.slice ra rs.length rc,.slice ha hs.length hc] 58 (0,0))):=hA
 have HBB:Hid (W.heap[w.heap.size+1]?=some (.cells #[.string nm,.int .i64 nx,.slice ra' rs.length rc',.slice ha' hs.length hc'] 58 (0,0))):=hB
 have la:=(Array.getElem?_eq_some_iff.1 hA).1
 have lb:=(Array.getElem?_eq_some_iff.1 hB).1
 clear h1 h2 h3 h4 hA hB
 go_enter Tryz.func70,Tryz.ntmps70
 go_wp2_with (go_at_call 130; fail)
 refine he.mono ?_
 rintro e w1 ⟨rfl,hb1⟩
 have x1:w1.cell? ⟨w.heap.size,3,none⟩=some (.slice ha hs.length hc):=bcell (bstay HA.out hb1 la) rfl
 have y1:w1.cell? ⟨w.heap.size+1,3,none⟩=some (.slice ha' hs.length hc'):=bcell (bstay HBB.out hb1 lb) rfl
 have hq:=flH.eq_all hs ha ha' hc hc' w1 hhl (HB3.out.inn hb1) (HB4.out.inn hb1)
 clear he x0 x2 y0 y2 hW
 go_wp2_with (go_at_call 131; refine hq.mono ?_; rintro e w2 ⟨rfl,hb2⟩)
 go_ret
 exact ⟨rfl,hb.trans ((hb1.trans (hb2.mono hb1.size)).mono hb.size)⟩
theorem to_queue (nm:ByteArray) (nx:Int) (rs:List flM.Ms) (hs:List flH.Hd) (ra ha:Option Addr) (rc hc:Nat) (w:World) (hrl:rs.length <= 1048576) (hhl:hs.length <= 1048576) (hR:Row flM.c 5 w w.heap.size ra rs) (hH:Row flH.c 7 w w.heap.size ha hs) :
  Calls Tryz.prog 49 #[.agg #[.string nm,.int .i64 nx,.slice ra rs.length rc,.slice ha hs.length hc]] w fun e w'=>∃ g h,e=.returned (.agg #[.string nm,.int .i64 nx,.slice (some ⟨g,0,none⟩) rs.length rs.length,.slice (some ⟨h,0,none⟩) hs.length hs.length])/\w.heap.size <= g/\w.heap.size <= h/\g ≠ h /\
   Own flM.c 5 129 w' g rs rs.length/\Own flH.c 7 131 w' h hs hs.length/\Below w.heap.size w w':=by
 have hb:Below w.heap.size w (((w.alloc (.cells #[.string nm,.int .i64 nx,.slice ra rs.length rc,.slice ha hs.length hc] 80)).alloc (.cells #[.string ByteArray.empty,.int .i64 0,.slice none 0 0,.slice none 0 0] 58)).alloc (.cells #[.string nm,.int .i64 nx,.slice none 0 0,.slice none 0 0] 58)):=(((Below.refl _ _).alloc (Nat.le_refl _) _).alloc (by simp) _).alloc (by simp; omega) _
 have hA:=bold (bold (bnew w #[.string nm,.int .i64 nx,.slice ra rs.length rc,.slice ha hs.length hc] 80) (.cells #[.string ByteArray.empty,.int .i64 0,.slice none 0 0,.slice none 0 0] 58)) (.cells #[.string nm,.int .i64 nx,.slice none 0 0,.slice none 0 0] 58)
 have hRr:=bold (bnew (w.alloc (.cells #[.string nm,.int .i64 nx,.slice ra rs.length rc,.slice ha hs.length hc] 80)) #[.string ByteArray.empty,.int .i64 0,.slice none 0 0,.slice none 0 0] 58) (.cells #[.string nm,.int .i64 nx,.slice none 0 0,.slice none 0 0] 58)
 have hO:=bnew ((w.alloc (.cells #[.string nm,.int .i64 nx,.slice ra rs.length rc,.slice ha hs.length hc] 80)).alloc (.cells #[.string ByteArray.empty,.int .i64 0,.slice none 0 0,.slice none 0 0] 58)) #[.string nm,.int .i64 nx,.slice none 0 0,.slice none 0 0] 58
 rw [World.size_alloc] at hRr
 rw [World.size_alloc,World.size_alloc] at hO
 have hS:(((w.alloc (.cells #[.string nm,.int .i64 nx,.slice ra rs.length rc,.slice ha hs.length hc] 80)).alloc (.cells #[.string ByteArray.empty,.int .i64 0,.slice none 0 0,.slice none 0 0] 58)).alloc (.cells #[.string nm,.int .i64 nx,.slice none 0 0,.slice none 0 0] 58)).heap.size=w.heap.size+3:=by simp
 obtain ⟨W,hW⟩:∃ W,((w.alloc (.cells #[.string nm,.int .i64 nx,.slice ra rs.length rc,.slice ha hs.length hc] 80)).alloc (.cells #[.string ByteArray.empty,.int .i64 0,.slice none 0 0,.slice none 0 0] 58)).alloc (.cells #[.string nm,.int .i64 nx,.slice none 0 0,.slice none 0 0] 58)=W:=⟨_,rfl⟩
 rw [hW] at hb hA hRr hO hS
 have he:=flM.to_all rs ra rc W hrl (hR.inn hb)
 have hS3:w.heap.size+3 <= W.heap.size:=by omega
 have HH:Hid (Row flH.c 7 w w.heap.size ha hs):=hH
 have x0:W.cell? ⟨w.heap.size,2,none⟩=some (.slice ra rs.length rc):=bcell hA rfl
 have HA:Hid (W.heap[w.heap.size]?=some (.cells #[.string nm,.int .i64 nx,.slice ra rs.length rc,.slice ha hs.length hc] 80 (0,0))):=hA
 have HR:Hid (W.heap[w.heap.size+1]?=some (.cells #[.string ByteArray.empty,.int .i64 0,.slice none 0 0,.slice none 0 0] 58 (0,0))):=hRr
 have HO:Hid (W.heap[w.heap.size+1+1]?=some (.cells #[.string nm,.int .i64 nx,.slice none 0 0,.slice none 0 0] 58 (0,0))):=hO
 clear hR hH hA hRr hO hS
 go_enter Tryz.func49,Tryz.ntmps49
 go_wp2_with (go_at_call 100; fail)
 rw [<- hW] at he
 refine he.mono ?_
 rintro e w1 ⟨rfl,hre,hb1⟩
 rw [hW] at hre hb1 ⊢
 clear hW he
 have hs1:=hb1.size
 have o1:=bstay HO.out hb1 (by omega)
 have o0c:w1.cell? ⟨w.heap.size+1+1,2,none⟩=some (.slice none 0 0):=bcell o1 rfl
 have o0f:=bfree o1 2
 have o2:(w1.setCell ⟨w.heap.size+1+1,2,none⟩ (.slice (some ⟨W.heap.size,0,none⟩) rs.length rs.length)).heap[w.heap.size+1+1]?=some (.cells #[.string nm,.int .i64 nx,.slice (some ⟨W.heap.size,0,none⟩) rs.length rs.length,.slice none 0 0] 58 (0,0)):=bset o1 2 (.slice (some ⟨W.heap.size,0,none⟩) rs.length rs.length)
 have a2:=boff (bstay HA.out hb1 (by omega)) (w.heap.size+1+1) 2 (.slice (some ⟨W.heap.size,0,none⟩) rs.length rs.length) (by omega)
 have r2:=boff (bstay HR.out hb1 (by omega)) (w.heap.size+1+1) 2 (.slice (some ⟨W.heap.size,0,none⟩) rs.length rs.length) (by omega)
 have hbw2:Below w.heap.size w (w1.setCell ⟨w.heap.size+1+1,2,none⟩ (.slice (some ⟨W.heap.size,0,none⟩) rs.length rs.length)):=(hb.trans (hb1.mono (by omega))).setCell (by show w.heap.size <= w.heap.size+1+1; omega) _
 have re2:Own flM.c 5 129 (w1.setCell ⟨w.heap.size+1+1,2,none⟩ (.slice (some ⟨W.heap.size,0,none⟩) rs.length rs.length)) W.heap.size rs rs.length:=hre.kept (Below.heap_setCell w1 _ _ _ (by show W.heap.size ≠ w.heap.size+1+1; omega))
 have hsz2:(w1.setCell ⟨w.heap.size+1+1,2,none⟩ (.slice (some ⟨W.heap.size,0,none⟩) rs.length rs.length)).heap.size=w1.heap.size:=by simp
 have hq:=flH.to_all hs ha hc _ hhl (HH.out.inn hbw2)
 obtain ⟨W2,hW2⟩:∃ W2,w1.setCell ⟨w.heap.size+1+1,2,none⟩ (.slice (some ⟨W.heap.size,0,none⟩) rs.length rs.length)=W2:=⟨_,rfl⟩
 rw [hW2] at o2 a2 r2 hbw2 re2 hsz2 hq
 have a1c:W2.cell? ⟨w.heap.size,3,none⟩=some (.slice ha hs.length hc):=bcell a2 rfl
 have HO2:Hid (W2.heap[w.heap.size+1+1]?=some (.cells #[.string nm,.int .i64 nx,.slice (some ⟨W.heap.size,0,none⟩) rs.length rs.length,.slice none 0 0] 58 (0,0))):=o2
 have HR2:Hid (W2.heap[w.heap.size+1]?=some (.cells #[.string ByteArray.empty,.int .i64 0,.slice none 0 0,.slice none 0 0] 58 (0,0))):=r2
 have HRE:Hid (Own flM.c 5 129 W2 W.heap.size rs rs.length):=re2
 have hl2:w.heap.size+3 <= W2.heap.size:=by omega
 have hlt2:W.heap.size < W2.heap.size:=re2.lt
 clear x0 hre o1 o2 a2 r2 re2
 go_wp2_with (go_at_call 101; fail)
 clear hW2
 refine hq.mono ?_
 rintro e w3 ⟨rfl,hrb,hb3⟩
 have hs3:=hb3.size
 have u:=bstay HO2.out hb3 (by omega)
 have v:=bstay HR2.out hb3 (by omega)
 obtain ⟨u0,u1,u2,u3⟩:=fl.q4 u
 have uf:=bfree u 3
 obtain ⟨v0,v1,v2,v3⟩:=fl.q4 v
 obtain ⟨vf0,vf1,vf2,vf3⟩:=fl.r4 v
 have HRB:Hid (Own flH.c 7 131 w3 W2.heap.size hs hs.length):=hrb
 have HRE3:Hid (Own flM.c 5 129 w3 W.heap.size rs rs.length):=HRE.out.below hb3 hlt2
 have hbw3:Below w.heap.size w w3:=hbw2.trans (hb3.mono (by omega))
 clear hq u v hrb a1c o0c o0f
 go_wp2
 refine bodyPost_ret (v:=.agg #[.string nm,.int .i64 nx,.slice (some ⟨W.heap.size,0,none⟩) rs.length rs.length,.slice (some ⟨W2.heap.size,0,none⟩) hs.length hs.length]) (by simp [results,Tryz.results49,go_sem,v0,v1,v2,v3]) rfl ⟨W.heap.size,W2.heap.size,rfl,by omega,by omega,by omega,?_,?_,?_⟩
 ·exact ((((HRE3.out.kept (Below.heap_setCell _ _ _ _ (by show W.heap.size ≠ w.heap.size+1+1; omega))).kept (Below.heap_setCell _ _ _ _ (by show W.heap.size ≠ w.heap.size+1; omega))).kept (Below.heap_setCell _ _ _ _ (by show W.heap.size ≠ w.heap.size+1; omega))).kept (Below.heap_setCell _ _ _ _ (by show W.heap.size ≠ w.heap.size+1; omega))).kept (Below.heap_setCell _ _ _ _ (by show W.heap.size ≠ w.heap.size+1; omega))
 ·exact ((((HRB.out.kept (Below.heap_setCell _ _ _ _ (by show W2.heap.size ≠ w.heap.size+1+1; omega))).kept (Below.heap_setCell _ _ _ _ (by show W2.heap.size ≠ w.heap.size+1; omega))).kept (Below.heap_setCell _ _ _ _ (by show W2.heap.size ≠ w.heap.size+1; omega))).kept (Below.heap_setCell _ _ _ _ (by show W2.heap.size ≠ w.heap.size+1; omega))).kept (Below.heap_setCell _ _ _ _ (by show W2.heap.size ≠ w.heap.size+1; omega))
 ·exact ((((hbw3.setCell (by show w.heap.size <= w.heap.size+1+1; omega) _).setCell (by show w.heap.size <= w.heap.size+1; omega) _).setCell (by show w.heap.size <= w.heap.size+1; omega) _).setCell (by show w.heap.size <= w.heap.size+1; omega) _).setCell (by show w.heap.size <= w.heap.size+1; omega) _
end Go.Proofs.YtaoefccgdfcchaaGreat.ql
namespace Go.Proofs.YtaoefccgdfcchaaGreat.qu
open ChangeShapes WideShapes ChangeAt RowKit fl
structure E where
 nm:ByteArray
 nx:Int
 ra:Option Addr
 rc:Nat
 rs:List flM.Ms
 ha:Option Addr
 hc:Nat
 hs:List flH.Hd
def c (r:E):List Value:=[.string r.nm,.int .i64 r.nx,.slice r.ra r.rs.length r.rc,.slice r.ha r.hs.length r.hc]
theorem c_len (r:E):(c r).length=4:=rfl
def V (w:World) (B:Nat) (a:Option Addr) (l:List E):Prop:=Row c 4 w B a l/\∀ r ∈ l,Row flM.c 5 w B r.ra r.rs/\Row flH.c 7 w B r.ha r.hs
theorem V.inn {w w':World} {a:Option Addr} {l:List E} (h:V w w.heap.size a l) (hb:Below w.heap.size w w'):V w' w'.heap.size a l:=⟨h.1.inn hb,fun r hr=>⟨(h.2 r hr).1.inn hb,(h.2 r hr).2.inn hb⟩⟩
def wt (r:E):Nat:=r.nm.size+r.rs.length+bulk flM.wt r.rs+r.hs.length+bulk flH.wt r.hs
def ok (r:E):Prop:=r.nm.size <= maxLen/\r.rs.length <= maxLen/\r.hs.length <= maxLen/\(∀ e ∈ r.rs,flM.ok e)/\∀ e ∈ r.hs,flH.ok e
theorem sz_one (nm:ByteArray) (nx:Int) (rs:List flM.Ms) (hs:List flH.Hd) (ra ha:Option Addr) (rc hc:Nat) (left:Int) (w:World) (h0:-1 <= left) (h1:left <= 1048576) (hnm:nm.size <= maxLen) (hrl:rs.length <= maxLen) (hhl:hs.length <= maxLen) (hro:∀ e ∈ rs,flM.ok e) (hho:∀ e ∈ hs,flH.ok e) (hR:Row flM.c 5 w w.heap.size ra rs) (hH:Row flH.c 7 w w.heap.size ha hs) :
  Calls Tryz.prog 39 #[.agg #[.string nm,.int .i64 nx,.slice ra rs.length rc,.slice ha hs.length hc],.int .i64 left] w fun e w'=>∃ r:Int,e=.returned (.int .i64 r)/\(0 <= r->r=left - nm.size - rs.length - bulk flM.wt rs - hs.length - bulk flH.wt hs)/\-1 <= r/\r <= 1048576/\Below w.heap.size w w':=by
 have hnm':nm.size <= 9223372036854775807:=hnm
 by_cases hneg:left - nm.size < 0
 ·go_enter Tryz.func39,Tryz.ntmps39
  go_wp2
  go_ret
  exact ⟨-1,rfl,by omega,by omega,by omega,(Below.refl _ _).alloc (Nat.le_refl _) _⟩
 have hb:=fl.bl w (.cells #[.string nm,.int .i64 nx,.slice ra rs.length rc,.slice ha hs.length hc] 80)
 have hA:=bnew w #[.string nm,.int .i64 nx,.slice ra rs.length rc,.slice ha hs.length hc] 80
 obtain ⟨W,hW⟩:∃ W,w.alloc (.cells #[.string nm,.int .i64 nx,.slice ra rs.length rc,.slice ha hs.length hc] 80)=W:=⟨_,rfl⟩
 rw [hW] at hb hA
 have he:=flM.sz_all rs ra rc (left - nm.size) W hrl hro (by omega) (by omega) (hR.inn hb)
 have HB3:Hid (Row flH.c 7 W W.heap.size ha hs):=hH.inn hb
 have x0:W.cell? ⟨w.heap.size,0,none⟩=some (.string nm):=bcell hA rfl
 have x2:W.cell? ⟨w.heap.size,2,none⟩=some (.slice ra rs.length rc):=bcell hA rfl
 have HA:Hid (W.heap[w.heap.size]?=some (.cells #[.string nm,.int .i64 nx,.slice ra rs.length rc,.slice ha hs.length hc] 80 (0,0))):=hA
 have la:=(Array.getElem?_eq_some_iff.1 hA).1
 have HBS:Hid (∀ e ∈ hs,flH.ok e):=hho
 clear hR hH hA hro hho
 go_enter Tryz.func39,Tryz.ntmps39
 go_wp2_with (go_at_call 87; fail)
 refine he.mono ?_
 rintro e w1 ⟨r,rfl,hr,hr0,hr1,hb1⟩
 clear hW x0 x2
 by_cases hneg:r < 0
 ·go_wp2
  go_ret
  exact ⟨-1,rfl,by omega,by omega,by omega,hb.trans (hb1.mono hb.size)⟩
 ·have x1:w1.cell? ⟨w.heap.size,3,none⟩=some (.slice ha hs.length hc):=bcell (bstay HA.out hb1 la) rfl
  have hq:=flH.sz_all hs ha hc r w1 hhl HBS.out (by omega) (by omega) (HB3.out.inn hb1)
  have HR:Hid (r=left - nm.size - rs.length - bulk flM.wt rs):=hr (by omega)
  clear he hr
  go_wp2_with (go_at_call 88; fail)
  refine hq.mono ?_
  rintro e w2 ⟨r2,rfl,hr2,hr20,hr21,hb2⟩
  have hfin:Below w.heap.size w w2:=hb.trans ((hb1.trans (hb2.mono hb1.size)).mono hb.size)
  have HR2:Hid (0 <= r2->r2=r - hs.length - bulk flH.wt hs):=hr2
  clear hq hr2
  by_cases hneg2:r2 < 0
  ·go_wp2
   go_ret
   exact ⟨-1,rfl,by omega,by omega,by omega,hfin⟩
  ·go_wp2
   go_ret
   exact ⟨r2,rfl,fun h=>by have h3:=HR2.out h; have h4:=HR.out; omega,by omega,by omega,hfin⟩
theorem sz_all (l:List E) (a:Option Addr) (cap:Nat) (left:Int) (w:World) (hl:l.length <= maxLen) (hx:∀ e ∈ l,ok e) (h0:-1 <= left) (h1:left <= 1048576) (hS:V w w.heap.size a l) :
  Calls Tryz.prog 12 #[.slice a l.length cap,.int .i64 left] w fun e w'=>∃ r:Int,e=.returned (.int .i64 r)/\(0 <= r->r=left - l.length - bulk wt l)/\-1 <= r/\r <= 1048576/\Below w.heap.size w w':=by
 have hl':=hl
 unfold maxLen at hl'
 by_cases hneg:left - l.length < 0
 ·go_enter Tryz.func12,Tryz.ntmps12
  go_wp2
  go_ret
  exact ⟨-1,rfl,by omega,by omega,by omega,Below.refl _ _⟩
 have HVR:Hid (∀ r ∈ l,Row flM.c 5 w w.heap.size r.ra r.rs/\Row flH.c 7 w w.heap.size r.ha r.hs):=hS.2
 rcases hS.1 with rfl | ⟨b,off,rfl,hlt,hc⟩
 ·go_enter Tryz.func12,Tryz.ntmps12
  go_wp2
  refine wp_loop_rounds 1 ?_
  rw [rounds_succ]
  go_wp2
  go_ret
  exact ⟨_,rfl,fun _=>by simp [bulk],by simp at hneg; omega,by simp at hneg; omega,Below.refl _ _⟩
 ·have HC:Hid (∀ (i:Nat) (e:E),l[i]?=some e->∀ (j:Nat) (v:Value),(c e)[j]?=some v->w.cell? ⟨b,off+i*4+j,none⟩=some v):=hc
  have HX:Hid (∀ e ∈ l,ok e):=hx
  clear hc hx hS
  go_enter Tryz.func12,Tryz.ntmps12
  go_wp2
  go_loopw [1,5] (fun y x wr=>∃ k:Nat,k <= l.length/\x=.int .i64 k/\y=.int .i64 (left - l.length - bulk wt (l.take k))/\0 <= left - l.length - bulk wt (l.take k)/\Below w.heap.size w wr) (fun _ x _=>l.length - (intOf x).toNat)
  case atStart=>exact ⟨0,Nat.zero_le _,rfl,by simp [bulk],by simp [bulk]; omega,Below.refl _ _⟩
  case round =>
   obtain ⟨k,hk,rfl,rfl,hr0,hbel⟩:=hrel
   have hbs:=hbel.size
   by_cases hkl:k < l.length
   ·have HG:Hid (l[k]?=some l[k]):=List.getElem?_eq_getElem hkl
    have hxs:=HX.out l[k] (List.getElem_mem hkl)
    have hrow:=HVR.out l[k] (List.getElem_mem hkl)
    have HBK:Hid (bulk wt (l.take (k+1))=bulk wt (l.take k)+wt l[k]):=bulk_take wt hkl
    obtain ⟨⟨nm,nx,ra,rc,rs,ha,hc,hs⟩,he⟩:∃ e,l[k]=e:=⟨_,rfl⟩
    rw [he] at hxs HBK HG hrow
    have c0:wr.cell? ⟨b,off+k*4,none⟩=some (.string nm):=(hbel.cell (p:=⟨b,off+k*4,none⟩) hlt).trans (by have:=HC.out k _ HG.out 0 _ rfl; simpa using this)
    have c1:wr.cell? ⟨b,off+k*4+1,none⟩=some (.int .i64 nx):=(hbel.cell (p:=⟨b,off+k*4+1,none⟩) hlt).trans (by have:=HC.out k _ HG.out 1 _ rfl; simpa using this)
    have c2:wr.cell? ⟨b,off+k*4+2,none⟩=some (.slice ra rs.length rc):=(hbel.cell (p:=⟨b,off+k*4+2,none⟩) hlt).trans (by have:=HC.out k _ HG.out 2 _ rfl; simpa using this)
    have c3:wr.cell? ⟨b,off+k*4+3,none⟩=some (.slice ha hs.length hc):=(hbel.cell (p:=⟨b,off+k*4+3,none⟩) hlt).trans (by have:=HC.out k _ HG.out 3 _ rfl; simpa using this)
    obtain ⟨m,hm⟩:∃ m,bulk wt (l.take k)=m:=⟨_,rfl⟩
    rw [hm] at HBK hr0 ⊢
    have hone:=sz_one nm nx rs hs ra ha rc hc (left - l.length - m) wr (by omega) (by omega) hxs.1 hxs.2.1 hxs.2.2.1 hxs.2.2.2.1 hxs.2.2.2.2 ((hrow.1).inn hbel) ((hrow.2).inn hbel)
    obtain ⟨wv,hwt⟩:∃ wv,wt ⟨nm,nx,ra,rc,rs,ha,hc,hs⟩=wv:=⟨_,rfl⟩
    have HWV:Hid (nm.size+rs.length+bulk flM.wt rs+hs.length+bulk flH.wt hs=wv):=hwt
    rw [hwt] at HBK
    clear hm he hwt hxs hrow
    go_wp2_with (go_at_call 39; fail)
    refine hone.mono ?_
    rintro e w1 ⟨r,rfl,hr,hr1,hr2,hb1⟩
    clear hone c0 c1 c2 c3
    by_cases hlo:r < 0
    ·go_wp2
     go_ret
     exact ⟨-1,rfl,by omega,by omega,by omega,hbel.trans (hb1.mono hbs)⟩
    ·have HRR:Hid (r=left - l.length - m - (wv:Int)):=by have h1:=hr (by omega); have h2:=HWV.out; unfold Hid; omega
     have hr3:(0:Int) <= r:=by omega
     clear hr
     go_wp2
     go_roundw
     case rel=>exact ⟨k+1,by omega,by go_num,by rw [HBK.out,HRR.out]; congr 1; omega,by rw [HBK.out]; have:=HRR.out; omega,hbel.trans (hb1.mono hbs)⟩
     case measure=>simp [intOf]; omega
   ·obtain rfl:k=l.length:=by omega
    rw [List.take_length] at hr0 ⊢
    go_wp2
    go_ret
    exact ⟨_,rfl,fun _=>rfl,by omega,by omega,hbel⟩
end Go.Proofs.YtaoefccgdfcchaaGreat.qu
