/- TableSize, of the specification and of the program: how many pairs there are; new memory alone. -/
import Derived.Test.YtggheonbjjgajaaLayers
namespace Go.Proofs.Ytggheonbjjgajaa.tsz
open Go.ChangeShapes Go.WideShapes Go.ChangeAt Go.RowKit Go.Proofs.Ytggheonbjjgajaa.fl Go.Proofs.Ytggheonbjjgajaa.rn
set_option linter.unusedVariables false

def ln (r : Rn) : Nat := r.l.length
def szT (ys : List flP.Pr) (ls : List (List flP.Pr)) : Nat := ys.length + bulk List.length ls
theorem bulk_ln : ∀ rs : List Rn, bulk List.length (rs.map (·.l)) = bulk ln rs
  | [] => rfl
  | r :: rs => by simp only [List.map_cons, bulk, bulk_ln rs, ln]
theorem bulk_small {rs : List Rn} (h : ∀ r ∈ rs, r.l.length ≤ 1048576) : bulk ln rs ≤ rs.length * 1048576 := by
  induction rs with
  | nil => simp [bulk]
  | cons r rs ih =>
    have h1 := h r (by simp)
    have h2 := ih (fun r hr => h r (by simp [hr]))
    simp only [bulk, List.length_cons, ln]
    omega
theorem bulk_take_small {rs : List Rn} (h : ∀ r ∈ rs, r.l.length ≤ 1048576) (hl : rs.length ≤ 1048577) (k : Nat) : bulk ln (rs.take k) ≤ 1099512676352 := by
  have h1 := bulk_small (rs := rs.take k) (fun r hr => h r (List.mem_of_mem_take hr))
  have h2 : (rs.take k).length ≤ rs.length := by rw [List.length_take]; omega
  omega

set_option maxRecDepth 100000 in
set_option maxHeartbeats 1000000 in
theorem spec_size (ys : List flP.Pr) (rs : List Rn) (ya ra : Option Addr) (yc rc : Nat) (w : World) (F : tb.Fit ys rs) (hY : Row flP.c 3 w w.heap.size ya ys) (hR : VR w w.heap.size ra rs) :
    Calls Try.prog 23 #[.agg #[.slice ya ys.length yc, .slice ra rs.length rc]] w fun r w' => r = .returned (.int .i64 (szT ys (rs.map (·.l)))) ∧ Below w.heap.size w w' := by
  have hb : Below w.heap.size w (w.alloc (.cells #[.slice ya ys.length yc, .slice ra rs.length rc] 27)) := (Below.refl _ _).alloc (Nat.le_refl _) _
  have hA := bnew w #[.slice ya ys.length yc, .slice ra rs.length rc] 27
  obtain ⟨W, hW⟩ : ∃ W, w.alloc (.cells #[.slice ya ys.length yc, .slice ra rs.length rc] 27) = W := ⟨_, rfl⟩
  rw [hW] at hb hA
  have HSM : Hid (∀ k, bulk ln (rs.take k) ≤ 1099512676352) := fun k => bulk_take_small (fun r hr => (F.ro r hr).1) (by have := F.rl; omega) k
  have HROW : Hid (Row cR 1 W W.heap.size ra rs) := (hR.inn hb).1
  have HSZ : Hid (szT ys (rs.map (·.l)) = ys.length + bulk ln rs) := by unfold Hid szT; rw [bulk_ln]
  have hrl := F.rl
  have hyl := F.yl
  have x0 : W.cell? ⟨w.heap.size, 0, none⟩ = some (.slice ya ys.length yc) := bcell hA rfl
  have x1 : W.cell? ⟨w.heap.size, 1, none⟩ = some (.slice ra rs.length rc) := bcell hA rfl
  obtain ⟨ST, hST⟩ : ∃ ST, szT ys (rs.map (·.l)) = ST := ⟨_, rfl⟩
  rw [hST] at HSZ
  simp only [hST]
  clear hY hR hA F hST
  go_enter Try.func23, Try.ntmps23
  go_wp2
  clear hW
  go_loopw [3, 4] (fun y v wr => ∃ k : Nat, k ≤ rs.length ∧ v = .int .i64 k ∧ y = .int .i64 ((ys.length + bulk ln (rs.take k) : Nat) : Int) ∧ wr = W) (fun _ v _ => rs.length - (intOf v).toNat)
  case atStart => exact ⟨0, Nat.zero_le _, rfl, by simp [bulk], rfl⟩
  case round =>
    obtain ⟨k, hk, rfl, rfl, hwr⟩ := hrel
    obtain rfl := hwr.symm
    by_cases hkl : k < rs.length
    · rcases HROW.out with h0 | ⟨b, off, rfl, hlt, hc⟩
      · rw [h0] at hkl; simp at hkl
      have HG : Hid (rs[k]? = some rs[k]) := List.getElem?_eq_getElem hkl
      have HBK : Hid (bulk ln (rs.take (k + 1)) = bulk ln (rs.take k) + ln rs[k]) := bulk_take ln hkl
      have hs1 := HSM.out (k + 1)
      obtain ⟨⟨qa, qc, ql⟩, he⟩ : ∃ e, rs[k] = e := ⟨_, rfl⟩
      rw [he] at HG HBK
      have HBK2 : Hid (bulk ln (rs.take (k + 1)) = bulk ln (rs.take k) + ql.length) := HBK
      have c0 : W.cell? ⟨b, off + k, none⟩ = some (.slice qa ql.length qc) := by have := hc k _ HG.out 0 _ rfl; simpa using this
      have i2 : (k : Int) < (rs.length : Int) := by omega
      obtain ⟨m, hm⟩ : ∃ m, bulk ln (rs.take k) = m := ⟨_, rfl⟩
      rw [hm] at HBK2 ⊢
      have hs2 : m + ql.length ≤ 1099512676352 := by have := HBK2.out; omega
      have i3 : IntKind.i64.wrap (((ys.length + m : Nat) : Int) + (ql.length : Int)) = ((ys.length + m : Nat) : Int) + (ql.length : Int) := by rw [IntKind.wrap_i64]; omega
      clear hc he hs1 hm HBK
      go_wp2
      go_roundw
      case rel => exact ⟨k + 1, by omega, by go_num, by rw [HBK2.out]; congr 1; omega, by first | rfl | trivial⟩
      case measure => simp [intOf]; omega
    · obtain rfl : k = rs.length := by omega
      rw [List.take_length]
      go_wp2
      go_ret
      exact ⟨by rw [HSZ.out]; rfl, hb⟩

set_option maxRecDepth 100000 in
set_option maxHeartbeats 1000000 in
theorem impl_size (ys : List flP.Pr) (rs : List Rn) (ya ra : Option Addr) (yc rc : Nat) (w : World) (F : tb.Fit ys rs) (hY : Row flP.c 3 w w.heap.size ya ys) (hR : VR w w.heap.size ra rs) (hra : ra.isSome = true := by rfl) :
    Calls Try.prog 22 #[.agg #[.slice ya ys.length yc, .slice ra rs.length rc]] w fun r w' => r = .returned (.int .i64 (szT ys (rs.map (·.l)))) ∧ Below w.heap.size w w' := by
  obtain ⟨q, rfl⟩ : ∃ q, ra = some q := Option.isSome_iff_exists.1 hra
  have hb : Below w.heap.size w (w.alloc (.cells #[.slice ya ys.length yc, .slice (some q) rs.length rc] 27)) := (Below.refl _ _).alloc (Nat.le_refl _) _
  have hA := bnew w #[.slice ya ys.length yc, .slice (some q) rs.length rc] 27
  obtain ⟨W, hW⟩ : ∃ W, w.alloc (.cells #[.slice ya ys.length yc, .slice (some q) rs.length rc] 27) = W := ⟨_, rfl⟩
  rw [hW] at hb hA
  have hly := ly.layers ys rs ya q yc rc W F (hY.inn hb) (hR.inn hb)
  have HSM : Hid (∀ k, bulk ln ((⟨ya, yc, ys⟩ :: rs : List Rn).take k) ≤ 1099512676352) := fun k => bulk_take_small (fun r hr => by
    rcases List.mem_cons.1 hr with rfl | hr
    · exact F.yl
    · exact (F.ro r hr).1) (by have := F.rl; simp; omega) k
  have HSZ : Hid (szT ys (rs.map (·.l)) = bulk ln (⟨ya, yc, ys⟩ :: rs : List Rn)) := by unfold Hid szT; rw [bulk_ln]; rfl
  have hrl := F.rl
  have x0 : W.cell? ⟨w.heap.size, 0, none⟩ = some (.slice ya ys.length yc) := bcell hA rfl
  have x1 : W.cell? ⟨w.heap.size, 1, none⟩ = some (.slice (some q) rs.length rc) := bcell hA rfl
  obtain ⟨ST, hST⟩ : ∃ ST, szT ys (rs.map (·.l)) = ST := ⟨_, rfl⟩
  rw [hST] at HSZ
  simp only [hST]
  obtain ⟨L, hL⟩ : ∃ L, (⟨ya, yc, ys⟩ :: rs : List Rn) = L := ⟨_, rfl⟩
  have hLl : L.length = rs.length + 1 := by rw [← hL]; rfl
  rw [hL] at HSM HSZ hly
  rw [← hLl] at hly
  have HLL : Hid (L.length = rs.length + 1) := hLl
  clear hY hR hA F hST hL hra
  go_enter Try.func22, Try.ntmps22
  go_wp2_with (go_at_call 54; fail)
  clear hW x0 x1
  refine hly.mono ?_
  rintro e w1 ⟨g, c, rfl, hvr, hb1⟩
  have hbw : Below w.heap.size w w1 := hb.trans (hb1.mono hb.size)
  have HROW : Hid (Row cR 1 w1 w1.heap.size (some ⟨g, 0, none⟩) L) := hvr.1
  have hll : L.length ≤ 1048577 := by omega
  clear hly hvr hLl
  go_wp2
  go_loopw [3, 5, 9] (fun y _ v wr => ∃ k : Nat, k ≤ L.length ∧ v = .int .i64 k ∧ y = .int .i64 ((bulk ln (L.take k) : Nat) : Int) ∧ wr = w1) (fun _ _ v _ => L.length - (intOf v).toNat)
  case atStart => exact ⟨0, Nat.zero_le _, rfl, by simp [bulk], rfl⟩
  case round =>
    obtain ⟨k, hk, rfl, rfl, hwr⟩ := hrel
    obtain rfl := hwr.symm
    by_cases hkl : k < L.length
    · rcases HROW.out with h0 | ⟨b, off, hq, hlt, hc⟩
      · rw [h0] at hkl; simp at hkl
      cases hq
      have HG : Hid (L[k]? = some L[k]) := List.getElem?_eq_getElem hkl
      have HBK : Hid (bulk ln (L.take (k + 1)) = bulk ln (L.take k) + ln L[k]) := bulk_take ln hkl
      have hs1 := HSM.out (k + 1)
      obtain ⟨⟨qa, qc, ql⟩, he⟩ : ∃ e, L[k] = e := ⟨_, rfl⟩
      rw [he] at HG HBK
      have HBK2 : Hid (bulk ln (L.take (k + 1)) = bulk ln (L.take k) + ql.length) := HBK
      have c0 : w1.cell? ⟨g, k, none⟩ = some (.slice qa ql.length qc) := by have := hc k _ HG.out 0 _ rfl; simpa using this
      have i2 : (k : Int) < (L.length : Int) := by omega
      obtain ⟨m, hm⟩ : ∃ m, bulk ln (L.take k) = m := ⟨_, rfl⟩
      rw [hm] at HBK2 ⊢
      have hs2 : m + ql.length ≤ 1099512676352 := by have := HBK2.out; omega
      have i3 : IntKind.i64.wrap ((m : Int) + (ql.length : Int)) = (m : Int) + (ql.length : Int) := by rw [IntKind.wrap_i64]; omega
      clear hc he hs1 hm HBK
      go_wp2
      go_roundw
      case rel => exact ⟨k + 1, by omega, by go_num, by rw [HBK2.out]; congr 1, by first | rfl | trivial⟩
      case measure => simp [intOf]; omega
    · obtain rfl : k = L.length := by omega
      rw [List.take_length]
      go_wp2
      go_ret
      exact ⟨by rw [HSZ.out]; rfl, hbw⟩
end Go.Proofs.Ytggheonbjjgajaa.tsz
