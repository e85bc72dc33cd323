/- StreamMarked, the specification's and the program's: the offset of the first mark of a reader, 0 where there is none; new memory alone. -/
import Derived.Test.YtpdiladohkeofabStreamRows
namespace Go.Proofs.Ytpdiladohkeofab.smk
open Go.ChangeShapes Go.WideShapes Go.ChangeAt Go.RowKit Go.Proofs.Ytpdiladohkeofab.fl Go.Proofs.Ytpdiladohkeofab.rc Go.Proofs.Ytpdiladohkeofab.rr Go.Proofs.Ytpdiladohkeofab.st
set_option linter.unusedVariables false

def mark : List Ex → ByteArray → Int
  | [], _ => 0
  | m :: r, x => if m.n.toList = x.toList then m.k else mark r x
theorem mark_hit (x : ByteArray) : ∀ (l : List Ex) (k : Nat) (e : Ex), l[k]? = some e → (∀ (i : Nat) a, i < k → l[i]? = some a → a.n.toList ≠ x.toList) → e.n.toList = x.toList → mark l x = e.k
  | [], k, e, h, _, _ => by simp at h
  | m :: r, 0, e, h, _, he => by simp at h; subst h; simp [mark, he]
  | m :: r, k + 1, e, h, hn, he => by
    have h0 := hn 0 m (by omega) rfl
    simp only [mark, h0, if_false]
    exact mark_hit x r k e (by simpa using h) (fun i a hi ha => hn (i + 1) a (by omega) (by simpa using ha)) he
theorem mark_miss (x : ByteArray) : ∀ (l : List Ex), (∀ (i : Nat) a, l[i]? = some a → a.n.toList ≠ x.toList) → mark l x = 0
  | [], _ => rfl
  | m :: r, h => by
    have h0 := h 0 m rfl
    simp only [mark, h0, if_false]
    exact mark_miss x r (fun i a ha => h (i + 1) a (by simpa using ha))

set_option maxRecDepth 100000 in
set_option maxHeartbeats 2000000 in
theorem spec_marked (sn : ByteArray) (lo nx : Int) (es : List flY.En) (ms : List Ex) (g h cg ch : Nat) (rd : ByteArray) (w : World) (F : Fit sn es ms) (hY : RY w g es) (hE : RE w h ms) :
    Calls Try.prog 15 #[.agg #[.string sn, .int .i64 lo, .int .i64 nx, .slice (some ⟨g, 0, none⟩) es.length cg, .slice (some ⟨h, 0, none⟩) ms.length ch], .string rd] w fun e w' => e = .returned (.int .i64 (mark ms rd)) ∧ Below w.heap.size w w' := by
  have hl := F.ml
  have hb : Below w.heap.size w (w.alloc (.cells #[.string sn, .int .i64 lo, .int .i64 nx, .slice (some ⟨g, 0, none⟩) es.length cg, .slice (some ⟨h, 0, none⟩) ms.length ch] 31)) := (Below.refl _ _).alloc (Nat.le_refl _) _
  have hA := bnew w #[.string sn, .int .i64 lo, .int .i64 nx, .slice (some ⟨g, 0, none⟩) es.length cg, .slice (some ⟨h, 0, none⟩) ms.length ch] 31
  have HE : Hid (RE (w.alloc (.cells #[.string sn, .int .i64 lo, .int .i64 nx, .slice (some ⟨g, 0, none⟩) es.length cg, .slice (some ⟨h, 0, none⟩) ms.length ch] 31)) h ms) := hE.below hb
  obtain ⟨W, hW⟩ : ∃ W, w.alloc (.cells #[.string sn, .int .i64 lo, .int .i64 nx, .slice (some ⟨g, 0, none⟩) es.length cg, .slice (some ⟨h, 0, none⟩) ms.length ch] 31) = W := ⟨_, rfl⟩
  rw [hW] at hb hA HE
  have c4 : W.cell? ⟨w.heap.size, 4, none⟩ = some (.slice (some ⟨h, 0, none⟩) ms.length ch) := bcell hA rfl
  obtain ⟨z, hz⟩ : ∃ z, mark ms rd = z := ⟨_, rfl⟩
  rw [hz]
  have HZ : Hid (mark ms rd = z) := hz
  clear hE hA hY F hz
  go_enter Try.func15, Try.ntmps15
  go_wp2
  clear hW
  go_loopw [5] (fun v wr => ∃ k : Nat, k ≤ ms.length ∧ v = .int .i64 k ∧ Hid (∀ (i : Nat) a, i < k → ms[i]? = some a → a.n.toList ≠ rd.toList) ∧ wr = W) (fun v _ => ms.length - (intOf v).toNat)
  case atStart => exact ⟨0, Nat.zero_le _, rfl, fun i a h => by omega, rfl⟩
  case round =>
    obtain ⟨k, hk, rfl, hn, hwr⟩ := hrel
    obtain rfl := hwr.symm
    by_cases hkl : k < ms.length
    · have g0 : ms[k]? = some ms[k] := List.getElem?_eq_getElem hkl
      obtain ⟨a0, a1⟩ := HE.out.2 k _ g0
      have HG : Hid (ms[k]? = some ms[k]) := g0
      obtain ⟨⟨mn, mo⟩, he⟩ : ∃ e, ms[k] = e := ⟨_, rfl⟩
      rw [he] at a0 a1 HG
      have i2 : (k : Int) < (ms.length : Int) := by omega
      clear g0 he
      by_cases heq : mn.toList = rd.toList
      · have hq : (mn.toList == rd.toList) = true := by simp [heq]
        have hm : mo = z := (mark_hit rd ms k _ HG.out hn.out heq).symm.trans HZ.out
        subst hm
        clear heq
        go_wp2
        go_ret
        exact ⟨rfl, hb⟩
      · have hq : (mn.toList == rd.toList) = false := by simp [heq]
        have hn2 : Hid (∀ (i : Nat) a, i < k + 1 → ms[i]? = some a → a.n.toList ≠ rd.toList) := fun i a hi ha => by
          by_cases ei : i = k
          · subst ei; rw [HG.out] at ha; cases ha; exact heq
          · exact hn.out i a (by omega) ha
        clear heq
        go_wp2
        go_roundw
        case rel => exact ⟨k + 1, by omega, by go_num, hn2, by first | rfl | trivial⟩
        case measure => simp [intOf]; omega
    · obtain rfl : 0 = z := (mark_miss rd ms (fun i a ha => hn.out i a (by have := (List.getElem?_eq_some_iff.1 ha).1; omega) ha)).symm.trans HZ.out
      go_wp2
      go_ret
      exact ⟨rfl, hb⟩

set_option maxRecDepth 100000 in
set_option maxHeartbeats 2000000 in
theorem impl_marked (sn : ByteArray) (lo nx : Int) (es : List flY.En) (ms : List Ex) (g h cg ch : Nat) (rd : ByteArray) (w : World) (F : Fit sn es ms) (hY : RY w g es) (hE : RE w h ms) :
    Calls Try.prog 16 #[.agg #[.string sn, .int .i64 lo, .int .i64 nx, .slice (some ⟨g, 0, none⟩) es.length cg, .slice (some ⟨h, 0, none⟩) ms.length ch], .string rd] w fun e w' => e = .returned (.int .i64 (mark ms rd)) ∧ Below w.heap.size w w' := by
  have hl := F.ml
  have hb : Below w.heap.size w (w.alloc (.cells #[.string sn, .int .i64 lo, .int .i64 nx, .slice (some ⟨g, 0, none⟩) es.length cg, .slice (some ⟨h, 0, none⟩) ms.length ch] 31)) := (Below.refl _ _).alloc (Nat.le_refl _) _
  have hA := bnew w #[.string sn, .int .i64 lo, .int .i64 nx, .slice (some ⟨g, 0, none⟩) es.length cg, .slice (some ⟨h, 0, none⟩) ms.length ch] 31
  have HE : Hid (RE (w.alloc (.cells #[.string sn, .int .i64 lo, .int .i64 nx, .slice (some ⟨g, 0, none⟩) es.length cg, .slice (some ⟨h, 0, none⟩) ms.length ch] 31)) h ms) := hE.below hb
  obtain ⟨W, hW⟩ : ∃ W, w.alloc (.cells #[.string sn, .int .i64 lo, .int .i64 nx, .slice (some ⟨g, 0, none⟩) es.length cg, .slice (some ⟨h, 0, none⟩) ms.length ch] 31) = W := ⟨_, rfl⟩
  rw [hW] at hb hA HE
  have c4 : W.cell? ⟨w.heap.size, 4, none⟩ = some (.slice (some ⟨h, 0, none⟩) ms.length ch) := bcell hA rfl
  obtain ⟨z, hz⟩ : ∃ z, mark ms rd = z := ⟨_, rfl⟩
  rw [hz]
  have HZ : Hid (mark ms rd = z) := hz
  clear hE hA hY F hz
  go_enter Try.func16, Try.ntmps16
  go_wp2
  clear hW
  go_loopw [10, 6] (fun v _ wr => ∃ k : Nat, k ≤ ms.length ∧ v = .int .i64 k ∧ Hid (∀ (i : Nat) a, i < k → ms[i]? = some a → a.n.toList ≠ rd.toList) ∧ Below W.heap.size W wr) (fun v _ _ => ms.length - (intOf v).toNat)
  case atStart => exact ⟨0, Nat.zero_le _, rfl, fun i a h => by omega, Below.refl _ _⟩
  case round =>
    obtain ⟨k, hk, rfl, hn, hbel⟩ := hrel
    have hbs := hbel.size
    by_cases hkl : k < ms.length
    · have g0 : ms[k]? = some ms[k] := List.getElem?_eq_getElem hkl
      obtain ⟨a0, a1⟩ := (HE.out.below hbel).2 k _ g0
      have HG : Hid (ms[k]? = some ms[k]) := g0
      obtain ⟨⟨mn, mo⟩, he⟩ : ∃ e, ms[k] = e := ⟨_, rfl⟩
      rw [he] at a0 a1 HG
      have i2 : (k : Int) < (ms.length : Int) := by omega
      clear g0 he
      by_cases heq : mn.toList = rd.toList
      · have hq : (mn.toList == rd.toList) = true := by simp [heq]
        have hm : mo = z := (mark_hit rd ms k _ HG.out hn.out heq).symm.trans HZ.out
        subst hm
        clear heq
        go_wp2
        go_ret
        exact ⟨rfl, hb.trans ((hbel.alloc hbs _).mono hb.size)⟩
      · have hq : (mn.toList == rd.toList) = false := by simp [heq]
        have hn2 : Hid (∀ (i : Nat) a, i < k + 1 → ms[i]? = some a → a.n.toList ≠ rd.toList) := fun i a hi ha => by
          by_cases ei : i = k
          · subst ei; rw [HG.out] at ha; cases ha; exact heq
          · exact hn.out i a (by omega) ha
        clear heq
        go_wp2
        go_roundw
        case rel => exact ⟨k + 1, by omega, by go_num, hn2, hbel.alloc hbs _⟩
        case measure => simp [intOf]; omega
    · obtain rfl : 0 = z := (mark_miss rd ms (fun i a ha => hn.out i a (by have := (List.getElem?_eq_some_iff.1 ha).1; omega) ha)).symm.trans HZ.out
      go_wp2
      go_ret
      exact ⟨rfl, hb.trans (hbel.mono hb.size)⟩
end Go.Proofs.Ytpdiladohkeofab.smk
