/- Texts compared, marks in rows of memory, their order: what the texts on streams need (the like of what the texts on routes have). -/
import Derived.Test.YtlfhfcgcfggjcaaDoorNameOkWalks
import Derived.Test.YtlfhfcgcfggjcaaDoorQuietIn
import Derived.WalkSpells
import Derived.Below
import Derived.Lib.Strings
import Derived.Deep.RegionWith
import Derived.BigRegion
import Derived.Laws.EntriesVeiled
set_option linter.unusedVariables false
namespace Go.Proofs.YtlfhfcgcfggjcaaDoor.rc
open Go.ChangeShapes Go.WideShapes Go.ChangeAt Go.RowKit

def lt (a b : ByteArray) : Bool := Op.bytesLess a.toList b.toList
def cmpT (a b : ByteArray) : Int := if lt a b then -1 else if a = b then 0 else 1
theorem of_same {x y : ByteArray} (h : x.toList = y.toList) : x = y := by
  rw [Lib.toList_data, Lib.toList_data] at h
  exact ByteArray.ext (Array.toList_inj.1 h)

theorem nan (a : ByteArray) (w : World) : Calls Tryd.prog 53 #[.string a] w fun e w' => e = .returned (.bool false) ∧ w = w' := by
  go_enter Tryd.func53, Tryd.ntmps53
  go_wp2
  go_ret
  simp
theorem cmpS (a b : ByteArray) (w : World) : Calls Tryd.prog 47 #[.string a, .string b] w fun e w' => e = .returned (.int .i64 (cmpT a b)) ∧ w' = w := by
  obtain ⟨l, hl⟩ : ∃ l, Op.bytesLess a.toList b.toList = l := ⟨_, rfl⟩
  have hL : Hid (lt a b = l) := hl
  by_cases he : a = b
  · subst he
    cases l with
    | true =>
      have hc : cmpT a a = -1 := by unfold cmpT; rw [hL.out]; rfl
      rw [hc]
      go_enter Tryd.func47, Tryd.ntmps47
      go_wp2_with (go_at_call 53; refine (nan a _).mono ?_; rintro e w0 ⟨rfl, hw0⟩; rw [← hw0]; clear hw0 w0)
      go_ret
      exact ⟨rfl, rfl⟩
    | false =>
      have hc : cmpT a a = 0 := by unfold cmpT; rw [hL.out]; simp
      rw [hc]
      go_enter Tryd.func47, Tryd.ntmps47
      go_wp2_with (go_at_call 53; refine (nan a _).mono ?_; rintro e w0 ⟨rfl, hw0⟩; rw [← hw0]; clear hw0 w0)
      go_ret
      exact ⟨rfl, rfl⟩
  · have he2 : (a.toList == b.toList) = false := by simp; exact fun h => he (of_same h)
    have na := fun W => nan a W
    have nb := fun W => nan b W
    have HE : Hid (a ≠ b) := he
    clear he
    cases l with
    | true =>
      have hc : cmpT a b = -1 := by unfold cmpT; rw [hL.out]; rfl
      rw [hc]
      have t1 : True := trivial
      go_enter Tryd.func47, Tryd.ntmps47
      go_wp2_with (go_at_call 53; first | (have _t := t1; refine (na _).mono ?_; rintro e w0 ⟨rfl, hw0⟩; rw [← hw0]; clear hw0 w0 t1) | (refine (nb _).mono ?_; rintro e w0 ⟨rfl, hw0⟩; rw [← hw0]; clear hw0 w0))
      go_ret
      exact ⟨rfl, rfl⟩
    | false =>
      have hc : cmpT a b = 1 := by unfold cmpT; rw [hL.out]; simp [HE.out]
      rw [hc]
      have t1 : True := trivial
      go_enter Tryd.func47, Tryd.ntmps47
      go_wp2_with (go_at_call 53; first | (have _t := t1; refine (na _).mono ?_; rintro e w0 ⟨rfl, hw0⟩; rw [← hw0]; clear hw0 w0 t1) | (refine (nb _).mono ?_; rintro e w0 ⟨rfl, hw0⟩; rw [← hw0]; clear hw0 w0))
      go_ret
      exact ⟨rfl, rfl⟩
end Go.Proofs.YtlfhfcgcfggjcaaDoor.rc
namespace Go.Proofs.YtlfhfcgcfggjcaaDoor.rr
open Go.RowKit Go.Proofs.YtlfhfcgcfggjcaaDoor.rc
structure Ex where
  n : ByteArray
  k : Int
/-- the cells of block g from its first on hold the exchanges l -/
def RE (w : World) (g : Nat) (l : List Ex) : Prop := g < w.heap.size ∧ ∀ (i : Nat) (e : Ex), l[i]? = some e → w.cell? ⟨g, i * 2, none⟩ = some (.string e.n) ∧ w.cell? ⟨g, i * 2 + 1, none⟩ = some (.int .i64 e.k)
theorem RE.below {w w' : World} {g : Nat} {l : List Ex} (h : RE w g l) (hb : Below w.heap.size w w') : RE w' g l :=
  ⟨Nat.lt_of_lt_of_le h.1 hb.size, fun i e he => by
    obtain ⟨h1, h2⟩ := h.2 i e he
    exact ⟨(hb.cell (p := ⟨g, i * 2, none⟩) h.1).trans h1, (hb.cell (p := ⟨g, i * 2 + 1, none⟩) h.1).trans h2⟩⟩
end Go.Proofs.YtlfhfcgcfggjcaaDoor.rr
namespace Go.Proofs.YtlfhfcgcfggjcaaDoor.rf
open Go.Proofs.YtlfhfcgcfggjcaaDoor.rc Go.Proofs.YtlfhfcgcfggjcaaDoor.rr
/-- each of the first n + 1 is ahead of the next one -/
def UpE (l : List Ex) (n : Nat) : Prop := ∀ i a b, i + 1 < n → l[i]? = some a → l[i + 1]? = some b → cmpT a.n b.n < 0
end Go.Proofs.YtlfhfcgcfggjcaaDoor.rf
namespace Go.Proofs.YtlfhfcgcfggjcaaDoor.rs
open Go.Proofs.YtlfhfcgcfggjcaaDoor.rc Go.Proofs.YtlfhfcgcfggjcaaDoor.rr
/-- what stands up to h is ahead of the name, once what stands at h is -/
def MonE (l : List Ex) (name : ByteArray) : Prop := ∀ (i j : Nat) a b, i ≤ j → l[i]? = some a → l[j]? = some b → cmpT b.n name < 0 → cmpT a.n name < 0
/-- p is the place of the name -/
def PosE (l : List Ex) (name : ByteArray) (p : Nat) : Prop := p ≤ l.length ∧ (∀ (i : Nat) a, i < p → l[i]? = some a → cmpT a.n name < 0) ∧ ∀ (i : Nat) a, p ≤ i → l[i]? = some a → 0 ≤ cmpT a.n name

end Go.Proofs.YtlfhfcgcfggjcaaDoor.rs
namespace Go.Proofs.YtlfhfcgcfggjcaaDoor.ro
open Go.Proofs.YtlfhfcgcfggjcaaDoor.rc Go.Proofs.YtlfhfcgcfggjcaaDoor.rr Go.Proofs.YtlfhfcgcfggjcaaDoor.rf Go.Proofs.YtlfhfcgcfggjcaaDoor.rs
theorem bl_irrefl : ∀ a : List UInt8, Op.bytesLess a a = false
  | [] => rfl
  | x :: a => by simp [Op.bytesLess, bl_irrefl a]
theorem bl_trans : ∀ {a b c : List UInt8}, Op.bytesLess a b = true → Op.bytesLess b c = true → Op.bytesLess a c = true
  | _, [], _, h, _ => by simp [Op.bytesLess] at h
  | _, _ :: _, [], _, h => by simp [Op.bytesLess] at h
  | [], _ :: _, _ :: _, _, _ => rfl
  | x :: a, y :: b, z :: c, h1, h2 => by
    simp only [Op.bytesLess, Bool.or_eq_true, decide_eq_true_eq, Bool.and_eq_true, beq_iff_eq] at h1 h2 ⊢
    rcases h1 with h1 | ⟨rfl, h1⟩
    · rcases h2 with h2 | ⟨rfl, h2⟩
      · left; exact UInt8.lt_trans h1 h2
      · left; exact h1
    · rcases h2 with h2 | ⟨rfl, h2⟩
      · left; exact h2
      · right; exact ⟨rfl, bl_trans h1 h2⟩
theorem bl_asymm {a b : List UInt8} (h : Op.bytesLess a b = true) : Op.bytesLess b a = false := by
  cases h2 : Op.bytesLess b a with
  | false => rfl
  | true => have := bl_trans h h2; rw [bl_irrefl] at this; cases this
theorem bl_tri : ∀ (a b : List UInt8), Op.bytesLess a b = false → a ≠ b → Op.bytesLess b a = true
  | [], [], _, h => absurd rfl h
  | [], _ :: _, h, _ => by simp [Op.bytesLess] at h
  | _ :: _, [], _, _ => rfl
  | x :: a, y :: b, h, hne => by
    simp only [Op.bytesLess, Bool.or_eq_false_iff, decide_eq_false_iff_not, Bool.and_eq_false_iff] at h
    simp only [Op.bytesLess, Bool.or_eq_true, decide_eq_true_eq, Bool.and_eq_true, beq_iff_eq]
    obtain ⟨h1, h2⟩ := h
    by_cases e : x = y
    · subst e
      right
      refine ⟨rfl, bl_tri a b ?_ (fun e => hne (by rw [e]))⟩
      rcases h2 with h2 | h2
      · simp at h2
      · exact h2
    · left
      have h3 : ¬ x.toNat < y.toNat := fun h => h1 (UInt8.lt_iff_toNat_lt.2 h)
      have h4 : x.toNat ≠ y.toNat := fun h => e (UInt8.toNat_inj.1 h)
      exact UInt8.lt_iff_toNat_lt.2 (by omega)

theorem lt_trans {a b c : ByteArray} (h1 : lt a b = true) (h2 : lt b c = true) : lt a c = true := bl_trans h1 h2
theorem lt_irrefl (a : ByteArray) : lt a a = false := bl_irrefl _
theorem lt_asymm {a b : ByteArray} (h : lt a b = true) : lt b a = false := bl_asymm h
theorem lt_tri {a b : ByteArray} (h : lt a b = false) (hne : a ≠ b) : lt b a = true := bl_tri _ _ h (fun e => hne (of_same e))
theorem cmp_neg {a b : ByteArray} : cmpT a b < 0 ↔ lt a b = true := by
  unfold cmpT
  cases lt a b with
  | true => simp
  | false => simp; split <;> simp
theorem cmp_zero {a b : ByteArray} : cmpT a b = 0 ↔ a = b := by
  unfold cmpT
  cases h : lt a b with
  | true => simp; intro e; rw [e, lt_irrefl] at h; cases h
  | false => simp
/-- not at most the one ahead: above it -/
theorem above {a b : ByteArray} : (lt b a || b.toList == a.toList) = false ↔ lt a b = true := by
  rw [Bool.or_eq_false_iff]
  constructor
  · rintro ⟨h1, h2⟩
    exact lt_tri h1 (fun e => by rw [e] at h2; simp at h2)
  · intro h
    refine ⟨lt_asymm h, ?_⟩
    simp
    intro e
    rw [of_same e, lt_irrefl] at h
    cases h
theorem up_lt {l : List Ex} (h : UpE l l.length) : ∀ (d i : Nat) (a b : Ex), l[i]? = some a → l[i + d + 1]? = some b → lt a.n b.n = true
  | 0, i, a, b, ha, hb => cmp_neg.1 (h i a b (List.getElem?_eq_some_iff.1 hb).1 ha hb)
  | d + 1, i, a, b, ha, hb => by
    have hlt := (List.getElem?_eq_some_iff.1 hb).1
    have hm : l[i + d + 1]? = some l[i + d + 1] := List.getElem?_eq_getElem (by omega)
    exact lt_trans (up_lt h d i a _ ha hm) (cmp_neg.1 (h (i + d + 1) _ b (by omega) hm (by rw [← hb]; congr 1)))
theorem up_mon {l : List Ex} (h : UpE l l.length) (name : ByteArray) : MonE l name := by
  intro i j a b hij ha hb hn
  by_cases e : i = j
  · subst e
    rw [ha] at hb
    cases hb
    exact hn
  · obtain ⟨d, rfl⟩ : ∃ d, j = i + d + 1 := ⟨j - i - 1, by omega⟩
    exact cmp_neg.2 (lt_trans (up_lt h d i a b ha hb) (cmp_neg.1 hn))
end Go.Proofs.YtlfhfcgcfggjcaaDoor.ro
namespace Go.Proofs.YtlfhfcgcfggjcaaDoor.ky
open Go.ChangeShapes Go.WideShapes Go.ChangeAt Go.RowKit
theorem within (x a b : Int) (w : World) : Calls Tryd.prog 37 #[.int .i64 x, .int .i64 a, .int .i64 b] w fun e w' => e = .returned (.bool (decide (a ≤ x ∧ x ≤ b))) ∧ w = w' := by
  by_cases h1 : a ≤ x
  · by_cases h2 : x ≤ b
    · have e : decide (a ≤ x ∧ x ≤ b) = true := by simp [h1, h2]
      rw [e]
      go_enter Tryd.func37, Tryd.ntmps37
      go_wp2
      go_ret
      simp
    · have e : decide (a ≤ x ∧ x ≤ b) = false := by simp [h1, h2]
      rw [e]
      go_enter Tryd.func37, Tryd.ntmps37
      go_wp2
      go_ret
      simp
  · have e : decide (a ≤ x ∧ x ≤ b) = false := by simp [h1]
    rw [e]
    go_enter Tryd.func37, Tryd.ntmps37
    go_wp2
    go_ret
    exact ⟨rfl, rfl⟩

end Go.Proofs.YtlfhfcgcfggjcaaDoor.ky
namespace Go.Proofs.YtlfhfcgcfggjcaaDoor.rk
open Go.ChangeShapes Go.WideShapes Go.ChangeAt Go.RowKit
theorem name' (s : ByteArray) (hs : s.size ≤ 1048576) {w : World} (N : qi.Cls w) : Calls Tryd.prog 50 #[.string s] N.x fun e w' => e = .returned (.bool (nm.good s)) ∧ qi.T w w' :=
  (nm.spec_name s N.x hs).mono fun e w' ⟨h1, h2⟩ => ⟨h1, by rw [← h2]; exact N.h⟩
theorem in' (x a b : Int) {w : World} (N : qi.Cls w) : Calls Tryd.prog 37 #[.int .i64 x, .int .i64 a, .int .i64 b] N.x fun e w' => e = .returned (.bool (decide (a ≤ x ∧ x ≤ b))) ∧ qi.T w w' :=
  (ky.within x a b N.x).mono fun e w' ⟨h1, h2⟩ => ⟨h1, by rw [← h2]; exact N.h⟩

end Go.Proofs.YtlfhfcgcfggjcaaDoor.rk
