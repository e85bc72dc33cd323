/- Texts ordered by their bytes. -/
import Derived.Test.YtoemkbooomgieaaGreatDoorFlatLib
import Derived.Lib.Strings
set_option linter.unusedVariables false
namespace Go.Proofs.YtoemkbooomgieaaGreatDoor.rc
open Go.ChangeShapes Go.WideShapes Go.ChangeAt Go.RowKit
def lt (a b : ByteArray) : Bool := Op.bytesLess a.toList b.toList
def cmpT (a b : ByteArray) : Int := if lt a b then -1 else if a = b then 0 else 1
theorem of_same {x y : ByteArray} (h : x.toList = y.toList) : x = y := by
  rw [Lib.toList_data, Lib.toList_data] at h
  exact ByteArray.ext (Array.toList_inj.1 h)
end Go.Proofs.YtoemkbooomgieaaGreatDoor.rc
namespace Go.Proofs.YtoemkbooomgieaaGreatDoor.ro
open Go.Proofs.YtoemkbooomgieaaGreatDoor.rc
theorem bl_irrefl : ∀ a : List UInt8, Op.bytesLess a a = false
  | [] => rfl
  | x :: a => by simp [Op.bytesLess, bl_irrefl a]
theorem bl_trans : ∀ {a b c : List UInt8}, Op.bytesLess a b = true → Op.bytesLess b c = true → Op.bytesLess a c = true
  | _, [], _, h, _ => by simp [Op.bytesLess] at h
  | _, _ :: _, [], _, h => by simp [Op.bytesLess] at h
  | [], _ :: _, _ :: _, _, _ => rfl
  | x :: a, y :: b, z :: c, h1, h2 => by
    simp only [Op.bytesLess, Bool.or_eq_true, decide_eq_true_eq, Bool.and_eq_true, beq_iff_eq] at h1 h2 ⊢
    rcases h1 with h1 | ⟨rfl, h1⟩
    · rcases h2 with h2 | ⟨rfl, h2⟩
      · left; exact UInt8.lt_trans h1 h2
      · left; exact h1
    · rcases h2 with h2 | ⟨rfl, h2⟩
      · left; exact h2
      · right; exact ⟨rfl, bl_trans h1 h2⟩
theorem bl_asymm {a b : List UInt8} (h : Op.bytesLess a b = true) : Op.bytesLess b a = false := by
  cases h2 : Op.bytesLess b a with
  | false => rfl
  | true => have := bl_trans h h2; rw [bl_irrefl] at this; cases this
theorem bl_tri : ∀ (a b : List UInt8), Op.bytesLess a b = false → a ≠ b → Op.bytesLess b a = true
  | [], [], _, h => absurd rfl h
  | [], _ :: _, h, _ => by simp [Op.bytesLess] at h
  | _ :: _, [], _, _ => rfl
  | x :: a, y :: b, h, hne => by
    simp only [Op.bytesLess, Bool.or_eq_false_iff, decide_eq_false_iff_not, Bool.and_eq_false_iff] at h
    simp only [Op.bytesLess, Bool.or_eq_true, decide_eq_true_eq, Bool.and_eq_true, beq_iff_eq]
    obtain ⟨h1, h2⟩ := h
    by_cases e : x = y
    · subst e
      right
      refine ⟨rfl, bl_tri a b ?_ (fun e => hne (by rw [e]))⟩
      rcases h2 with h2 | h2
      · simp at h2
      · exact h2
    · left
      have h3 : ¬ x.toNat < y.toNat := fun h => h1 (UInt8.lt_iff_toNat_lt.2 h)
      have h4 : x.toNat ≠ y.toNat := fun h => e (UInt8.toNat_inj.1 h)
      exact UInt8.lt_iff_toNat_lt.2 (by omega)

theorem lt_trans {a b c : ByteArray} (h1 : lt a b = true) (h2 : lt b c = true) : lt a c = true := bl_trans h1 h2
theorem lt_irrefl (a : ByteArray) : lt a a = false := bl_irrefl _
theorem lt_asymm {a b : ByteArray} (h : lt a b = true) : lt b a = false := bl_asymm h
theorem lt_tri {a b : ByteArray} (h : lt a b = false) (hne : a ≠ b) : lt b a = true := bl_tri _ _ h (fun e => hne (of_same e))
theorem cmp_neg {a b : ByteArray} : cmpT a b < 0 ↔ lt a b = true := by
  unfold cmpT
  cases lt a b with
  | true => simp
  | false => simp; split <;> simp
theorem cmp_zero {a b : ByteArray} : cmpT a b = 0 ↔ a = b := by
  unfold cmpT
  cases h : lt a b with
  | true => simp; intro e; rw [e, lt_irrefl] at h; cases h
  | false => simp
end Go.Proofs.YtoemkbooomgieaaGreatDoor.ro
