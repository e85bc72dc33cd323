/- The order of texts, exchanges and bindings: laws without a walk. -/
import Derived.Test.YtnooibeohdfcmaaGreatDoorRouteSearch
namespace Go.Proofs.YtnooibeohdfcmaaGreatDoor.ro
open Go.Proofs.YtnooibeohdfcmaaGreatDoor.rc Go.Proofs.YtnooibeohdfcmaaGreatDoor.rr Go.Proofs.YtnooibeohdfcmaaGreatDoor.rf Go.Proofs.YtnooibeohdfcmaaGreatDoor.rs
set_option linter.unusedVariables false

theorem bl_irrefl : ∀ a : List UInt8, Op.bytesLess a a = false
  | [] => rfl
  | x :: a => by simp [Op.bytesLess, bl_irrefl a]
theorem bl_trans : ∀ {a b c : List UInt8}, Op.bytesLess a b = true → Op.bytesLess b c = true → Op.bytesLess a c = true
  | _, [], _, h, _ => by simp [Op.bytesLess] at h
  | _, _ :: _, [], _, h => by simp [Op.bytesLess] at h
  | [], _ :: _, _ :: _, _, _ => rfl
  | x :: a, y :: b, z :: c, h1, h2 => by
    simp only [Op.bytesLess, Bool.or_eq_true, decide_eq_true_eq, Bool.and_eq_true, beq_iff_eq] at h1 h2 ⊢
    rcases h1 with h1 | ⟨rfl, h1⟩
    · rcases h2 with h2 | ⟨rfl, h2⟩
      · left; exact UInt8.lt_trans h1 h2
      · left; exact h1
    · rcases h2 with h2 | ⟨rfl, h2⟩
      · left; exact h2
      · right; exact ⟨rfl, bl_trans h1 h2⟩
theorem bl_asymm {a b : List UInt8} (h : Op.bytesLess a b = true) : Op.bytesLess b a = false := by
  cases h2 : Op.bytesLess b a with
  | false => rfl
  | true => have := bl_trans h h2; rw [bl_irrefl] at this; cases this
theorem bl_tri : ∀ (a b : List UInt8), Op.bytesLess a b = false → a ≠ b → Op.bytesLess b a = true
  | [], [], _, h => absurd rfl h
  | [], _ :: _, h, _ => by simp [Op.bytesLess] at h
  | _ :: _, [], _, _ => rfl
  | x :: a, y :: b, h, hne => by
    simp only [Op.bytesLess, Bool.or_eq_false_iff, decide_eq_false_iff_not, Bool.and_eq_false_iff] at h
    simp only [Op.bytesLess, Bool.or_eq_true, decide_eq_true_eq, Bool.and_eq_true, beq_iff_eq]
    obtain ⟨h1, h2⟩ := h
    by_cases e : x = y
    · subst e
      right
      refine ⟨rfl, bl_tri a b ?_ (fun e => hne (by rw [e]))⟩
      rcases h2 with h2 | h2
      · simp at h2
      · exact h2
    · left
      have h3 : ¬ x.toNat < y.toNat := fun h => h1 (UInt8.lt_iff_toNat_lt.2 h)
      have h4 : x.toNat ≠ y.toNat := fun h => e (UInt8.toNat_inj.1 h)
      exact UInt8.lt_iff_toNat_lt.2 (by omega)

theorem lt_trans {a b c : ByteArray} (h1 : lt a b = true) (h2 : lt b c = true) : lt a c = true := bl_trans h1 h2
theorem lt_irrefl (a : ByteArray) : lt a a = false := bl_irrefl _
theorem lt_asymm {a b : ByteArray} (h : lt a b = true) : lt b a = false := bl_asymm h
theorem lt_tri {a b : ByteArray} (h : lt a b = false) (hne : a ≠ b) : lt b a = true := bl_tri _ _ h (fun e => hne (of_same e))
theorem cmp_neg {a b : ByteArray} : cmpT a b < 0 ↔ lt a b = true := by
  unfold cmpT
  cases lt a b with
  | true => simp
  | false => simp; split <;> simp
theorem cmp_zero {a b : ByteArray} : cmpT a b = 0 ↔ a = b := by
  unfold cmpT
  cases h : lt a b with
  | true => simp; intro e; rw [e, lt_irrefl] at h; cases h
  | false => simp
/-- not at most the one ahead: above it -/
theorem above {a b : ByteArray} : (lt b a || b.toList == a.toList) = false ↔ lt a b = true := by
  rw [Bool.or_eq_false_iff]
  constructor
  · rintro ⟨h1, h2⟩
    exact lt_tri h1 (fun e => by rw [e] at h2; simp at h2)
  · intro h
    refine ⟨lt_asymm h, ?_⟩
    simp
    intro e
    rw [of_same e, lt_irrefl] at h
    cases h
theorem before_cmp {a b : Bi} : before a b = true ↔ cmpB a b < 0 := by
  unfold before cmpB or3
  by_cases hx : a.x = b.x
  · have zx := cmp_zero.2 hx
    by_cases hk : a.k = b.k
    · have zk := cmp_zero.2 hk
      rw [zx, zk]
      simp only [hx, hk, if_true, ne_eq, not_true_eq_false, if_false]
      exact cmp_neg.symm
    · have zk : cmpT a.k b.k ≠ 0 := fun e => hk (cmp_zero.1 e)
      rw [zx]
      simp only [hx, hk, zk, if_true, ne_eq, not_true_eq_false, if_false, not_false_eq_true]
      exact cmp_neg.symm
  · have zx : cmpT a.x b.x ≠ 0 := fun e => hx (cmp_zero.1 e)
    simp only [hx, zx, if_true, ne_eq, if_false, not_false_eq_true]
    exact cmp_neg.symm

theorem up_lt {l : List Ex} (h : UpE l l.length) : ∀ (d i : Nat) (a b : Ex), l[i]? = some a → l[i + d + 1]? = some b → lt a.n b.n = true
  | 0, i, a, b, ha, hb => cmp_neg.1 (h i a b (List.getElem?_eq_some_iff.1 hb).1 ha hb)
  | d + 1, i, a, b, ha, hb => by
    have hlt := (List.getElem?_eq_some_iff.1 hb).1
    have hm : l[i + d + 1]? = some l[i + d + 1] := List.getElem?_eq_getElem (by omega)
    exact lt_trans (up_lt h d i a _ ha hm) (cmp_neg.1 (h (i + d + 1) _ b (by omega) hm (by rw [← hb]; congr 1)))
theorem up_mon {l : List Ex} (h : UpE l l.length) (name : ByteArray) : MonE l name := by
  intro i j a b hij ha hb hn
  by_cases e : i = j
  · subst e
    rw [ha] at hb
    cases hb
    exact hn
  · obtain ⟨d, rfl⟩ : ∃ d, j = i + d + 1 := ⟨j - i - 1, by omega⟩
    exact cmp_neg.2 (lt_trans (up_lt h d i a b ha hb) (cmp_neg.1 hn))
/-- the search finds just what is there -/
theorem found {l : List Ex} (h : UpE l l.length) {name : ByteArray} {p : Nat} (hp : PosE l name p) : (∃ a, l[p]? = some a ∧ cmpT a.n name = 0) ↔ ∃ (t : Nat) (a : Ex), l[t]? = some a ∧ a.n = name := by
  constructor
  · rintro ⟨a, ha, hz⟩
    exact ⟨p, a, ha, cmp_zero.1 hz⟩
  · rintro ⟨t, a, ha, rfl⟩
    have hz := cmp_zero.2 (rfl : a.n = a.n)
    have htp : p ≤ t := by
      by_cases e : t < p
      · have := hp.2.1 t a e ha; omega
      · omega
    by_cases e : t = p
    · subst e; exact ⟨a, ha, hz⟩
    · obtain ⟨d, rfl⟩ : ∃ d, t = p + d + 1 := ⟨t - p - 1, by omega⟩
      have hlt := (List.getElem?_eq_some_iff.1 ha).1
      have hm : l[p]? = some l[p] := List.getElem?_eq_getElem (by omega)
      have h1 := hp.2.2 p _ (Nat.le_refl _) hm
      have h2 := cmp_neg.2 (up_lt h d p _ a hm ha)
      omega
theorem kind_there {l : List Ex} (hk : ∀ (i : Nat) e, l[i]? = some e → 0 ≤ e.k) (name : ByteArray) : 0 ≤ kindOf l name ↔ ∃ (t : Nat) (a : Ex), l[t]? = some a ∧ a.n = name := by
  unfold kindOf
  cases hf : l.find? (fun e => decide (e.n = name)) with
  | none =>
    simp only [List.find?_eq_none, decide_eq_true_eq] at hf
    constructor
    · intro h; exact absurd h (by decide)
    · rintro ⟨t, a, ha, he⟩
      exact absurd he (hf a (List.mem_of_getElem? ha))
  | some e =>
    have hm := List.mem_of_find?_eq_some hf
    have hn := List.find?_some hf
    obtain ⟨t, ht⟩ := List.mem_iff_getElem?.1 hm
    simp only [decide_eq_true_eq] at hn
    exact ⟨fun _ => ⟨t, e, ht, hn⟩, fun _ => hk t e ht⟩

/-- routes that are in order -/
structure OkR (es : List Ex) (bs : List Bi) : Prop where
  el : es.length ≤ 60
  bl : bs.length ≤ 60
  eo : ∀ (i : Nat) e, es[i]? = some e → exOk e = true
  eu : UpE es es.length
  bo : ∀ (i : Nat) b, bs[i]? = some b → 0 ≤ kindOf es b.x ∧ ky.good b.k = true ∧ nm.good b.q = true
  bu : UpB bs bs.length
end Go.Proofs.YtnooibeohdfcmaaGreatDoor.ro
