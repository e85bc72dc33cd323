/- Methods, plainly: which texts and numbers fit a form's letters, and the bytes and words that they make. -/
import Derived.Test.YtnmooolnmhidbaaDoorFormWalks
import Derived.Test.YtnmooolnmhidbaaDoorPutShortWalks
import Derived.Test.YtnmooolnmhidbaaDoorNumPlain
import Derived.Lib.ItoaNum
namespace Go.Proofs.YtnmooolnmhidbaaDoor.mp

/-- whether the texts and numbers are as the letters tell -/
def okL : List UInt8 → List ByteArray → List Int → Bool
  | [], ts, ns => ts.isEmpty && ns.isEmpty
  | c :: f, ts, ns =>
    if c = 115 then (match ts with | [] => false | t :: r => decide (t.size ≤ 255) && okL f r ns)
    else (match ns with | [] => false | n :: r => pi.fits n ((c.toNat : Int) - 48) && okL f ts r)

def F (c i : Int) : List UInt8 := (fo.letters c i).data.toList
def ok (c i : Int) (ts : List ByteArray) (ns : List Int) : Bool := (fo.known c i).isSome && okL (F c i) ts ns

theorem okL_text {f : List UInt8} {t : ByteArray} {r : List ByteArray} {ns : List Int} (ht : t.size ≤ 255) : okL (115 :: f) (t :: r) ns = okL f r ns := by
  simp [okL, ht]
theorem okL_long {f : List UInt8} {t : ByteArray} {r : List ByteArray} {ns : List Int} (ht : 255 < t.size) : okL (115 :: f) (t :: r) ns = false := by
  simp [okL]; omega
theorem okL_none {f : List UInt8} {ns : List Int} : okL (115 :: f) [] ns = false := by simp [okL]
theorem okL_num {f : List UInt8} {c : UInt8} {ts : List ByteArray} {n : Int} {r : List Int} (hc : c ≠ 115) (hn : pi.fits n ((c.toNat : Int) - 48) = true) : okL (c :: f) ts (n :: r) = okL f ts r := by
  simp [okL, hc, hn]
theorem okL_nonum {f : List UInt8} {c : UInt8} {ts : List ByteArray} {n : Int} {r : List Int} (hc : c ≠ 115) (hn : pi.fits n ((c.toNat : Int) - 48) = false) : okL (c :: f) ts (n :: r) = false := by
  simp [okL, hc, hn]
theorem okL_nonums {f : List UInt8} {c : UInt8} {ts : List ByteArray} (hc : c ≠ 115) : okL (c :: f) ts [] = false := by
  simp [okL, hc]

theorem drop_cons {α : Type} {l : List α} {k : Nat} (h : k < l.length) : l.drop k = l[k] :: l.drop (k + 1) := List.drop_eq_getElem_cons h

/-- every letter of a known form has its deed -/
def letter (c : UInt8) : Bool := c == 115 || c == 49 || c == 50 || c == 52 || c == 56
theorem letters_ok (c i : Int) : ∀ x ∈ F c i, letter x = true := by
  have h : ∀ y ∈ fo.tab, ∀ x ∈ y.2, letter x = true := by decide
  intro x hx
  unfold F fo.letters at hx
  cases hk : fo.known c i with
  | none => rw [hk] at hx; simp at hx
  | some f =>
    rw [hk] at hx
    simp at hx
    unfold fo.known at hk
    cases hf : fo.tab.find? (fun x => x.1 == (c, i)) with
    | none => rw [hf] at hk; cases hk
    | some y =>
      rw [hf] at hk
      simp at hk
      subst hk
      exact h y (List.mem_of_find?_eq_some hf) x hx
theorem F_length (c i : Int) : (F c i).length ≤ 5 := by
  have h : ∀ y ∈ fo.tab, y.2.length ≤ 5 := by decide
  unfold F fo.letters
  cases hk : fo.known c i with
  | none => simp
  | some f =>
    simp
    unfold fo.known at hk
    cases hf : fo.tab.find? (fun x => x.1 == (c, i)) with
    | none => rw [hf] at hk; cases hk
    | some y =>
      rw [hf] at hk
      simp at hk
      subst hk
      exact h y (List.mem_of_find?_eq_some hf)
theorem F_none {c i : Int} (h : (fo.known c i).isSome = false) : fo.letters c i = ⟨#[]⟩ := by
  unfold fo.letters
  cases hk : fo.known c i with
  | none => rfl
  | some f => rw [hk] at h; cases h
end Go.Proofs.YtnmooolnmhidbaaDoor.mp
