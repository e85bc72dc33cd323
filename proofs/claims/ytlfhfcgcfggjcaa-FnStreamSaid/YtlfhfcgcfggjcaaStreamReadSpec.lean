/- StreamRead, the specification's and the program's: entries from an offset on, at most so many; new memory alone. -/
import Derived.Test.YtlfhfcgcfggjcaaStreamOkSpec
import Derived.Test.YtlfhfcgcfggjcaaStreamOkImpl
import Derived.Test.YtlfhfcgcfggjcaaCopyEntries
import Derived.Test.YtlfhfcgcfggjcaaFlatOwn
namespace Go.Proofs.Ytlfhfcgcfggjcaa.srd
open Go.ChangeShapes Go.WideShapes Go.ChangeAt Go.RowKit Go.Proofs.Ytlfhfcgcfggjcaa.fl Go.Proofs.Ytlfhfcgcfggjcaa.fo Go.Proofs.Ytlfhfcgcfggjcaa.rr Go.Proofs.Ytlfhfcgcfggjcaa.st Go.Proofs.Ytlfhfcgcfggjcaa.ce
set_option linter.unusedVariables false

def skip (lo off : Int) : Nat := (max off lo - lo).toNat
noncomputable def read (sn : ByteArray) (lo nx : Int) (es : List flY.En) (ms : List Ex) (off most : Int) : List flY.En := if okB sn lo nx es ms = true then (es.drop (skip lo off)).take most.toNat else []
theorem own_form {w : World} {B n : Nat} {U : TypeId} {s : Nat} {v : Value} {xs : List Value} (h : w.ownsRow B U s v (n + 1) xs) : ∃ g cap, v = .slice (some ⟨g, 0, none⟩) (n + 1) cap := by
  obtain ⟨_, ⟨rfl, h0⟩ | ⟨g, cap, cur, rfl, _⟩⟩ := h
  · omega
  · exact ⟨g, cap, rfl⟩
theorem own_empty (w : World) (B : Nat) (U : TypeId) (s : Nat) (hB : B ≤ w.heap.size) : (w.alloc (.cells #[] U)).ownsRow B U s (.slice (some ⟨w.heap.size, 0, none⟩) 0 0) 0 [] :=
  ⟨by simp, .inr ⟨w.heap.size, 0, #[], rfl, hB, bnew w _ _, Nat.le_refl _, by unfold maxLen; omega, by simp, by simp⟩⟩
theorem own_stay {w w' : World} {B n : Nat} {U : TypeId} {s g cap : Nat} {xs : List Value} (h : w.ownsRow B U s (.slice (some ⟨g, 0, none⟩) n cap) n xs) (hb : Below w.heap.size w w') : w'.ownsRow B U s (.slice (some ⟨g, 0, none⟩) n cap) n xs := by
  obtain ⟨h0, ⟨h1, _⟩ | ⟨g', cap', cur, h1, h2, h3, h4⟩⟩ := h
  · cases h1
  · cases h1
    exact ⟨h0, .inr ⟨g, cap, cur, rfl, h2, bstay h3 hb (Array.getElem?_eq_some_iff.1 h3).1, h4⟩⟩
theorem cells_new (w : World) (e : flY.En) : ∀ (j : Nat) (u : Value), (flY.c e)[j]? = some u → (w.alloc (.cells #[.int .i64 e.o, .int .i64 e.t, .string e.b] 42)).cell? ((⟨w.heap.size, 0, none⟩ : Addr).add j) = some u := fun j u hu => by
  have h := bnew w #[.int .i64 e.o, .int .i64 e.t, .string e.b] 42
  have e1 : (⟨w.heap.size, 0, none⟩ : Addr).add j = ⟨w.heap.size, j, none⟩ := by unfold Addr.add; split <;> simp_all
  rw [e1]
  exact bcell h (by simpa [flY.c] using hu)
end Go.Proofs.Ytlfhfcgcfggjcaa.srd
