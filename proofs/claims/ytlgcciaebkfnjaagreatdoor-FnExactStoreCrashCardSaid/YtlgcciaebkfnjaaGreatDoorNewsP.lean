/- Rows of pairs handed to append. -/
import Derived.Test.YtlgcciaebkfnjaaGreatDoorFlPair
import Derived.Test.YtlgcciaebkfnjaaGreatDoorFlatOwn
import Derived.Maps.AppendAt
namespace Go.Proofs.YtlgcciaebkfnjaaGreatDoor.sct
open Go.ChangeShapes Go.WideShapes Go.ChangeAt Go.RowKit Go.Proofs.YtlgcciaebkfnjaaGreatDoor.fl
set_option linter.unusedVariables false

theorem add0 (g j : Nat) : (⟨g, 0, none⟩ : Addr).add j = ⟨g, j, none⟩ := by unfold Addr.add; split <;> simp_all
theorem own_low {w : World} {B B' n : Nat} {U : TypeId} {s : Nat} {v : Value} {xs : List Value} (h : w.ownsRow B U s v n xs) (hb : B' ≤ B) : w.ownsRow B' U s v n xs := by
  obtain ⟨h0, h1 | ⟨g, cap, cur, h1, h2, h3⟩⟩ := h
  · exact ⟨h0, .inl h1⟩
  · exact ⟨h0, .inr ⟨g, cap, cur, h1, by omega, h3⟩⟩
theorem newsP {w : World} {a B : Nat} {l : List flP.Pr} (h : Row flP.c 3 w B (some ⟨a, 0, none⟩) l) : ∀ (j : Nat) (u : Value), (l.flatMap flP.c)[j]? = some u → w.cell? ((⟨a, 0, none⟩ : Addr).add j) = some u := fun j u hu => by
  obtain ⟨i, e, r, h1, h2, rfl⟩ := flat_get flP.c_len l j u hu
  rcases h with rfl | ⟨g, off, ha, _, hc⟩
  · simp at h1
  · cases ha
    rw [add0]
    have := hc i e h1 r u h2
    rw [Nat.zero_add] at this
    exact this
theorem oneP (l : List flP.Pr) : ∀ u ∈ l.flatMap flP.c, u.oneCell' = true := fun u hu => by
  obtain ⟨e, _, he⟩ := List.mem_flatMap.1 hu
  simp [flP.c] at he
  rcases he with rfl | rfl | rfl <;> rfl
theorem infoP : ∃ i0, Tryz.prog.info? 49 = some i0 ∧ i0.zero = some (.agg #[.string ByteArray.empty, .string ByteArray.empty, .bool false]) ∧ i0.size = 3 ∧ i0.bytes = 40 := by
  have h := flP.info
  cases hh : Tryz.prog.info? 49 with
  | none => rw [hh] at h; cases h
  | some i => rw [hh] at h; simp at h; exact ⟨i, rfl, h.1, h.2.1, h.2.2⟩
end Go.Proofs.YtlgcciaebkfnjaaGreatDoor.sct
