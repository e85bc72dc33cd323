/- Growing rows of bindings and of texts. -/
import Derived.Test.YtfhhcbjieekfdaaDoorPutText
import Derived.Test.YtfhhcbjieekfdaaDoorFlatOwn
import Derived.ArgAppend
import Derived.Lib.SliceRun
import Derived.Maps.AppendAt
namespace Go.Proofs.YtfhhcbjieekfdaaDoor.rtk
open Go.ChangeShapes Go.WideShapes Go.ChangeAt Go.RowKit Go.Proofs.YtfhhcbjieekfdaaDoor.fl Go.Proofs.YtfhhcbjieekfdaaDoor.rr Go.Proofs.YtfhhcbjieekfdaaDoor.ptt
set_option linter.unusedVariables false

def cB (b : Bi) : List Value := [.string b.x, .string b.k, .string b.q]
theorem cB_len (b : Bi) : (cB b).length = 3 := rfl
theorem infoB : ∃ i0, Tryd.prog.info? 46 = some i0 ∧ i0.zero = some (.agg #[.string ByteArray.empty, .string ByteArray.empty, .string ByteArray.empty]) ∧ i0.size = 3 ∧ i0.bytes = 48 := by
  have h : (Tryd.prog.info? 46).map (fun i => (i.zero, i.size, i.bytes)) = some (some (.agg #[.string ByteArray.empty, .string ByteArray.empty, .string ByteArray.empty]), 3, 48) := by kernel_rfl
  cases hh : Tryd.prog.info? 46 with
  | none => rw [hh] at h; cases h
  | some i => rw [hh] at h; simp at h; exact ⟨i, rfl, h.1, h.2.1, h.2.2⟩
theorem add0 (g j : Nat) : (⟨g, 0, none⟩ : Addr).add j = ⟨g, j, none⟩ := by unfold Addr.add; split <;> simp_all
theorem below_grown {W w' : World} {B : Nat} {r : Option Nat} (h : W.grownBy w' r) (hB : B ≤ W.heap.size) (hr : ∀ b, r = some b → B ≤ b) : Below B W w' := ⟨h.os, h.tape, h.output, h.size, fun k hk => h.block k (by omega) (fun e => by have := hr k e.symm; omega)⟩
/-- bindings in a row of its own above B, or none -/
def AllB (W : World) (B : Nat) (v : Value) (l : List Bi) : Prop := (l = [] ∧ ∃ ao, v = .slice ao 0 0) ∨ ∃ g cap, v = .slice (some ⟨g, 0, none⟩) l.length cap ∧ W.ownsRow B 46 3 (.slice (some ⟨g, 0, none⟩) l.length cap) l.length (l.flatMap cB)
theorem AllB.form {W : World} {B : Nat} {v : Value} {l : List Bi} (h : AllB W B v l) : ∃ ao cap, v = .slice ao l.length cap := by
  rcases h with ⟨rfl, ao, rfl⟩ | ⟨g, cap, rfl, _⟩
  · exact ⟨ao, 0, rfl⟩
  · exact ⟨_, cap, rfl⟩
theorem AllB.row {W : World} {B : Nat} {ao : Option Addr} {cap : Nat} {l : List Bi} (h : AllB W B (.slice ao l.length cap) l) : Row cB 3 W W.heap.size ao l := by
  rcases h with ⟨rfl, _⟩ | ⟨g, cap', e, ho⟩
  · exact .inl rfl
  · cases e
    obtain ⟨a', c', e', hr⟩ := own_row cB_len ho
    cases e'
    exact hr
theorem AllB.on {W W' : World} {B : Nat} {v : Value} {l : List Bi} (h : AllB W B v l) (hb : Below W.heap.size W W') : AllB W' B v l := by
  rcases h with h | ⟨g, cap, rfl, ho⟩
  · exact .inl h
  · exact .inr ⟨g, cap, rfl, ho.kept (row := none) ⟨hb.os, hb.tape, hb.output, hb.size, fun k hk _ => hb.block k hk⟩ (by simp [Value.ownBlock])⟩
theorem own_B {W : World} {B : Nat} {v : Value} {l : List Bi} (hl : l ≠ []) (h : W.ownsRow B 46 3 v l.length (l.flatMap cB)) : AllB W B v l := by
  have hs := h
  obtain ⟨_, ⟨_, h0⟩ | ⟨g, cap, cur, rfl, _⟩⟩ := hs
  · exact absurd (List.eq_nil_of_length_eq_zero h0) hl
  · exact .inr ⟨g, cap, rfl, h⟩
/-- one more -/
theorem app_B {W : World} {B a : Nat} {v : Value} {l : List Bi} (m : Bi) (h : AllB W B v l) (hB : B ≤ W.heap.size) (hl : l.length ≤ 1048576) (hc : W.heap[a]? = some (.cells (cB m).toArray 46 (0, 0))) (ty : TypeId) :
    ∃ v' w', (Builtin.append_ #[83, 83] ty #[v, .slice (some ⟨a, 0, none⟩) 1 1]).run Tryd.prog W = .ok v' w' ∧ AllB w' B v' (l ++ [m]) ∧ Below B W w' := by
  obtain ⟨i0, hi, hz0, hz1, hz2⟩ := infoB
  have hnews : ∀ j u, (cB m)[j]? = some u → W.cell? ((⟨a, 0, none⟩ : Addr).add j) = some u := fun j u hu => by
    rw [add0]
    exact bcell hc (by simpa using hu)
  have h1 : ∀ u ∈ cB m, u.oneCell' = true := fun u hu => by simp [cB] at hu; rcases hu with rfl | rfl | rfl <;> rfl
  have hfl : (l ++ [m]).flatMap cB = l.flatMap cB ++ cB m := by rw [List.flatMap_append]; simp
  have hln : (l ++ [m]).length = l.length + 1 := by simp
  rcases h with ⟨rfl, ao, rfl⟩ | ⟨g, cap, rfl, ho⟩
  · cases ao with
    | none =>
      obtain ⟨v', w', hr, ho, hg, _⟩ := run_append_own_at (P := Tryd.prog) W B 83 ty 46 i0 (.agg #[.string ByteArray.empty, .string ByteArray.empty, .string ByteArray.empty]) 3 48 Tryd.underlying83 hi hz0 hz1 hz2 rfl (by decide) (.slice none 0 0) 0 [] (World.ownsRow_nil W _ _ _) ⟨a, 0, none⟩ 1 1 (cB m) rfl hnews h1 (by unfold maxLen; omega) (by omega) hB
      exact ⟨v', w', hr, own_B (by simp) (by rw [hfl, hln]; simpa using ho), below_grown hg hB (fun b e => by simp [Value.ownBlock] at e)⟩
    | some b =>
      obtain ⟨v', w', hr, ho, hg⟩ := run_append_arg_grows (P := Tryd.prog) W 83 ty 46 i0 (.agg #[.string ByteArray.empty, .string ByteArray.empty, .string ByteArray.empty]) 3 48 Tryd.underlying83 hi hz0 hz1 hz2 rfl (by decide) b 0 0 [] rfl (fun j u hu => by simp at hu) ⟨a, 0, none⟩ 1 1 (cB m) rfl hnews (by omega) (by unfold maxLen; omega) (by omega)
      refine ⟨v', w', hr, own_B (by simp) ?_, below_grown hg hB (fun b e => by cases e)⟩
      rw [hfl, hln]
      obtain ⟨k1, k2 | ⟨g, cap, cur, k3, k4, k5⟩⟩ := ho
      · simp at k2
      · exact ⟨by simpa using k1, .inr ⟨g, cap, cur, by simpa using k3, by omega, by simpa using k5⟩⟩
  · obtain ⟨v', w', hr, ho', hg, _⟩ := run_append_own_at (P := Tryd.prog) W B 83 ty 46 i0 (.agg #[.string ByteArray.empty, .string ByteArray.empty, .string ByteArray.empty]) 3 48 Tryd.underlying83 hi hz0 hz1 hz2 rfl (by decide) _ l.length _ ho ⟨a, 0, none⟩ 1 1 (cB m) rfl hnews h1 (by unfold maxLen; omega) (by omega) hB
    exact ⟨v', w', hr, own_B (by simp) (by rw [hfl, hln]; exact ho'), below_grown hg hB (fun b e => by have := Option.some.inj e; subst this; exact (ho.lt g rfl).1)⟩
/-- texts in a row of its own above B, or none -/
def AllS (W : World) (B : Nat) (v : Value) (l : List ByteArray) : Prop := (l = [] ∧ ∃ ao, v = .slice ao 0 0) ∨ ∃ g cap, v = .slice (some ⟨g, 0, none⟩) l.length cap ∧ W.ownsRow B 9 1 (.slice (some ⟨g, 0, none⟩) l.length cap) l.length (l.flatMap cS)
theorem AllS.form {W : World} {B : Nat} {v : Value} {l : List ByteArray} (h : AllS W B v l) : ∃ ao cap, v = .slice ao l.length cap := by
  rcases h with ⟨rfl, ao, rfl⟩ | ⟨g, cap, rfl, _⟩
  · exact ⟨ao, 0, rfl⟩
  · exact ⟨_, cap, rfl⟩
theorem AllS.row {W : World} {B : Nat} {ao : Option Addr} {cap : Nat} {l : List ByteArray} (h : AllS W B (.slice ao l.length cap) l) : Row cS 1 W W.heap.size ao l := by
  rcases h with ⟨rfl, _⟩ | ⟨g, cap', e, ho⟩
  · exact .inl rfl
  · cases e
    obtain ⟨a', c', e', hr⟩ := own_row cS_len ho
    cases e'
    exact hr
theorem AllS.on {W W' : World} {B : Nat} {v : Value} {l : List ByteArray} (h : AllS W B v l) (hb : Below W.heap.size W W') : AllS W' B v l := by
  rcases h with h | ⟨g, cap, rfl, ho⟩
  · exact .inl h
  · exact .inr ⟨g, cap, rfl, ho.kept (row := none) ⟨hb.os, hb.tape, hb.output, hb.size, fun k hk _ => hb.block k hk⟩ (by simp [Value.ownBlock])⟩
theorem own_S {W : World} {B : Nat} {v : Value} {l : List ByteArray} (hl : l ≠ []) (h : W.ownsRow B 9 1 v l.length (l.flatMap cS)) : AllS W B v l := by
  have hs := h
  obtain ⟨_, ⟨_, h0⟩ | ⟨g, cap, cur, rfl, _⟩⟩ := hs
  · exact absurd (List.eq_nil_of_length_eq_zero h0) hl
  · exact .inr ⟨g, cap, rfl, h⟩
/-- one more -/
theorem app_S {W : World} {B a : Nat} {v : Value} {l : List ByteArray} (m : ByteArray) (h : AllS W B v l) (hB : B ≤ W.heap.size) (hl : l.length ≤ 1048576) (hc : W.heap[a]? = some (.cells (cS m).toArray 9 (0, 0))) (ty : TypeId) :
    ∃ v' w', (Builtin.append_ #[27, 27] ty #[v, .slice (some ⟨a, 0, none⟩) 1 1]).run Tryd.prog W = .ok v' w' ∧ AllS w' B v' (l ++ [m]) ∧ Below B W w' := by
  obtain ⟨i0, hi, hz0, hz1, hz2⟩ := infoS
  have hnews : ∀ j u, (cS m)[j]? = some u → W.cell? ((⟨a, 0, none⟩ : Addr).add j) = some u := fun j u hu => by
    rw [add0]
    exact bcell hc (by simpa using hu)
  have h1 : ∀ u ∈ cS m, u.oneCell' = true := fun u hu => by simp [cS] at hu; subst hu; rfl
  have hfl : (l ++ [m]).flatMap cS = l.flatMap cS ++ cS m := by rw [List.flatMap_append]; simp
  have hln : (l ++ [m]).length = l.length + 1 := by simp
  rcases h with ⟨rfl, ao, rfl⟩ | ⟨g, cap, rfl, ho⟩
  · cases ao with
    | none =>
      obtain ⟨v', w', hr, ho, hg, _⟩ := run_append_own_at (P := Tryd.prog) W B 27 ty 9 i0 (.string ByteArray.empty) 1 16 Tryd.underlying27 hi hz0 hz1 hz2 rfl (by decide) (.slice none 0 0) 0 [] (World.ownsRow_nil W _ _ _) ⟨a, 0, none⟩ 1 1 (cS m) rfl hnews h1 (by unfold maxLen; omega) (by omega) hB
      exact ⟨v', w', hr, own_S (by simp) (by rw [hfl, hln]; simpa using ho), below_grown hg hB (fun b e => by simp [Value.ownBlock] at e)⟩
    | some b =>
      obtain ⟨v', w', hr, ho, hg⟩ := run_append_arg_grows (P := Tryd.prog) W 27 ty 9 i0 (.string ByteArray.empty) 1 16 Tryd.underlying27 hi hz0 hz1 hz2 rfl (by decide) b 0 0 [] rfl (fun j u hu => by simp at hu) ⟨a, 0, none⟩ 1 1 (cS m) rfl hnews (by omega) (by unfold maxLen; omega) (by omega)
      refine ⟨v', w', hr, own_S (by simp) ?_, below_grown hg hB (fun b e => by cases e)⟩
      rw [hfl, hln]
      obtain ⟨k1, k2 | ⟨g, cap, cur, k3, k4, k5⟩⟩ := ho
      · simp at k2
      · exact ⟨by simpa using k1, .inr ⟨g, cap, cur, by simpa using k3, by omega, by simpa using k5⟩⟩
  · obtain ⟨v', w', hr, ho', hg, _⟩ := run_append_own_at (P := Tryd.prog) W B 27 ty 9 i0 (.string ByteArray.empty) 1 16 Tryd.underlying27 hi hz0 hz1 hz2 rfl (by decide) _ l.length _ ho ⟨a, 0, none⟩ 1 1 (cS m) rfl hnews h1 (by unfold maxLen; omega) (by omega) hB
    exact ⟨v', w', hr, own_S (by simp) (by rw [hfl, hln]; exact ho'), below_grown hg hB (fun b e => by have := Option.some.inj e; subst this; exact (ho.lt g rfl).1)⟩
end Go.Proofs.YtfhhcbjieekfdaaDoor.rtk
