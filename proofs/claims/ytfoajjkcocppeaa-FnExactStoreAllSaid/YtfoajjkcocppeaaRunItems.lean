/- What is left of runs, as a heap holds it. -/
import Derived.Test.YtfoajjkcocppeaaTabOk
import Derived.Test.YtfoajjkcocppeaaDoneKit
import Derived.Test.YtfoajjkcocppeaaHeapPure
import Derived.Test.YtfoajjkcocppeaaFlatOwn
namespace Go.Proofs.Ytfoajjkcocppeaa.ri
open Go.ChangeShapes Go.WideShapes Go.ChangeAt Go.RowKit Go.Proofs.Ytfoajjkcocppeaa.fl Go.Proofs.Ytfoajjkcocppeaa.rc Go.Proofs.Ytfoajjkcocppeaa.ro
set_option linter.unusedVariables false

/-- what is left of a run: where it lies, its room, its pairs; its place -/
structure It where
  b : Nat
  o : Nat
  c : Nat
  l : List flP.Pr
  p : Nat
def cI (r : It) : List Value := [.slice (some ⟨r.b, r.o, none⟩) r.l.length r.c, .int .i64 r.p]
theorem cI_len (r : It) : (cI r).length = 2 := rfl
def key (r : It) : ByteArray := match r.l with
  | [] => ⟨#[]⟩
  | e :: _ => e.k
/-- its pairs lie in the world w, below B -/
structure Fits (w : World) (B : Nat) (r : It) : Prop where
  lt : r.b < B
  ne : r.l ≠ []
  len : r.l.length ≤ 300
  pl : r.p ≤ 100
  cells : ∀ (i : Nat) (e : flP.Pr), r.l[i]? = some e → ∀ (j : Nat) (v : Value), (flP.c e)[j]? = some v → w.cell? ⟨r.b, r.o + i * 3 + j, none⟩ = some v
theorem Fits.below {w w' : World} {B : Nat} {r : It} (h : Fits w B r) (hb : Below B w w') : Fits w' B r :=
  ⟨h.lt, h.ne, h.len, h.pl, fun i e he j v hv => (hb.cell (p := ⟨r.b, _, none⟩) h.lt).trans (h.cells i e he j v hv)⟩
def cmpI (x y : Int) : Int := if x < y then -1 else if x = y then 0 else 1
theorem cmpI_neg {x y : Int} : cmpI x y < 0 ↔ x < y := by unfold cmpI; split <;> (try split) <;> omega
theorem cmpI_zero {x y : Int} : cmpI x y = 0 ↔ x = y := by unfold cmpI; split <;> (try split) <;> omega
def or2 (x y : Int) : Int := if x ≠ 0 then x else y
/-- one ahead of the other: by its first key, then by its place -/
def less (a b : It) : Bool := decide (or2 (cmpT (key a) (key b)) (cmpI a.p b.p) < 0)
theorem less_iff {a b : It} : less a b = true ↔ lt (key a) (key b) = true ∨ (key a = key b ∧ a.p < b.p) := by
  unfold less or2
  rw [decide_eq_true_iff]
  by_cases h : cmpT (key a) (key b) = 0
  · have e := cmp_zero.1 h
    rw [if_neg (by simpa using h), cmpI_neg, e, lt_irrefl]
    simp
  · rw [if_pos h, cmp_neg]
    constructor
    · exact .inl
    · rintro (h1 | ⟨h1, _⟩)
      · exact h1
      · exact absurd (cmp_zero.2 h1) h
theorem ord : hp.Ord less := by
  have tri : ∀ {x y : ByteArray}, lt x y = false → lt y x = false → x = y := fun {x y} h1 h2 => by
    by_cases e : x = y
    · exact e
    · rw [lt_tri h1 e] at h2; cases h2
  have nl : ∀ {a b : It}, less a b = false → lt (key a) (key b) = false ∧ (key a = key b → b.p ≤ a.p) := fun {a b} h => by
    refine ⟨?_, fun e => ?_⟩
    · cases h1 : lt (key a) (key b) with
      | false => rfl
      | true => rw [less_iff.2 (.inl h1)] at h; cases h
    · rcases Nat.lt_or_ge a.p b.p with h1 | h1
      · rw [less_iff.2 (.inr ⟨e, h1⟩)] at h; cases h
      · exact h1
  refine ⟨fun a => ?_, fun {a b c} h1 h2 => ?_, fun {a b} h => ?_⟩
  · cases h : less a a with
    | false => rfl
    | true =>
      rcases less_iff.1 h with h1 | ⟨_, h1⟩
      · rw [lt_irrefl] at h1; cases h1
      · omega
  · obtain ⟨p1, q1⟩ := nl h1
    obtain ⟨p2, q2⟩ := nl h2
    cases h : less c a with
    | false => rfl
    | true =>
      rcases less_iff.1 h with h3 | ⟨h3, h4⟩
      · by_cases e : key b = key c
        · rw [← e, p1] at h3; cases h3
        · have h5 := lt_tri p2 (Ne.symm e)
          rw [lt_trans h5 h3] at p1; cases p1
      · have e1 : key b = key a := tri p1 (by rw [← h3]; exact p2)
        have := q1 e1
        have := q2 (h3.trans e1.symm)
        omega
  · cases h2 : less b a with
    | false => rfl
    | true =>
      rcases less_iff.1 h with h3 | ⟨h3, h4⟩
      · rcases less_iff.1 h2 with h5 | ⟨h5, _⟩
        · rw [lt_asymm h3] at h5; cases h5
        · rw [h5, lt_irrefl] at h3; cases h3
      · rcases less_iff.1 h2 with h5 | ⟨_, h5⟩
        · rw [h3, lt_irrefl] at h5; cases h5
        · omega

end Go.Proofs.Ytfoajjkcocppeaa.ri
