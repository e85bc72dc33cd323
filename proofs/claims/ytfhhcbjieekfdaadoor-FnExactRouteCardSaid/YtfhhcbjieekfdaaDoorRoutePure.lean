/- Route: the queues of what fits, each once, ascending: put one by one, or sorted and each but once. -/
import Derived.Test.YtfhhcbjieekfdaaDoorRouteOrder
namespace Go.Proofs.YtfhhcbjieekfdaaDoor.rtp
open Go.ChangeShapes Go.WideShapes Go.ChangeAt Go.RowKit Go.Proofs.YtfhhcbjieekfdaaDoor.rc Go.Proofs.YtfhhcbjieekfdaaDoor.ro
set_option linter.unusedVariables false

def Asc (l : List ByteArray) : Prop := l.Pairwise fun a b => lt a b = true
def posT : List ByteArray → ByteArray → Nat
  | [], _ => 0
  | e :: l, r => if lt e r then posT l r + 1 else 0
theorem posT_eq : ∀ (l : List ByteArray) (r : ByteArray) (p : Nat), p ≤ l.length → (∀ (i : Nat) a, i < p → l[i]? = some a → lt a r = true) → (∀ a, l[p]? = some a → lt a r = false) → posT l r = p
  | [], r, p, h, _, _ => by simp at h; subst h; rfl
  | e :: l, r, 0, _, _, h3 => by
    unfold posT
    rw [h3 e rfl]
    rfl
  | e :: l, r, p + 1, h1, h2, h3 => by
    unfold posT
    rw [h2 0 e (by omega) rfl, if_pos rfl, posT_eq l r p (by simp at h1; omega) (fun i a hi ha => h2 (i + 1) a (by omega) ha) (fun a ha => h3 a ha)]
noncomputable def putT (l : List ByteArray) (s : ByteArray) : List ByteArray := @ite _ (l[posT l s]? = some s) (Classical.propDecidable _) l (l.take (posT l s) ++ s :: l.drop (posT l s))
theorem putT_there {l : List ByteArray} {s : ByteArray} {p : Nat} (h : posT l s = p) (hm : l[p]? = some s) : putT l s = l := by
  unfold putT
  rw [h]
  exact @if_pos _ (Classical.propDecidable _) hm _ _ _
theorem putT_new {l : List ByteArray} {s : ByteArray} {p : Nat} (h : posT l s = p) (hm : ¬ l[p]? = some s) : putT l s = l.take p ++ s :: l.drop p := by
  unfold putT
  rw [h]
  exact @if_neg _ (Classical.propDecidable _) hm _ _ _
theorem putT_nil (s : ByteArray) : putT [] s = [s] := putT_new (p := 0) rfl (by simp)
theorem putT_lt {a s : ByteArray} (l : List ByteArray) (h : lt a s = true) : putT (a :: l) s = a :: putT l s := by
  have hp : posT (a :: l) s = posT l s + 1 := by show (if lt a s then posT l s + 1 else 0) = _; rw [h]; rfl
  by_cases hm : l[posT l s]? = some s
  · rw [putT_there hp (by simpa using hm), putT_there rfl hm]
  · rw [putT_new hp (by simpa using hm), putT_new rfl hm]
    rfl
theorem putT_eq (a : ByteArray) (l : List ByteArray) : putT (a :: l) a = a :: l := putT_there (p := 0) (by show (if lt a a then _ else 0) = _; rw [lt_irrefl]; rfl) rfl
theorem putT_gt {a s : ByteArray} (l : List ByteArray) (h : lt a s = false) (hne : a ≠ s) : putT (a :: l) s = s :: a :: l := putT_new (p := 0) (by show (if lt a s then _ else 0) = _; rw [h]; rfl) (by simpa using hne)
theorem putT_mem : ∀ {l : List ByteArray} {s x : ByteArray}, x ∈ putT l s ↔ x ∈ l ∨ x = s
  | [], s, x => by rw [putT_nil]; simp
  | a :: l, s, x => by
    cases h : lt a s with
    | true => rw [putT_lt l h, List.mem_cons, putT_mem, List.mem_cons, or_assoc]
    | false =>
      by_cases e : a = s
      · subst e; rw [putT_eq]; constructor
        · exact .inl
        · rintro (h1 | h1)
          · exact h1
          · rw [h1]; exact List.mem_cons_self ..
      · rw [putT_gt l h e]; simp only [List.mem_cons]
        constructor
        · rintro (h1 | h1 | h1)
          · exact .inr h1
          · exact .inl (.inl h1)
          · exact .inl (.inr h1)
        · rintro ((h1 | h1) | h1)
          · exact .inr (.inl h1)
          · exact .inr (.inr h1)
          · exact .inl h1
theorem putT_asc : ∀ {l : List ByteArray} {s : ByteArray}, Asc l → Asc (putT l s)
  | [], s, _ => by rw [putT_nil]; exact List.pairwise_singleton _ _
  | a :: l, s, hA => by
    obtain ⟨h1, h2⟩ := List.pairwise_cons.1 hA
    cases h : lt a s with
    | true =>
      rw [putT_lt l h]
      refine List.pairwise_cons.2 ⟨fun x hx => ?_, putT_asc h2⟩
      rcases putT_mem.1 hx with hx | hx
      · exact h1 x hx
      · rw [hx]; exact h
    | false =>
      by_cases e : a = s
      · subst e; rw [putT_eq]; exact hA
      · rw [putT_gt l h e]
        have h3 := lt_tri h e
        refine List.pairwise_cons.2 ⟨fun x hx => ?_, hA⟩
        rcases List.mem_cons.1 hx with hx | hx
        · rw [hx]; exact h3
        · exact lt_trans h3 (h1 x hx)
theorem asc_ext : ∀ {l m : List ByteArray}, Asc l → Asc m → (∀ e, e ∈ l ↔ e ∈ m) → l = m
  | [], [], _, _, _ => rfl
  | [], b :: m, _, _, h => by have := (h b).2 (by simp); cases this
  | a :: l, [], _, _, h => by have := (h a).1 (by simp); cases this
  | a :: l, b :: m, hl, hm, h => by
    obtain ⟨l1, l2⟩ := List.pairwise_cons.1 hl
    obtain ⟨m1, m2⟩ := List.pairwise_cons.1 hm
    have e : a = b := by
      rcases List.mem_cons.1 ((h a).1 (by simp)) with h1 | h1
      · exact h1
      · rcases List.mem_cons.1 ((h b).2 (by simp)) with h2 | h2
        · exact h2.symm
        · have := lt_asymm (m1 a h1); rw [l1 b h2] at this; cases this
    subst e
    congr 1
    refine asc_ext l2 m2 fun x => ⟨fun hx => ?_, fun hx => ?_⟩
    · rcases List.mem_cons.1 ((h x).1 (by simp [hx])) with h1 | h1
      · subst h1; have := l1 x hx; rw [lt_irrefl] at this; cases this
      · exact h1
    · rcases List.mem_cons.1 ((h x).2 (by simp [hx])) with h1 | h1
      · subst h1; have := m1 x hx; rw [lt_irrefl] at this; cases this
      · exact h1
/-- put one by one -/
noncomputable def puts (A : List ByteArray) : List ByteArray := A.foldl putT []
theorem puts_app (A : List ByteArray) (p : ByteArray) : puts (A ++ [p]) = putT (puts A) p := by simp [puts, List.foldl_append]
theorem fold_asc : ∀ (A L : List ByteArray), Asc L → Asc (A.foldl putT L)
  | [], L, h => h
  | a :: A, L, h => fold_asc A _ (putT_asc h)
theorem fold_mem : ∀ (A L : List ByteArray) (x : ByteArray), x ∈ A.foldl putT L ↔ x ∈ L ∨ x ∈ A
  | [], L, x => by simp
  | a :: A, L, x => by rw [List.foldl_cons, fold_mem A, putT_mem, List.mem_cons, or_assoc]
theorem puts_asc (A : List ByteArray) : Asc (puts A) := fold_asc A [] List.Pairwise.nil
theorem puts_mem (A : List ByteArray) (x : ByteArray) : x ∈ puts A ↔ x ∈ A := by unfold puts; rw [fold_mem]; simp
theorem fold_len : ∀ (A L : List ByteArray), (A.foldl putT L).length ≤ L.length + A.length
  | [], L => by simp
  | a :: A, L => by
    have h1 := fold_len A (putT L a)
    have h2 : (putT L a).length ≤ L.length + 1 := by
      by_cases hm : L[posT L a]? = some a
      · rw [putT_there rfl hm]; omega
      · rw [putT_new rfl hm]; simp; omega
    simp only [List.foldl_cons, List.length_cons]
    omega
theorem puts_len (A : List ByteArray) : (puts A).length ≤ A.length := by have := fold_len A []; simpa [puts] using this
end Go.Proofs.YtfhhcbjieekfdaaDoor.rtp
