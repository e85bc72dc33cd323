/- Where a pair goes in a run, the run behind it, and what a put answers. -/
import Derived.Test.YtfoajjkcocppeaaTabOk
import Derived.Test.YtfoajjkcocppeaaTabAns
namespace Go.Proofs.Ytfoajjkcocppeaa.ptp
open Go.ChangeShapes Go.WideShapes Go.ChangeAt Go.RowKit Go.Proofs.Ytfoajjkcocppeaa.fl Go.Proofs.Ytfoajjkcocppeaa.rn Go.Proofs.Ytfoajjkcocppeaa.rc Go.Proofs.Ytfoajjkcocppeaa.ro Go.Proofs.Ytfoajjkcocppeaa.rk Go.Proofs.Ytfoajjkcocppeaa.tk Go.Proofs.Ytfoajjkcocppeaa.tko Go.Proofs.Ytfoajjkcocppeaa.tan
set_option linter.unusedVariables false

def posP : List flP.Pr → ByteArray → Nat
  | [], _ => 0
  | e :: l, r => if lt e.k r then posP l r + 1 else 0
theorem posP_le : ∀ (l : List flP.Pr) (r : ByteArray), posP l r ≤ l.length
  | [], _ => Nat.le_refl _
  | e :: l, r => by
    unfold posP
    have := posP_le l r
    split
    · simp; omega
    · omega
theorem posP_eq : ∀ (l : List flP.Pr) (r : ByteArray) (p : Nat), p ≤ l.length → (∀ (i : Nat) a, i < p → l[i]? = some a → lt a.k r = true) → (∀ a, l[p]? = some a → lt a.k r = false) → posP l r = p
  | [], r, p, h, _, _ => by simp at h; subst h; rfl
  | e :: l, r, 0, _, _, h3 => by
    unfold posP
    rw [h3 e rfl]
    rfl
  | e :: l, r, p + 1, h1, h2, h3 => by
    unfold posP
    rw [h2 0 e (by omega) rfl, if_pos rfl, posP_eq l r p (by simp at h1; omega) (fun i a hi ha => h2 (i + 1) a (by omega) ha) (fun a ha => h3 a ha)]
def isP (l : List flP.Pr) (p : Nat) (r : ByteArray) : Bool := match l[p]? with | some a => decide (a.k = r) | none => false
def restP (l : List flP.Pr) (r : ByteArray) : List flP.Pr := if isP l (posP l r) r = true then l.drop (posP l r + 1) else l.drop (posP l r)
def setP (l : List flP.Pr) (e : flP.Pr) : List flP.Pr := l.take (posP l e.k) ++ e :: restP l e.k
theorem setP_le (l : List flP.Pr) (e : flP.Pr) : (setP l e).length ≤ l.length + 1 := by
  have := posP_le l e.k
  unfold setP restP
  split <;> simp <;> omega
theorem setP_mem {l : List flP.Pr} {e f : flP.Pr} (h : f ∈ setP l e) : f ∈ l ∨ f = e := by
  unfold setP restP at h
  rcases List.mem_append.1 h with h | h
  · exact .inl (List.mem_of_mem_take h)
  · rcases List.mem_cons.1 h with h | h
    · exact .inr h
    · split at h <;> exact .inl (List.mem_of_mem_drop h)
theorem isP_true {l : List flP.Pr} {p : Nat} {r : ByteArray} : isP l p r = true ↔ ∃ a, l[p]? = some a ∧ cmpT a.k r = 0 := by
  unfold isP
  cases h : l[p]? with
  | none => simp
  | some a => simp [cmp_zero]
theorem setP_there {l : List flP.Pr} {e : flP.Pr} {p : Nat} (h : posP l e.k = p) (hm : isP l p e.k = true) : setP l e = l.set p e := by
  subst h
  have hp : posP l e.k < l.length := by
    obtain ⟨a, ha, _⟩ := isP_true.1 hm
    exact (List.getElem?_eq_some_iff.1 ha).1
  unfold setP restP
  rw [if_pos hm, List.set_eq_take_append_cons_drop, if_pos hp]
theorem setP_new {l : List flP.Pr} {e : flP.Pr} {p : Nat} (h : posP l e.k = p) (hm : isP l p e.k = false) : setP l e = l.take p ++ e :: l.drop p := by
  subst h
  unfold setP restP
  rw [if_neg (by rw [hm]; simp)]
theorem posP_of {l : List flP.Pr} {t : flP.Pr} {p : Nat} (h : pf.PosP l t p) : posP l t.k = p :=
  posP_eq l t.k p h.1 (fun i a hi ha => cmp_neg.1 (h.2.1 i a hi ha)) (fun a ha => by
    have := h.2.2 p a (Nat.le_refl _) ha
    cases hh : lt a.k t.k with
    | false => rfl
    | true => have := cmp_neg.2 hh; unfold pf.cmpP at *; omega)
/-- with a pair in Young, where that is right -/
noncomputable def withB (ys : List flP.Pr) (R : List (List flP.Pr)) (e : flP.Pr) : Bool := okB ys R && okB (setP ys e) R
noncomputable def withY (ys : List flP.Pr) (R : List (List flP.Pr)) (e : flP.Pr) : List flP.Pr := if withB ys R e = true then setP ys e else ys
theorem with_le (ys : List flP.Pr) (R : List (List flP.Pr)) (e : flP.Pr) : (withY ys R e).length ≤ ys.length + 1 := by
  unfold withY
  split
  · exact setP_le _ _
  · omega
theorem fit_with {ys : List flP.Pr} {rs : List Rn} {e : flP.Pr} (F : tb.Fit ys rs) (hok : OkT ys (rs.map (·.l))) (h1 : e.k.size ≤ 1048576) (h2 : e.v.size ≤ 1048576) : tb.Fit (setP ys e) rs :=
  ⟨by have := hok.yo.ll; have := setP_le ys e; omega, F.rl, fun f hf => by
    rcases setP_mem hf with h | h
    · exact F.yo f h
    · subst h; exact ⟨h1, h2⟩, F.ro⟩
noncomputable def putY (ys : List flP.Pr) (R : List (List flP.Pr)) (xk xv : ByteArray) := withY ys R ⟨xk, xv, false⟩
noncomputable def putR (ys : List flP.Pr) (R : List (List flP.Pr)) (xk xv : ByteArray) := R
noncomputable def putB (ys : List flP.Pr) (R : List (List flP.Pr)) (xk xv : ByteArray) := withB ys R ⟨xk, xv, false⟩
theorem put_le (ys : List flP.Pr) (R : List (List flP.Pr)) (xk xv : ByteArray) : tot (putR ys R xk xv) ≤ ys.length + tot R ∧ (putY ys R xk xv).length ≤ ys.length + 1 ∧ (putR ys R xk xv).length ≤ R.length + 1 := ⟨by unfold putR; omega, with_le _ _ _, by unfold putR; omega⟩
noncomputable def dropY (ys : List flP.Pr) (R : List (List flP.Pr)) (xk : ByteArray) := withY ys R ⟨xk, ⟨#[]⟩, true⟩
noncomputable def dropR (ys : List flP.Pr) (R : List (List flP.Pr)) (xk : ByteArray) := R
noncomputable def dropB (ys : List flP.Pr) (R : List (List flP.Pr)) (xk : ByteArray) := withB ys R ⟨xk, ⟨#[]⟩, true⟩
theorem drop_le (ys : List flP.Pr) (R : List (List flP.Pr)) (xk : ByteArray) : tot (dropR ys R xk) ≤ ys.length + tot R ∧ (dropY ys R xk).length ≤ ys.length + 1 ∧ (dropR ys R xk).length ≤ R.length + 1 := ⟨by unfold dropR; omega, with_le _ _ _, by unfold dropR; omega⟩
end Go.Proofs.Ytfoajjkcocppeaa.ptp
