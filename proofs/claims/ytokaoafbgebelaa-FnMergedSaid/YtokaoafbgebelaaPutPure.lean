/- Where a pair goes in a run, the run behind it, and what a put answers. -/
import Derived.Test.YtokaoafbgebelaaTabOk
import Derived.Test.YtokaoafbgebelaaPutPure0
import Derived.Test.YtokaoafbgebelaaTabAns
namespace Go.Proofs.Ytokaoafbgebelaa.ptp
open Go.ChangeShapes Go.WideShapes Go.ChangeAt Go.RowKit Go.Proofs.Ytokaoafbgebelaa.fl Go.Proofs.Ytokaoafbgebelaa.rn Go.Proofs.Ytokaoafbgebelaa.rc Go.Proofs.Ytokaoafbgebelaa.ro Go.Proofs.Ytokaoafbgebelaa.rk Go.Proofs.Ytokaoafbgebelaa.tk Go.Proofs.Ytokaoafbgebelaa.tko Go.Proofs.Ytokaoafbgebelaa.tan
set_option linter.unusedVariables false

theorem posP_of {l : List flP.Pr} {t : flP.Pr} {p : Nat} (h : pf.PosP l t p) : posP l t.k = p :=
  posP_eq l t.k p h.1 (fun i a hi ha => cmp_neg.1 (h.2.1 i a hi ha)) (fun a ha => by
    have := h.2.2 p a (Nat.le_refl _) ha
    cases hh : lt a.k t.k with
    | false => rfl
    | true => have := cmp_neg.2 hh; unfold pf.cmpP at *; omega)
/-- with a pair in Young, where that is right -/
noncomputable def withB (ys : List flP.Pr) (R : List (List flP.Pr)) (e : flP.Pr) : Bool := okB ys R && okB (setP ys e) R
noncomputable def withY (ys : List flP.Pr) (R : List (List flP.Pr)) (e : flP.Pr) : List flP.Pr := if withB ys R e = true then setP ys e else ys
theorem with_le (ys : List flP.Pr) (R : List (List flP.Pr)) (e : flP.Pr) : (withY ys R e).length ≤ ys.length + 1 := by
  unfold withY
  split
  · exact setP_le _ _
  · omega
theorem fit_with {ys : List flP.Pr} {rs : List Rn} {e : flP.Pr} (F : tb.Fit ys rs) (hok : OkT ys (rs.map (·.l))) (h1 : e.k.size ≤ 1048576) (h2 : e.v.size ≤ 1048576) : tb.Fit (setP ys e) rs :=
  ⟨by have := hok.yo.ll; have := setP_le ys e; omega, F.rl, fun f hf => by
    rcases setP_mem hf with h | h
    · exact F.yo f h
    · subst h; exact ⟨h1, h2⟩, F.ro⟩
noncomputable def putY (ys : List flP.Pr) (R : List (List flP.Pr)) (xk xv : ByteArray) := withY ys R ⟨xk, xv, false⟩
noncomputable def putR (ys : List flP.Pr) (R : List (List flP.Pr)) (xk xv : ByteArray) := R
noncomputable def putB (ys : List flP.Pr) (R : List (List flP.Pr)) (xk xv : ByteArray) := withB ys R ⟨xk, xv, false⟩
theorem put_le (ys : List flP.Pr) (R : List (List flP.Pr)) (xk xv : ByteArray) : tot (putR ys R xk xv) ≤ ys.length + tot R ∧ (putY ys R xk xv).length ≤ ys.length + 1 ∧ (putR ys R xk xv).length ≤ R.length + 1 := ⟨by unfold putR; omega, with_le _ _ _, by unfold putR; omega⟩
noncomputable def dropY (ys : List flP.Pr) (R : List (List flP.Pr)) (xk : ByteArray) := withY ys R ⟨xk, ⟨#[]⟩, true⟩
noncomputable def dropR (ys : List flP.Pr) (R : List (List flP.Pr)) (xk : ByteArray) := R
noncomputable def dropB (ys : List flP.Pr) (R : List (List flP.Pr)) (xk : ByteArray) := withB ys R ⟨xk, ⟨#[]⟩, true⟩
theorem drop_le (ys : List flP.Pr) (R : List (List flP.Pr)) (xk : ByteArray) : tot (dropR ys R xk) ≤ ys.length + tot R ∧ (dropY ys R xk).length ≤ ys.length + 1 ∧ (dropR ys R xk).length ≤ R.length + 1 := ⟨by unfold dropR; omega, with_le _ _ _, by unfold dropR; omega⟩
end Go.Proofs.Ytokaoafbgebelaa.ptp
