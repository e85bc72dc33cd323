/- The laws' marks in lists of runs: laid, and held. -/
import Derived.Test.YtokaoafbgebelaaMrPair
import Derived.Test.YtokaoafbgebelaaRunRows
namespace Go.Proofs.Ytokaoafbgebelaa.mrR
open Go.ChangeShapes Go.WideShapes Go.ChangeAt Go.RowKit Go.Proofs.Ytokaoafbgebelaa.fl Go.Proofs.Ytokaoafbgebelaa.fo Go.Proofs.Ytokaoafbgebelaa.rn
set_option linter.unusedVariables false

theorem blk_len {α β : Type} {a : Option Addr} {l : List α} {l' : List β} {k : Nat} (h : blk a l k) (hl : l.length = l'.length) : blk a l' k := by
  obtain ⟨h0, h1⟩ := h
  refine ⟨fun e => h0 ?_, h1⟩
  rw [e] at hl
  exact List.length_eq_zero_iff.1 hl
/-- a row of pairs of its own, or none -/
def MP (w : World) (B : Nat) (a : Option Addr) (l : List flP.Pr) : Prop := Mine flP.c 3 40 w B a l

/-- how many pairs -/
def ln (r : Rn) : Nat := r.l.length
/-- the blocks of the runs -/
def bks (rs : List Rn) : Nat → Prop := fun k => ∃ r ∈ rs, blk r.a r.l k
/-- no block is of two runs -/
def Apart (rs : List Rn) : Prop := ∀ (i j : Nat) (r s : Rn), rs[i]? = some r → rs[j]? = some s → i ≠ j → ∀ k, blk r.a r.l k → ¬ blk s.a s.l k
/-- all runs bear their marks -/
def Mkd (w : World) (B k0 : Nat) (rs : List Rn) (n : Nat) : Prop := ∀ (i : Nat) (r : Rn), rs[i]? = some r → i < n → MP w B r.a (mrP.mks (k0 + 3 * bulk ln (rs.take i)) r.l.length)
end Go.Proofs.Ytokaoafbgebelaa.mrR
