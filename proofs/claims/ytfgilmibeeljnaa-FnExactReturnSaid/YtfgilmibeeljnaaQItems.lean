/- Messages as a heap holds them. -/
import Derived.Test.YtfgilmibeeljnaaFlMessage
import Derived.Test.YtfgilmibeeljnaaDoneKit
import Derived.Test.YtfgilmibeeljnaaHeapPure
import Derived.Test.YtfgilmibeeljnaaFlatOwn
import Derived.Deep.QuietTactic
import Derived.BigQuiet
namespace Go.Proofs.Ytfgilmibeeljnaa.qit
open Go.ChangeShapes Go.WideShapes Go.ChangeAt Go.RowKit Go.Proofs.Ytfgilmibeeljnaa.fl
set_option linter.unusedVariables false

/-- what else lies in the box of an open queue -/
structure Qx where
  nm : ByteArray
  nx : Int
  ha : Option Addr
  hn : Nat
  hc : Nat
def Fits (_ : World) (_ : Nat) (_ : flM.Ms) : Prop := True
theorem Fits.below {w w' : World} {B : Nat} {r : flM.Ms} (h : Fits w B r) (hb : Below B w w') : Fits w' B r := trivial
def less (a b : flM.Ms) : Bool := decide (a.q < b.q)
theorem ord : hp.Ord less := by
  refine ⟨fun a => by simp [less], fun {a b c} h1 h2 => ?_, fun {a b} h => ?_⟩
  · simp only [less, decide_eq_false_iff_not] at *; omega
  · simp only [less, decide_eq_false_iff_not, decide_eq_true_eq] at *; omega
/-- a message at place i of the row g -/
structure At (w : World) (g i : Nat) (r : flM.Ms) : Prop where
  lt : g < w.heap.size
  c0 : w.cell? ⟨g, i * 5, none⟩ = some (.int .i64 r.q)
  c1 : w.cell? ⟨g, i * 5 + 1, none⟩ = some (.string r.x)
  c2 : w.cell? ⟨g, i * 5 + 2, none⟩ = some (.string r.k)
  c3 : w.cell? ⟨g, i * 5 + 3, none⟩ = some (.string r.b)
  c4 : w.cell? ⟨g, i * 5 + 4, none⟩ = some (.bool r.a)
theorem bdrewN {B : Nat} {a w : World} (h : Below B a w) (n : Nat) : Below B a (w.drewN n) := ⟨h.os, h.tape, h.output, h.size, h.block⟩
set_option maxRecDepth 100000 in
theorem less_run (g n cap i j : Nat) (A B : flM.Ms) (w : World) (hi : i < n) (hj : j < n) (hA : At w g i A) (hB : At w g j B) (fA : Fits w w.heap.size A) (fB : Fits w w.heap.size B) :
    Calls Try.prog 116 #[.slice (some ⟨g, 0, none⟩) n cap, .int .i64 i, .int .i64 j] w fun r w' => r = .returned (.bool (less A B)) ∧ Below w.heap.size w w' := by
  have a0 := hA.c0
  have b0 := hB.c0
  have an : (i : Int) < (n : Int) := by omega
  have bn : (j : Int) < (n : Int) := by omega
  unfold less
  clear hA hB fA fB
  go_enter Try.func116, Try.ntmps116
  go_wp2
  go_quiet (fail)
  go_wp2
  go_ret
  exact ⟨rfl, by first | exact Below.refl _ _ | exact bdrewN (Below.refl _ _) _⟩
end Go.Proofs.Ytfgilmibeeljnaa.qit
