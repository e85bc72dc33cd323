/- Lists of lists of pairs as they lie; the laws' look at two of them beside each other. -/
import Derived.Test.YtoemkbooomgieaaGreatDoorFlPair
namespace Go.Proofs.YtoemkbooomgieaaGreatDoor.rn
open Go.ChangeShapes Go.WideShapes Go.ChangeAt Go.RowKit Go.Proofs.YtoemkbooomgieaaGreatDoor.fl
set_option linter.unusedVariables false

/-- a run as it lies: where, its room, its pairs -/
structure Rn where
  a : Option Addr
  c : Nat
  l : List flP.Pr
def cR (r : Rn) : List Value := [.slice r.a r.l.length r.c]
theorem cR_len (r : Rn) : (cR r).length = 1 := rfl
/-- a list of runs as it lies -/
def VR (w : World) (B : Nat) (a : Option Addr) (rs : List Rn) : Prop := Row cR 1 w B a rs ∧ ∀ r ∈ rs, Row flP.c 3 w B r.a r.l
theorem VR.inn {w w' : World} {a : Option Addr} {rs : List Rn} (h : VR w w.heap.size a rs) (hb : Below w.heap.size w w') : VR w' w'.heap.size a rs := ⟨h.1.inn hb, fun r hr => (h.2 r hr).inn hb⟩
end Go.Proofs.YtoemkbooomgieaaGreatDoor.rn
