/- The laws' marks in rows of pairs of their own, at any offset of their block: laid, and held. -/
import Derived.Test.YtokaoafbgebelaaFlatOff
import Derived.Test.YtokaoafbgebelaaFlPair
import Derived.Test.YtokaoafbgebelaaMarkText
import Derived.Deep.RegionWith
namespace Go.Proofs.Ytokaoafbgebelaa.mrP
open Go.ChangeShapes Go.WideShapes Go.ChangeAt Go.RowKit Go.Proofs.Ytokaoafbgebelaa.fl Go.Proofs.Ytokaoafbgebelaa.fo
set_option linter.unusedVariables false

/-- the marks of n pairs from the k0-th on -/
def mks (k0 n : Nat) : List flP.Pr := (List.range n).map fun i => ⟨sm.mt (k0 + 3 * i), sm.mt (k0 + 3 * i + 1), decide ((k0 + 3 * i + 2) % 3 = 0)⟩
theorem mks_len (k0 n : Nat) : (mks k0 n).length = n := by simp [mks]
end Go.Proofs.Ytokaoafbgebelaa.mrP
