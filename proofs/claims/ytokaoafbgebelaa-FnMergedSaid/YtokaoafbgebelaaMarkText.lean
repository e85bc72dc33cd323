/- The text that the laws mark a list with: laws.markText. -/
import Derived.Test.YtokaoafbgebelaaRows
import Derived.WalkKit
import Derived.WalkLawsBesides
import Derived.WalkSpells
import Derived.ProofKit
import Derived.OpenShut
import Derived.ShutString
import Derived.Laws.BytesArg
import Derived.Lib.ItoaNum
import Derived.Lib.Strings
import Derived.Deep.RegionWith
namespace Go.Proofs.Ytokaoafbgebelaa.sm
open Go.ChangeShapes Go.WideShapes Go.ChangeAt Go.RowKit

/-- the k-th mark -/
def mt (k : Nat) : ByteArray := ⟨(109 :: Lib.decDigits k).toArray⟩
end Go.Proofs.Ytokaoafbgebelaa.sm
