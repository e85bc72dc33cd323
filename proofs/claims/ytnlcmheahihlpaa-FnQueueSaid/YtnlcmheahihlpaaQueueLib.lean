/- Queues as a law's argument: what they weigh, laid anew, held beside each other; new memory alone. -/
import Derived.Test.YtnlcmheahihlpaaFlHeld
namespace Go.Proofs.Ytnlcmheahihlpaa.ql
open Go.ChangeShapes Go.WideShapes Go.ChangeAt Go.RowKit Go.Proofs.Ytnlcmheahihlpaa.fl
set_option linter.unusedVariables false

end Go.Proofs.Ytnlcmheahihlpaa.ql
