/- The laws' marks in rows of the structure Held of their own, at any offset of their block: laid, and held. -/
import Derived.Test.YtnlcmheahihlpaaRows
import Derived.WalkKit
import Derived.WalkLawsBesides
import Derived.WalkSpells
import Derived.ProofKit
import Derived.OpenShut
import Derived.ShutString
import Derived.Laws.BytesArg
import Derived.Lib.ItoaNum
import Derived.Lib.Strings
import Derived.Deep.RegionWith
import Derived.Test.YtnlcmheahihlpaaQw10
import Derived.Test.YtnlcmheahihlpaaFlMessage
import Derived.Test.YtnlcmheahihlpaaFlHeld

/- The text that the laws mark a list with: laws.markText. -/
namespace Go.Proofs.Ytnlcmheahihlpaa.sm
open Go.ChangeShapes Go.WideShapes Go.ChangeAt Go.RowKit

end Go.Proofs.Ytnlcmheahihlpaa.sm

/- The laws' marks in rows of the structure Message of their own, at any offset of their block: laid, and held. -/
namespace Go.Proofs.Ytnlcmheahihlpaa.mrM
open Go.ChangeShapes Go.WideShapes Go.ChangeAt Go.RowKit Go.Proofs.Ytnlcmheahihlpaa.fl Go.Proofs.Ytnlcmheahihlpaa.fo Go.Proofs.Ytnlcmheahihlpaa.fp
set_option linter.unusedVariables false

end Go.Proofs.Ytnlcmheahihlpaa.mrM

/- The laws' marks in rows of the structure Held of their own, at any offset of their block: laid, and held. -/
namespace Go.Proofs.Ytnlcmheahihlpaa.mrH
open Go.ChangeShapes Go.WideShapes Go.ChangeAt Go.RowKit Go.Proofs.Ytnlcmheahihlpaa.fl Go.Proofs.Ytnlcmheahihlpaa.fo Go.Proofs.Ytnlcmheahihlpaa.fp
set_option linter.unusedVariables false

end Go.Proofs.Ytnlcmheahihlpaa.mrH
