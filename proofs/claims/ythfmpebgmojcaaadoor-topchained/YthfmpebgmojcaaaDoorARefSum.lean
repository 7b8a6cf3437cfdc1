/- YthfmpebgmojcaaaDoorARefTag + YthfmpebgmojcaaaDoorARefSum -/
import Derived.Test.YthfmpebgmojcaaaDoorHDerive
import Derived.Laws.AppendOwnNone
import Derived.Test.YthfmpebgmojcaaaDoorHMask
import Derived.Test.YthfmpebgmojcaaaDoorHTag
import Derived.Deep.AppendLies
import Derived.Test.YthfmpebgmojcaaaDoorHRefN9
import Derived.BigRegion
/- The reference's bytes of a hash, and its tags: holdfastref07.bytesOf, Tag. -/
namespace Go.Proofs.YthfmpebgmojcaaaDoor
open Go.RowKit
set_option linter.unusedVariables false
set_option maxRecDepth 20000
end Go.Proofs.YthfmpebgmojcaaaDoor
/- The reference's SHA-256: holdfastref07.Sum. -/
namespace Go.Proofs.YthfmpebgmojcaaaDoor
open Go.RowKit
set_option linter.unusedVariables false
set_option maxRecDepth 100000
end Go.Proofs.YthfmpebgmojcaaaDoor
