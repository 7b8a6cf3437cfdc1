/- The rounds of the reference's Sum (loop 7): its regions, each a theorem over a frame that is a letter. -/
import Derived.Test.YthfmpebgmojcaaaDoorJ4
import Derived.Test.YthfmpebgmojcaaaDoorHRefBase
namespace Go.Proofs.YthfmpebgmojcaaaDoor
open Go.RowKit
set_option linter.unusedVariables false
set_option maxRecDepth 100000
end Go.Proofs.YthfmpebgmojcaaaDoor
