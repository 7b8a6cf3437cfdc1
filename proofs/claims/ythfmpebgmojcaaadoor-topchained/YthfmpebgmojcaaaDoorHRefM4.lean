/- YthfmpebgmojcaaaDoorHRefL6 + YthfmpebgmojcaaaDoorHRefM6 + YthfmpebgmojcaaaDoorHRefL5 + YthfmpebgmojcaaaDoorHRefM5 + YthfmpebgmojcaaaDoorHRefM4 -/
import Derived.Test.YthfmpebgmojcaaaDoorHRefM8
/- The words spread (loop 6 of the reference's Sum): its regions, over a frame that is a letter. -/
namespace Go.Proofs.YthfmpebgmojcaaaDoor
open Go.RowKit
set_option linter.unusedVariables false
set_option maxRecDepth 100000
end Go.Proofs.YthfmpebgmojcaaaDoor
/- The words spread: loop 6 of the reference's Sum, over a frame that is a letter. -/
namespace Go.Proofs.YthfmpebgmojcaaaDoor
open Go.RowKit
set_option linter.unusedVariables false
set_option maxRecDepth 100000
end Go.Proofs.YthfmpebgmojcaaaDoor
/- The words of a block (loops 4 and 5 of the reference's Sum): the region, over a frame that is a letter. -/
namespace Go.Proofs.YthfmpebgmojcaaaDoor
open Go.RowKit
set_option linter.unusedVariables false
set_option maxRecDepth 100000
end Go.Proofs.YthfmpebgmojcaaaDoor
/- The words of a block: loops 4 and 5 of the reference's Sum, over a frame that is a letter. -/
namespace Go.Proofs.YthfmpebgmojcaaaDoor
open Go.RowKit
set_option linter.unusedVariables false
set_option maxRecDepth 100000
end Go.Proofs.YthfmpebgmojcaaaDoor
/- The words of a block: loop 4 of the reference's Sum, over a frame that is a letter. -/
namespace Go.Proofs.YthfmpebgmojcaaaDoor
open Go.RowKit
set_option linter.unusedVariables false
set_option maxRecDepth 100000
end Go.Proofs.YthfmpebgmojcaaaDoor
