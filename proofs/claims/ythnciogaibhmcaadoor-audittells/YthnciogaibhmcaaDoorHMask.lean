/- A key as a block, masked: hash.masked. -/
import Derived.Test.YthnciogaibhmcaaDoorHTop
namespace Go.Proofs.YthnciogaibhmcaaDoor
open Go.RowKit
set_option linter.unusedVariables false
set_option maxRecDepth 20000
set_option maxRecDepth 20000
end Go.Proofs.YthnciogaibhmcaaDoor
