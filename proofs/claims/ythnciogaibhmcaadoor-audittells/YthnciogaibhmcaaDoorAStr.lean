/- How long a text is that came in. -/
import Derived.Test.YthnciogaibhmcaaDoorALift
namespace Go.Proofs.YthnciogaibhmcaaDoor
open Go.ChangeShapes Go.WideShapes Go.ChangeAt Go.RowKit
end Go.Proofs.YthnciogaibhmcaaDoor
