/- What an argument that is a row of texts, or of bytes, gives to a walk. -/
import Derived.Test.YtpdknoldcaaboaaDoorLift
import Derived.Test.YtpdknoldcaaboaaDoorKey
namespace Go.Proofs.YtpdknoldcaaboaaDoor
open Go.RowKit
end Go.Proofs.YtpdknoldcaaboaaDoor
