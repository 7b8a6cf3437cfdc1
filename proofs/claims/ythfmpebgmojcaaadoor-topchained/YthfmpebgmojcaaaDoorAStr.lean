/- How long a text is that came in. -/
import Derived.Test.YthfmpebgmojcaaaDoorTC6
namespace Go.Proofs.YthfmpebgmojcaaaDoor
open Go.ChangeShapes Go.WideShapes Go.ChangeAt Go.RowKit
end Go.Proofs.YthfmpebgmojcaaaDoor
