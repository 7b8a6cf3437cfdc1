/- The next link of a chain: hash.Chain. -/
import Derived.Test.YtomhcccjeadefaaGreatDoorHTag
namespace Go.Proofs.YtomhcccjeadefaaGreatDoor
open Go.RowKit
set_option linter.unusedVariables false
set_option maxRecDepth 20000
end Go.Proofs.YtomhcccjeadefaaGreatDoor
