/- YthfmpebgmojcaaaDoorARAnc + YthfmpebgmojcaaaDoorARVer -/
import Derived.Test.YthfmpebgmojcaaaDoorARAt
import Derived.Test.YthfmpebgmojcaaaDoorADel
/- The reference's Anchor, by a contract. -/
namespace Go.Proofs.YthfmpebgmojcaaaDoor
open Go.RowKit
set_option linter.unusedVariables false
set_option maxRecDepth 20000
end Go.Proofs.YthfmpebgmojcaaaDoor
/- The reference's Verify, by a contract (a chain whose anchor is not behind its base). -/
namespace Go.Proofs.YthfmpebgmojcaaaDoor
open Go.RowKit
set_option linter.unusedVariables false
set_option maxRecDepth 20000
section
variable {ops : Array Oper} {S : World → Prop} {op : Oper} {a : Act}
end
end Go.Proofs.YthfmpebgmojcaaaDoor
