/- Write of the reference's disks: the walk. -/
import Derived.Test.YtcaifnenejjfaaaBRefWrite
namespace Go.Proofs.Ytcaifnenejjfaaa
open Go.RowKit
set_option linter.unusedVariables false
set_option maxRecDepth 20000
end Go.Proofs.Ytcaifnenejjfaaa
