/- Refresh of package token: a spent token that comes again; one that is taken. (Printed by gen/kref3.py.) -/
import Derived.Test.YtlfajgmhegcnaaaKRef2
namespace Go.Proofs.Ytlfajgmhegcnaaa
open Go.RowKit Go.Maps Go.Sort Go.Shelf
set_option linter.unusedVariables false
set_option maxRecDepth 20000
set_option maxRecDepth 20000
end Go.Proofs.Ytlfajgmhegcnaaa
