/- Is a number among others? (For a seat without the reference's store; else KR4 has it.) -/
import Derived.Test.YtlfajgmhegcnaaaKLive
namespace Go.Proofs.Ytlfajgmhegcnaaa
open Go.RowKit Go.Maps Go.Sort Go.Shelf
set_option linter.unusedVariables false
set_option maxRecDepth 20000

/-- is a number among others? -/
def hasB (zs : List Int) (x : Int) : Bool := zs.contains x
theorem hasB_iff {zs : List Int} {x : Int} : hasB zs x = true ↔ x ∈ zs := List.contains_iff_mem
end Go.Proofs.Ytlfajgmhegcnaaa
