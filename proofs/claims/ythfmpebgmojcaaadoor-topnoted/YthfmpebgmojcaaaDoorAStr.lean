/- How long a text is that came in. -/
import Derived.Test.YthfmpebgmojcaaaDoorALift
namespace Go.Proofs.YthfmpebgmojcaaaDoor
open Go.ChangeShapes Go.WideShapes Go.ChangeAt Go.RowKit
theorem size_str {H : Type} {ts : List TypeId} {ds : List (DataW H)} {j : Nat} {l : List UInt8}
    (hsz : (DataW.weightsEach Tryd.prog ts ds).all (· ≤ reachBytes) = true) (ht : ts[j]? = some 9) (hd : ds[j]? = some (.lit (.string l))) : l.length ≤ 140737488351232 := by
  have := List.all_eq_true.1 hsz _ (DataW.weights_mem_each ht hd l.length (by simp [DataW.weights]))
  exact of_decide_eq_true this
end Go.Proofs.YthfmpebgmojcaaaDoor
