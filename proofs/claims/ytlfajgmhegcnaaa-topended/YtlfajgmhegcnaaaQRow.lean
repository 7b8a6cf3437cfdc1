/- TopEnded, as a row asks for it. -/
import Derived.Test.YtlfajgmhegcnaaaQTop3
import Derived.Test.YtlfajgmhegcnaaaQArgs
namespace Go.Proofs.Ytlfajgmhegcnaaa
open Go.RowKit Go.Maps
theorem topEnded_row {W : World} (l : List Int) (a : Option Addr) (cap : Nat) (hl : U16s W a l) :
    Calls Try.prog 3 #[.slice a l.length cap] W fun e w' => e = .returned (.bool true) ∧ Below W.heap.size W w' := topEnded_walk W hl cap
end Go.Proofs.Ytlfajgmhegcnaaa
