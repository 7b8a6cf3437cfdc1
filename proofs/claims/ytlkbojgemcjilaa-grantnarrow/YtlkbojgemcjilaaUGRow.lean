/- GrantNarrow, as its row asks. -/
import Derived.Test.YtlkbojgemcjilaaUG2
namespace Go.Proofs.Ytlkbojgemcjilaa
open Go.RowKit
theorem grantNarrow_row {W : World} (l : List GDeed) (a : Option Addr) (cap : Nat) (hl : GDs W a l) (x : GDeed) (hx : x.Ok) :
    Calls Try.prog 3 #[.slice a l.length cap, .agg (gdC x)] W fun e w' => e = .returned (.bool true) ∧ Below W.heap.size W w' := grantNarrow_walk W hl cap x hx
end Go.Proofs.Ytlkbojgemcjilaa
