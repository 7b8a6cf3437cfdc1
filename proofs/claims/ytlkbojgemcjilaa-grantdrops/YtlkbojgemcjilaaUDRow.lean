/- GrantDrops, as its row asks. -/
import Derived.Test.YtlkbojgemcjilaaUG3
namespace Go.Proofs.Ytlkbojgemcjilaa
open Go.RowKit
theorem grantDrops_row {W : World} (l : List GDeed) (a : Option Addr) (cap : Nat) (hl : GDs W a l) (x : GDeed) (hx : x.Ok) (o : ByteArray) (ho : o.size ≤ maxLen) :
    Calls Try.prog 4 #[.slice a l.length cap, .agg (gdC x), .string o] W fun e w' => e = .returned (.bool true) ∧ Below W.heap.size W w' := grantDrops_walk W hl cap x hx o (by simpa [maxLen] using ho)
end Go.Proofs.Ytlkbojgemcjilaa
