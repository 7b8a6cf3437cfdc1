/- HashSums of the laws on hashes, walked. -/
import Derived.Test.YtfiaefagnkmpoaaDoorHSums
import Derived.Test.YtfiaefagnkmpoaaDoorHRefSum
namespace Go.Proofs.YtfiaefagnkmpoaaDoor
open Go.RowKit
theorem hashSums_done {w : World} (key : List UInt8) (a : Option Addr) (cap : Nat) (hk : BytesIn w a cap key) (b : List UInt8) (a' : Option Addr) (cap' : Nat) (hb : BytesIn w a' cap' b) (hK : KAt w) :
    Calls Tryd.prog 3 #[.slice a key.length cap, .slice a' b.length cap'] w fun e w' => e = .returned (.bool true) ∧ Below w.heap.size w w' := hashSums_walk sumOk key a cap hk b a' cap' hb hK
end Go.Proofs.YtfiaefagnkmpoaaDoor
