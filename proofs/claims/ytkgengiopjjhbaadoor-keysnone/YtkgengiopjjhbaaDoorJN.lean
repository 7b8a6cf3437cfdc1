/- KeysNone, for a row of bytes that came in. -/
import Derived.Test.YtkgengiopjjhbaaDoorJLift
namespace Go.Proofs.YtkgengiopjjhbaaDoor
open Go.RowKit
theorem keysNone_w {W : World} (s : ByteArray) (hs : s.size ≤ 140737488351232) (l : List UInt8) (a : Option Addr) (cap : Nat) (_h : BytesIn W a cap l) (hT : TabsJ W) : Calls Tryd.prog 4 #[.string s, .slice a l.length cap] W fun e w' => e = .returned (.bool true) ∧ Below W.heap.size W w' := keysNone_walk s hs _ W hT
end Go.Proofs.YtkgengiopjjhbaaDoor
