/- play of the laws of layer 1, by a contract: disk and reference stand as one log says. -/
import Derived.Test.YthdcjepkehifoaaGreatBPair

namespace Go.Proofs.YthdcjepkehifoaaGreat
open Go.RowKit
set_option linter.unusedVariables false
set_option maxRecDepth 20000

/-- what play leaves: a disk and a reference's disk of one log -/
structure Played (w : World) (B d g cap : Nat) (v : Value) (r : Nat) (F L : Value) (vs us : List Value) (fs : List (List UInt8)) (ls : List (Nat × List UInt8)) : Prop where
  pair : Pair w B d g cap v (psOf fs ls) (chOf fs ls) r F L vs us fs ls
  ok : ∀ c ∈ ls, c.1 < fs.length ∧ c.2.length = 256

theorem undrewO {P : Nat → Prop} {w w' : World} (h : Out P w.drew w') : Out P w w' := ⟨h.os, h.tape, h.output, h.size, h.block⟩
theorem cellsOf_set (l : List UInt8) (k : Nat) (b : UInt8) : (cellsOf l).set k (.int .u8 (b.toNat : Int)) = cellsOf (l.set k b) := by
  unfold cellsOf; rw [List.map_set]

end Go.Proofs.YthdcjepkehifoaaGreat
