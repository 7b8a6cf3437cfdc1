/- The walk of BlockReplays. -/
import Derived.Test.YthdcjepkehifoaaGreatBPlay
namespace Go.Proofs.YthdcjepkehifoaaGreat
open Go.RowKit
set_option linter.unusedVariables false
set_option maxRecDepth 20000

theorem lcells_get (ls : List (Nat × List UInt8)) (us : List Value) (h : us.length = ls.length) (i : Nat) (hi : i < ls.length) (hi' : i < us.length) : (lcells ls us)[i * 2]? = some (.int .i64 (ls[i].1 : Int)) ∧ (lcells ls us)[i * 2 + 1]? = some us[i] := by
  induction ls generalizing us i with
  | nil => simp at hi
  | cons c ls ih =>
    cases us with
    | nil => simp at hi'
    | cons u us =>
      cases i with
      | zero => exact ⟨rfl, rfl⟩
      | succ i =>
        have := ih us (by simpa using h) i (by simpa using hi) (by simpa using hi')
        rw [show (i + 1) * 2 = i * 2 + 2 by omega, show i * 2 + 2 + 1 = i * 2 + 1 + 2 by omega]
        simp only [lcells, List.getElem?_cons_succ]
        exact this
theorem psOf_take (fs : List (List UInt8)) (ls : List (Nat × List UInt8)) (i : Nat) (hi : i < ls.length) : psOf fs (ls.take (i + 1)) = (psOf fs (ls.take i)).set ls[i].1 ls[i].2 := by
  rw [List.take_succ_eq_append_getElem hi, psOf_snoc]
theorem Played.below {w w' : World} {B d g cap : Nat} {v : Value} {r : Nat} {F L : Value} {vs us : List Value} {fs : List (List UInt8)} {ls : List (Nat × List UInt8)} (h : Played w B d g cap v r F L vs us fs ls) (hb : Below w.heap.size w w') : Played w' B d g cap v r F L vs us fs ls := ⟨h.pair.below hb, h.ok⟩

end Go.Proofs.YthdcjepkehifoaaGreat
