/- Whether a log's disk has a page, as refuse asks it. -/
import Derived.Test.YtcaifnenejjfaaaWSort
namespace Go.Proofs.Ytcaifnenejjfaaa
open Go.RowKit Go.Maps
set_option linter.unusedVariables false
set_option maxRecDepth 20000

theorem has_false {w : World} {B l d g cap mb n : Nat} {v : Value} {S G U : Nat} {pl : Nat → Option Nat} {ps : List (List UInt8)} {ch : List (Nat × List UInt8)} (H : LogMem w B l d g cap mb n v S G U pl ps ch) (P : Nat) (hl : ps.length = S + 1 + P) (hm : ps.length ≤ 1024) (m : Int) (hbad : m < 0 ∨ (P : Int) ≤ m) :
    ∀ u, Below w.heap.size w u → Calls Try.prog 25 #[.agg #[.pointer (some ⟨d, 0, none⟩), .int .i64 (S : Int)], .int .i64 m] u fun e w' => e = .returned (.bool false) ∧ Below u.heap.size u w' := fun u hu => by
  have h := has_any (H.below hu).disk S P hl hm m
  rw [decide_eq_false (show ¬ ((0 : Int) ≤ m ∧ m < (P : Int)) by omega)] at h
  exact h
theorem has_true {w : World} {B l d g cap mb n : Nat} {v : Value} {S G U : Nat} {pl : Nat → Option Nat} {ps : List (List UInt8)} {ch : List (Nat × List UInt8)} (H : LogMem w B l d g cap mb n v S G U pl ps ch) (P : Nat) (hl : ps.length = S + 1 + P) (hm : ps.length ≤ 1024) (m : Int) (hok : 0 ≤ m ∧ m < (P : Int)) :
    ∀ u, Below w.heap.size w u → Calls Try.prog 25 #[.agg #[.pointer (some ⟨d, 0, none⟩), .int .i64 (S : Int)], .int .i64 m] u fun e w' => e = .returned (.bool true) ∧ Below u.heap.size u w' := fun u hu => by
  have h := has_any (H.below hu).disk S P hl hm m
  rw [decide_eq_true hok] at h
  exact h
end Go.Proofs.Ytcaifnenejjfaaa
