/- The walk of BlockCuts. -/
import Derived.Test.YtcaifnenejjfaaaGreatBWrites
namespace Go.Proofs.YtcaifnenejjfaaaGreat
open Go.RowKit
set_option linter.unusedVariables false
set_option maxRecDepth 20000

theorem chOf_get (fs : List (List UInt8)) (ls : List (Nat × List UInt8)) : (chOf fs ls).map (·.1) = ls.map (·.1) := by
  induction ls generalizing fs with
  | nil => rfl
  | cons c ls ih => show c.1 :: (chOf _ ls).map (·.1) = c.1 :: ls.map (·.1); rw [ih]
theorem psOf_full (fs : List (List UInt8)) (ls : List (Nat × List UInt8)) (hf : ∀ p ∈ fs, p.length = 256) (hok : ∀ c ∈ ls, c.2.length = 256) : ∀ p ∈ psOf fs ls, p.length = 256 := by
  induction ls generalizing fs with
  | nil => exact hf
  | cons c ls ih =>
    refine ih _ (fun p hp => ?_) (fun q hq => hok q (List.mem_cons_of_mem _ hq))
    rcases List.mem_or_eq_of_mem_set hp with h | h
    · exact hf p h
    · rw [h]; exact hok c List.mem_cons_self

end Go.Proofs.YtcaifnenejjfaaaGreat
