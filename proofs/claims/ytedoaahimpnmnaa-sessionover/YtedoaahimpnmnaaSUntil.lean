/- Until of the reference. -/
import Derived.Test.YtedoaahimpnmnaaSLive
namespace Go.Proofs.Ytedoaahimpnmnaa
open Go.RowKit Go.Maps Go.Sort Go.Shelf
set_option linter.unusedVariables false
set_option maxRecDepth 20000

set_option maxHeartbeats 1600000 in
theorem refUntil_any (s : Sess) (w : World) (h : TimesOk s) : Calls Try.prog 11 #[.agg #[.int .i64 s.id, .string s.ten, .string s.usr, .int .i64 s.since, .int .i64 s.used]] w fun e w' => e = .returned (.int .i64 (untilOf s)) ∧ Below w.heap.size w w' := by
  obtain ⟨h1, h2, h3, h4⟩ := h
  go_enter Try.func11, Try.ntmps11
  go_wp2
  all_goals go_ret
  all_goals exact ⟨ret_int (by unfold untilOf; omega), (Below.refl _ _).alloc (Nat.le_refl _) _⟩

end Go.Proofs.Ytedoaahimpnmnaa
