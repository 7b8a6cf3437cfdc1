/- Until of the reference. -/
import Derived.Test.YtcchlcbonfdhpaaDoorSLive
namespace Go.Proofs.YtcchlcbonfdhpaaDoor
open Go.RowKit Go.Maps Go.Sort Go.Shelf
set_option linter.unusedVariables false
set_option maxRecDepth 20000

set_option maxHeartbeats 1600000 in
theorem refUntil_any (s : Sess) (w : World) (h : TimesOk s) : Calls Tryd.prog 62 #[.agg #[.int .i64 s.id, .string s.ten, .string s.usr, .int .i64 s.since, .int .i64 s.used]] w fun e w' => e = .returned (.int .i64 (untilOf s)) ∧ Below w.heap.size w w' := by
  obtain ⟨h1, h2, h3, h4⟩ := h
  go_enter Tryd.func62, Tryd.ntmps62
  go_wp2
  all_goals go_ret
  all_goals exact ⟨ret_int (by unfold untilOf; omega), (Below.refl _ _).alloc (Nat.le_refl _) _⟩

end Go.Proofs.YtcchlcbonfdhpaaDoor
