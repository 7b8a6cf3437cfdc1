/- Small functions of packages state and session, each by a contract: times, when a session is over. -/
import Derived.Test.YtmnhhomkglffcaaGreatDoorKMap
namespace Go.Proofs.YtmnhhomkglffcaaGreatDoor
open Go.RowKit Go.Maps
set_option linter.unusedVariables false

set_option maxHeartbeats 400000 in
theorem isTime_any (x : Int) (w : World) : Calls Tryz.prog 80 #[.int .i64 x] w fun e w' => e = .returned (.bool (decide (0 ≤ x ∧ x ≤ 1099511627776))) ∧ w' = w := by
  go_enter Tryz.func80, Tryz.ntmps80
  go_wp2
  all_goals go_ret
  all_goals refine ⟨ret_bool ?_, rfl⟩
  all_goals
    rw [Bool.eq_iff_iff]
    simp
    omega

set_option maxHeartbeats 400000 in
theorem timeErr_any (x y : Int) (w : World) : Calls Tryz.prog 82 #[.int .i64 x, .int .i64 y] w fun e w' => e = .returned (.int .i64 (timeErr x y)) ∧ w' = w := by
  have h0 := isTime_any x
  by_cases hx : 0 ≤ x ∧ x ≤ 1099511627776
  · rw [decide_eq_true hx] at h0
    by_cases hy : x < y
    all_goals
      go_enter Tryz.func82, Tryz.ntmps82
      go_wp2_with (go_at_call 80; refine (h0 _).mono ?_; rintro e w1 ⟨rfl, rfl⟩)
      go_ret
      refine ⟨ret_int ?_, rfl⟩
      unfold timeErr
      rw [if_neg (by omega)]
      first | rw [if_pos (by omega)] | rw [if_neg (by omega)]
  · rw [decide_eq_false hx] at h0
    go_enter Tryz.func82, Tryz.ntmps82
    go_wp2_with (go_at_call 80; refine (h0 _).mono ?_; rintro e w1 ⟨rfl, rfl⟩)
    go_ret
    refine ⟨ret_int ?_, rfl⟩
    unfold timeErr
    rw [if_pos (by omega)]
end Go.Proofs.YtmnhhomkglffcaaGreatDoor
