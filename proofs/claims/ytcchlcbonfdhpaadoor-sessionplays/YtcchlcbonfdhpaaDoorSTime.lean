/- Small functions of packages state and session, each by a contract: times, when a session is over. -/
import Derived.Test.YtcchlcbonfdhpaaDoorNMap
namespace Go.Proofs.YtcchlcbonfdhpaaDoor
open Go.RowKit Go.Maps
set_option linter.unusedVariables false

set_option maxHeartbeats 400000 in
theorem isTime_any (x : Int) (w : World) : Calls Tryd.prog 69 #[.int .i64 x] w fun e w' => e = .returned (.bool (decide (0 ≤ x ∧ x ≤ 1099511627776))) ∧ w' = w := by
  go_enter Tryd.func69, Tryd.ntmps69
  go_wp2
  all_goals go_ret
  all_goals refine ⟨ret_bool ?_, rfl⟩
  all_goals
    rw [Bool.eq_iff_iff]
    simp
    omega

set_option maxHeartbeats 400000 in
theorem timeErr_any (x y : Int) (w : World) : Calls Tryd.prog 59 #[.int .i64 x, .int .i64 y] w fun e w' => e = .returned (.int .i64 (timeErr x y)) ∧ w' = w := by
  have h0 := isTime_any x
  by_cases hx : 0 ≤ x ∧ x ≤ 1099511627776
  · rw [decide_eq_true hx] at h0
    by_cases hy : x < y
    all_goals
      go_enter Tryd.func59, Tryd.ntmps59
      go_wp2_with (go_at_call 69; refine (h0 _).mono ?_; rintro e w1 ⟨rfl, rfl⟩)
      go_ret
      refine ⟨ret_int ?_, rfl⟩
      unfold timeErr
      rw [if_neg (by omega)]
      first | rw [if_pos (by omega)] | rw [if_neg (by omega)]
  · rw [decide_eq_false hx] at h0
    go_enter Tryd.func59, Tryd.ntmps59
    go_wp2_with (go_at_call 69; refine (h0 _).mono ?_; rintro e w1 ⟨rfl, rfl⟩)
    go_ret
    refine ⟨ret_int ?_, rfl⟩
    unfold timeErr
    rw [if_pos (by omega)]

set_option maxHeartbeats 400000 in
theorem until_any (s : Sess) (w : World) (h : TimesOk s) : Calls Tryd.prog 16 #[.agg #[.int .i64 s.id, .string s.ten, .string s.usr, .int .i64 s.since, .int .i64 s.used]] w fun e w' => e = .returned (.int .i64 (untilOf s)) ∧ Below w.heap.size w w' := by
  obtain ⟨h1, h2, h3, h4⟩ := h
  go_enter Tryd.func16, Tryd.ntmps16
  go_wp2
  all_goals go_ret
  all_goals exact ⟨ret_int (by unfold untilOf; omega), (Below.refl _ _).alloc (Nat.le_refl _) _⟩

set_option maxHeartbeats 400000 in
theorem isOver_any (s : Sess) (now : Int) (w : World) (h : TimesOk s) : Calls Tryd.prog 48 #[.agg #[.int .i64 s.id, .string s.ten, .string s.usr, .int .i64 s.since, .int .i64 s.used], .int .i64 now] w fun e w' => e = .returned (.bool (overB s now)) ∧ Below w.heap.size w w' := by
  have h0 := fun w => until_any s w h
  clear h
  generalize hu : untilOf s = u at h0
  have Hu : Hid (untilOf s = u) := hu
  clear hu
  go_enter Tryd.func48, Tryd.ntmps48
  go_wp2_with (go_at_call 16; refine (h0 _).mono ?_; rintro e w1 ⟨rfl, hb1⟩)
  all_goals go_ret
  all_goals refine ⟨ret_bool (by unfold overB; rw [Hu.out]), ((Below.refl _ _).alloc (Nat.le_refl _) _).trans (hb1.mono (by simp))⟩
end Go.Proofs.YtcchlcbonfdhpaaDoor
