/- Small functions of packages audit and state: New, Count, Text, isTooLong, addError, by contracts. -/
import Derived.Test.YthnciogaibhmcaaDoorACh
namespace Go.Proofs.YthnciogaibhmcaaDoor
open Go.RowKit
set_option linter.unusedVariables false
set_option maxRecDepth 20000

theorem ChAt.val {w : World} {B g : Nat} {v : Value} {c : Ch} (h : ChAt w B g v c) : ∃ a cap, v = .slice a c.ev.length cap := by
  rcases h.row.2 with ⟨rfl, h0⟩ | ⟨k, cap, cur, rfl, _⟩
  · exact ⟨none, 0, by rw [h0]⟩
  · exact ⟨_, cap, rfl⟩
theorem built_chain : Tryd.prog.built 56 [] = some (ccells ch0 (.slice none 0 0)).toArray := by kernel_rfl

set_option maxHeartbeats 400000 in
theorem new_any (w : World) : Calls Tryd.prog 6 #[] w fun e w' => ∃ g, e = .returned (.pointer (some ⟨g, 0, none⟩)) ∧ ChAt w' w.heap.size g (.slice none 0 0) ch0 ∧ Below w.heap.size w w' := by
  have bl := hid built_chain
  have Hz : Hid (∃ R, R = ccells ch0 (.slice none 0 0)) := ⟨_, rfl⟩
  obtain ⟨R, hR⟩ := Hz.out
  rw [← hR] at bl
  have HR := hid hR
  clear hR Hz
  go_enter Tryd.func6, Tryd.ntmps6
  go_wp2_with (with_reducible show Go.wpList _ _ _ _ _ _; refine wpList_build_none rfl 56 rfl R.toArray bl.out ?_)
  go_ret
  refine ⟨_, rfl, ⟨?_, World.ownsRow_nil _ _ _ _, Nat.le_refl _⟩, (Below.refl _ w).alloc (Nat.le_refl _) _⟩
  rw [← HR.out]
  exact heap_alloc_new w _

set_option maxHeartbeats 400000 in
theorem count_any {w : World} {B g : Nat} {v : Value} {c : Ch} (h : ChAt w B g v c) (ok : ChOk c) (hc : c.cnt < 1152921504606846976) :
    Calls Tryd.prog 34 #[.pointer (some ⟨g, 0, none⟩)] w fun e w' => e = .returned (.int .i64 (c.cnt : Int)) ∧ Below w.heap.size w w' := by
  obtain ⟨a, cap, rfl⟩ := h.val
  have c0 := h.c0
  have c66 := h.c66 ok.l
  clear h ok
  unfold Ch.cnt at hc ⊢
  generalize c.ev.length = n at *
  generalize c.bn = b at *
  go_enter Tryd.func34, Tryd.ntmps34
  go_wp2
  go_region
  all_goals go_wp2
  all_goals go_ret
  all_goals exact ⟨ret_int (by go_num), (Below.refl _ _).drew⟩

set_option maxHeartbeats 400000 in
theorem text_any (n : Nat) (h : n ≤ 4611686018427387904) (w : World) (ht : TabAt w) : Calls Tryd.prog 46 #[.int .i64 (n : Int)] w fun e w' => e = .returned (.string (txt n)) ∧ Below w.heap.size w w' := by
  have hn : Calls Tryd.prog 62 #[.int .i64 (n : Int)] w fun e w' => e = .returned (.tuple #[.string (txt n), .int .i64 0]) ∧ Below w.heap.size w w' := by
    by_cases h0 : n = 0
    · subst h0
      refine (number_zero w).mono ?_
      rintro e w' ⟨rfl, rfl⟩
      exact ⟨rfl, Below.refl _ _⟩
    · exact number_pos n (by omega) h w ht
  generalize txt n = t at *
  go_enter Tryd.func46, Tryd.ntmps46
  go_wp2_with (go_at_call 62; refine hn.mono ?_; rintro e w1 ⟨rfl, hb⟩)
  go_ret
  exact ⟨rfl, hb⟩

set_option maxHeartbeats 400000 in
theorem isTime_any (x : Int) (w : World) : Calls Tryd.prog 68 #[.int .i64 x] w fun e w' => e = .returned (.bool (decide (0 ≤ x ∧ x ≤ 1099511627776))) ∧ w' = w := by
  go_enter Tryd.func68, Tryd.ntmps68
  go_wp2
  all_goals go_ret
  all_goals refine ⟨ret_bool ?_, rfl⟩
  all_goals
    rw [Bool.eq_iff_iff]
    simp
    omega

set_option maxHeartbeats 400000 in
theorem tooLong_any (a b : ByteArray) (ha : a.size ≤ 9223372036854775807) (hb : b.size ≤ 9223372036854775807) (w : World) : Calls Tryd.prog 59 #[.string a, .string b] w fun e w' => e = .returned (.bool (decide (12 < a.size ∨ 30 < b.size))) ∧ w' = w := by
  go_enter Tryd.func59, Tryd.ntmps59
  go_wp2
  all_goals go_ret
  all_goals refine ⟨ret_bool ?_, rfl⟩
  all_goals
    rw [Bool.eq_iff_iff]
    simp
    omega

set_option maxHeartbeats 1000000 in
theorem addError_any {w : World} {B g : Nat} {v : Value} {c : Ch} (h : ChAt w B g v c) (ok : ChOk c) (t : Int) (what who : ByteArray) (h1 : what.size ≤ 9223372036854775807) (h2 : who.size ≤ 9223372036854775807) :
    Calls Tryd.prog 52 #[.pointer (some ⟨g, 0, none⟩), .int .i64 t, .string what, .string who] w fun e w' => e = .returned (.int .i64 (addE c t what who)) ∧ w' = w := by
  obtain ⟨a, cap, rfl⟩ := h.val
  have c99 := h.c99 ok.l
  have c66 := h.c66 ok.l
  have hf := ok.few
  clear h ok
  unfold addE
  generalize c.ev.length = n at *
  generalize c.la = la at *
  have H1 := hid (isTime_any t)
  have H2 := hid (tooLong_any what who h1 h2)
  by_cases e1 : 0 ≤ t ∧ t ≤ 1099511627776
  · rw [if_neg (by omega)]
    rw [decide_eq_true e1] at H1
    by_cases e2 : 12 < what.size ∨ 30 < who.size
    · rw [if_pos e2]
      rw [decide_eq_true e2] at H2
      clear e2 h1 h2
      go_enter Tryd.func52, Tryd.ntmps52
      go_wp2_with (first
        | (go_at_call 68; refine (H1.out _).mono ?_; rintro e w1 ⟨rfl, rfl⟩)
        | (go_at_call 59; refine (H2.out _).mono ?_; rintro e w1 ⟨rfl, rfl⟩))
      go_ret
      exact ⟨rfl, rfl⟩
    · rw [if_neg e2]
      rw [decide_eq_false e2] at H2
      clear e2 h1 h2
      by_cases e3 : t < (la : Int)
      · rw [if_pos e3]
        go_enter Tryd.func52, Tryd.ntmps52
        go_wp2_with (first
          | (go_at_call 68; refine (H1.out _).mono ?_; rintro e w1 ⟨rfl, rfl⟩)
          | (go_at_call 59; refine (H2.out _).mono ?_; rintro e w1 ⟨rfl, rfl⟩))
        go_ret
        exact ⟨rfl, rfl⟩
      · rw [if_neg e3]
        by_cases e4 : 64 ≤ n
        · rw [if_pos e4]
          have d4 : (64 : Int) ≤ (n : Int) := by omega
          go_enter Tryd.func52, Tryd.ntmps52
          go_wp2_with (first
            | (go_at_call 68; refine (H1.out _).mono ?_; rintro e w1 ⟨rfl, rfl⟩)
            | (go_at_call 59; refine (H2.out _).mono ?_; rintro e w1 ⟨rfl, rfl⟩))
          go_ret
          exact ⟨rfl, rfl⟩
        · rw [if_neg e4]
          have d4 : ¬ (64 : Int) ≤ (n : Int) := by omega
          go_enter Tryd.func52, Tryd.ntmps52
          go_wp2_with (first
            | (go_at_call 68; refine (H1.out _).mono ?_; rintro e w1 ⟨rfl, rfl⟩)
            | (go_at_call 59; refine (H2.out _).mono ?_; rintro e w1 ⟨rfl, rfl⟩))
          go_ret
          exact ⟨rfl, rfl⟩
  · rw [if_pos (by omega)]
    rw [decide_eq_false e1] at H1
    go_enter Tryd.func52, Tryd.ntmps52
    go_wp2_with (first
      | (go_at_call 68; refine (H1.out _).mono ?_; rintro e w1 ⟨rfl, rfl⟩)
      | (go_at_call 59; refine (H2.out _).mono ?_; rintro e w1 ⟨rfl, rfl⟩))
    go_ret
    exact ⟨rfl, rfl⟩
end Go.Proofs.YthnciogaibhmcaaDoor
