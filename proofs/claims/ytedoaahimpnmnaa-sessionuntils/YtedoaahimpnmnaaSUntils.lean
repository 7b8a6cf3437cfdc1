/- SessionUntils, walked. -/
import Derived.Test.YtedoaahimpnmnaaSUntil
namespace Go.Proofs.Ytedoaahimpnmnaa
open Go.RowKit Go.Maps Go.Sort Go.Shelf
set_option linter.unusedVariables false
set_option maxRecDepth 20000

set_option maxHeartbeats 1600000 in
theorem sessionUntils_walk (s : Sess) (w : World) : Calls Try.prog 3 #[.agg #[.int .i64 s.id, .string s.ten, .string s.usr, .int .i64 s.since, .int .i64 s.used]] w fun e w' => e = .returned (.bool true) ∧ Below w.heap.size w w' := by
  have hb1 : Below w.heap.size w (w.alloc (.cells #[.int .i64 s.id, .string s.ten, .string s.usr, .int .i64 s.since, .int .i64 s.used] 25)) := (Below.refl _ w).alloc (Nat.le_refl _) _
  have HL := hid lawLive_any
  by_cases a1 : s.since < 0
  · have g1 : decide (s.since < 0) = true := by simpa using a1
    go_enter Try.func3, Try.ntmps3
    go_wp2_with (go_at_call 9; refine (HL.out _).mono ?_; rintro e w2 ⟨rfl, hb2⟩)
    go_ret
    exact ⟨rfl, hb1.trans (hb2.mono (by simp))⟩
  · have g1 : decide (s.since < 0) = false := by simpa using a1
    by_cases a2 : 1099511627776 < s.since
    · have g2 : decide (1099511627776 < s.since) = true := by simpa using a2
      go_enter Try.func3, Try.ntmps3
      go_wp2_with (go_at_call 9; refine (HL.out _).mono ?_; rintro e w2 ⟨rfl, hb2⟩)
      go_ret
      exact ⟨rfl, hb1.trans (hb2.mono (by simp))⟩
    · have g2 : decide (1099511627776 < s.since) = false := by simpa using a2
      by_cases a3 : s.used < 0
      · have g3 : decide (s.used < 0) = true := by simpa using a3
        go_enter Try.func3, Try.ntmps3
        go_wp2_with (go_at_call 9; refine (HL.out _).mono ?_; rintro e w2 ⟨rfl, hb2⟩)
        go_ret
        exact ⟨rfl, hb1.trans (hb2.mono (by simp))⟩
      · have g3 : decide (s.used < 0) = false := by simpa using a3
        by_cases a4 : 1099511627776 < s.used
        · have g4 : decide (1099511627776 < s.used) = true := by simpa using a4
          go_enter Try.func3, Try.ntmps3
          go_wp2_with (go_at_call 9; refine (HL.out _).mono ?_; rintro e w2 ⟨rfl, hb2⟩)
          go_ret
          exact ⟨rfl, hb1.trans (hb2.mono (by simp))⟩
        · have g4 : decide (1099511627776 < s.used) = false := by simpa using a4
          have ht : TimesOk s := ⟨by omega, by omega, by omega, by omega⟩
          have Hu := hid (fun W => until_any s W ht)
          have Hr := hid (fun W => refUntil_any s W ht)
          have hle : untilOf s ≤ 1099511627776 := by unfold untilOf; omega
          generalize untilOf s = x at *
          have hle2 : decide (x ≤ 1099511627776) = true := by simpa using hle
          clear a1 a2 a3 a4 ht
          go_enter Try.func3, Try.ntmps3
          go_wp2_with (first
            | (go_at_call 10; refine (Hu.out _).mono ?_; rintro e w2 ⟨rfl, hb2⟩; obtain ⟨hc2, hf2⟩ := bcell hb2)
            | (go_at_call 9; refine (HL.out _).mono ?_; rintro e w3 ⟨rfl, hb3⟩; obtain ⟨hc3, hf3⟩ := bcell hb3; have hz : w.heap.size < w2.heap.size := (by have := hb2.size; simp at this; omega))
            | (go_at_call 11; refine (Hr.out _).mono ?_; rintro e w4 ⟨rfl, hb4⟩))
          go_ret
          exact ⟨rfl, Below.on' (Below.on' (hb1.trans (hb2.mono (by simp))) hb3) hb4⟩
end Go.Proofs.Ytedoaahimpnmnaa
