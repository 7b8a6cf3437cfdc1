/- PagerNone's walk. -/
import Derived.Test.YtdieafkmnckhaaaGreatPLive
namespace Go.Proofs.YtdieafkmnckhaaaGreat
open Go.RowKit Go.Maps Go.Sort Go.Shelf
set_option linter.unusedVariables false
set_option maxRecDepth 20000
set_option maxHeartbeats 4000000 in
theorem pagerNone_walk (n : Int) (w : World) : Calls Tryz.prog 6 #[.int .i64 n] w fun e w' => e = .returned (.bool true) ∧ Below w.heap.size w w' := by
  obtain ⟨B, hB⟩ : ∃ B, B = w.heap.size := ⟨_, rfl⟩
  go_enter Tryz.func6, Tryz.ntmps6
  go_wp2_with (first | (go_at_call 42; refine (pgNew_nil _ _).mono ?_; rintro e w1 ⟨rfl, rfl⟩) | (go_at_call 32; refine (pgRead_nil _ _).mono ?_; rintro e w2 ⟨rfl, hb2⟩; have Hb2 := hid hb2; clear hb2) | (go_at_call 13; refine (pgLive_any _).mono ?_; rintro e w3 ⟨rfl, hb3⟩; have Hb3 := hid hb3; clear hb3) | (go_at_call 35; refine (pgWrite_nil _ _ _).mono ?_; rintro e w4 ⟨rfl, hb4⟩; have Hb4 := hid hb4; clear hb4) | (go_at_call 37; refine (pgCommit_nil _).mono ?_; rintro e w1 ⟨rfl, rfl⟩) | (go_at_call 38; refine (pgAbort_nil _).mono ?_; rintro e w1 ⟨rfl, rfl⟩) | (go_at_call 43; refine (pgPin_nil _ _).mono ?_; rintro e w1 ⟨rfl, rfl⟩) | (go_at_call 44; refine (pgUnpin_nil _ _).mono ?_; rintro e w1 ⟨rfl, rfl⟩) | (go_at_call 18; refine (dirty_nil _).mono ?_; rintro e w1 ⟨rfl, rfl⟩) | (go_at_call 16; refine (cached_nil _).mono ?_; rintro e w1 ⟨rfl, rfl⟩) | (go_at_call 20; refine (hits_nil _).mono ?_; rintro e w1 ⟨rfl, rfl⟩) | (go_at_call 22; refine (misses_nil _).mono ?_; rintro e w1 ⟨rfl, rfl⟩) | (go_at_call 25; refine (pgLog_nil _).mono ?_; rintro e w1 ⟨rfl, rfl⟩))
  go_ret
  exact ⟨ret_bool (by simp), (((Below.on' (Below.on' Hb2.out Hb3.out) Hb4.out).alloc (Below.on' (Below.on' Hb2.out Hb3.out) Hb4.out).size _).alloc (Nat.le_trans (Below.on' (Below.on' Hb2.out Hb3.out) Hb4.out).size (by simp)) _)⟩
end Go.Proofs.YtdieafkmnckhaaaGreat
