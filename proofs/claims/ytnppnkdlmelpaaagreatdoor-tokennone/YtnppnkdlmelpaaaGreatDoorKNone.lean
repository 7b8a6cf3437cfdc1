/- TokenNone, walked. (Printed by gen/knone2.py.) -/
import Derived.Test.YtnppnkdlmelpaaaGreatDoorKNil
namespace Go.Proofs.YtnppnkdlmelpaaaGreatDoor
open Go.RowKit Go.Maps Go.Sort Go.Shelf
set_option linter.unusedVariables false
set_option maxRecDepth 20000

set_option maxHeartbeats 6400000 in
theorem tokenNone_walk (n : Int) (hn : (Lit.int .i64 n).wf = true) (c : ByteArray) (w : World) :
    Calls Tryz.prog 4 #[.int .i64 n, .string c] w fun e w' => e = .returned (.bool true) ∧ Below w.heap.size w w' := by
  clear hn
  go_enter Tryz.func4, Tryz.ntmps4
  go_wp2_with (first
    | (go_at_call 15; refine (grant_nil _ _ _ _ _).mono ?_; rintro e w1 ⟨rfl, hbw1⟩; unfold Fam.sessV Tok.sessV Fam.sess0 Tok.sess0; have b0 := (Below.refl w.heap.size w); have Kw1 := hid (b0.trans (hbw1.mono b0.size)); clear hbw1 b0)
    | (go_at_call 16; refine (refresh_nil _ _ _ _).mono ?_; rintro e w2 ⟨rfl, hbw2⟩; unfold Fam.sessV Tok.sessV Fam.sess0 Tok.sess0; have b0 := Kw1.out; have b1 := b0.alloc b0.size (.cells #[.int .i64 0, .int .i64 0, .string ⟨#[]⟩, .int .u8 0, .int .i64 0] 35); have b2 := b1.alloc b1.size (.cells #[.int .i64 0, .int .i64 0, .int .u8 0, .int .i64 0] 47); have Kw2 := hid (b2.trans (hbw2.mono b2.size)); clear hbw2 b0 b1 b2)
    | (go_at_call 17; refine (access_nil _ _ _).mono ?_; rintro e w3 ⟨rfl, hbw3⟩; unfold Tok.sessV Tok.sess0; have b0 := Kw2.out; have b1 := b0.alloc b0.size (.cells #[.int .i64 0, .int .i64 0, .string ⟨#[]⟩, .int .u8 0, .int .i64 0] 35); have b2 := b1.alloc b1.size (.cells #[.int .i64 0, .int .i64 0, .int .u8 0, .int .i64 0] 47); have Kw3 := hid (b2.trans (hbw3.mono b2.size)); clear hbw3 b0 b1 b2)
    | (go_at_call 18; refine (exchange_nil _ _ _ _).mono ?_; rintro e w4 ⟨rfl, hbw4⟩; unfold Tok.sessV Tok.sess0; have b0 := Kw3.out; have b1 := b0.alloc b0.size (.cells #[.int .i64 0, .int .i64 0, .int .u8 0, .int .i64 0] 47); have Kw4 := hid (b1.trans (hbw4.mono b1.size)); clear hbw4 b0 b1)
    | (go_at_call 19; refine (sweep_nil _ _).mono ?_; rintro e w5 ⟨rfl, hbw5⟩; have b0 := Kw4.out; have b1 := b0.alloc b0.size (.cells #[.int .i64 0, .int .i64 0, .int .u8 0, .int .i64 0] 47); have Kw5 := hid (b1.trans (hbw5.mono b1.size)); clear hbw5 b0 b1)
    | (go_at_call 11; refine (family_nil _ _).mono ?_; rintro e w6 ⟨rfl, hbw6⟩; unfold Fam.sessV Fam.sess0; have b0 := Kw5.out; have Kw6 := hid (b0.trans (hbw6.mono b0.size)); clear hbw6 b0)
    | (go_at_call 7; refine (lawLive_any _).mono ?_; rintro e w7 ⟨rfl, hbw7⟩; have b0 := Kw6.out; have b1 := b0.alloc b0.size (.cells #[.int .i64 0, .int .i64 0, .string ⟨#[]⟩, .int .u8 0, .int .i64 0] 35); have Kw7 := hid (b1.trans (hbw7.mono b1.size)); clear hbw7 b0 b1)
    | (go_at_call 20; refine (end_nil _ _).mono ?_; rintro e w8 ⟨rfl, hbw8⟩; have b0 := Kw7.out; have Kw8 := hid (b0.trans (hbw8.mono b0.size)); clear hbw8 b0)
    | (go_at_call 10; refine (endSessions_nil _ _ _ _).mono ?_; rintro e w9 ⟨rfl, hbw9⟩; have b0 := Kw8.out; have b1 := b0.alloc b0.size (.cells #[.int .i64 n] 3); have Kw9 := hid (b1.trans (hbw9.mono b1.size)); clear hbw9 b0 b1)
    | (go_at_call 21; refine (endClient_nil _ _ _ _ _).mono ?_; rintro e w10 ⟨rfl, hbw10⟩; have b0 := Kw9.out; have b1 := b0.alloc b0.size (.cells #[.int .i64 n] 3); have Kw10 := hid (b1.trans (hbw10.mono b1.size)); clear hbw10 b0 b1)
    | (go_at_call 13; refine (families_nil _ _).mono ?_; rintro e w11 ⟨rfl, hbw11⟩; have b0 := Kw10.out; have Kw11 := hid (b0.trans (hbw11.mono b0.size)); clear hbw11 b0)
    | (go_at_call 12; refine (tokens_nil _ _).mono ?_; rintro e w12 ⟨rfl, hbw12⟩; have b0 := Kw11.out; have Kw12 := hid (b0.trans (hbw12.mono b0.size)); clear hbw12 b0)
    | (go_at_call 14; refine (rows_nil _).mono ?_; rintro e w13 ⟨rfl, hw13⟩; have gw13 := hw13.symm; subst gw13; clear hw13)
    | (go_at_call 9; refine (fork_nil _).mono ?_; rintro e w14 ⟨rfl, hw14⟩; have gw14 := hw14.symm; subst gw14; clear hw14))
  go_ret
  exact ⟨rfl, Kw12.out⟩
end Go.Proofs.YtnppnkdlmelpaaaGreatDoor
