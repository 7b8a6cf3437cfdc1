/- GrantNone walked. -/
import Derived.Test.YtlkbojgemcjilaaDoorU25
namespace Go.Proofs.YtlkbojgemcjilaaDoor
open Go.RowKit Go.Maps
set_option linter.unusedVariables false
set_option maxRecDepth 20000
set_option maxHeartbeats 8000000 in
theorem grantNone_walk (t u : ByteArray) (_ht : t.size ≤ maxLen) (_hu : u.size ≤ maxLen) (c : ByteArray) (_hc : c.size ≤ maxLen) (w : World) :
    Calls Tryd.prog 3 #[.agg #[.string t, .string u], .string c] w fun e w' => e = .returned (.bool true) ∧ Below w.heap.size w w' := by
  clear _ht _hu _hc
  obtain ⟨W, hW⟩ : ∃ W, W = w.alloc (.cells #[.string t, .string u] 23) := ⟨_, rfl⟩
  have b0 : Below w.heap.size w W := by rw [hW]; exact (Below.refl _ w).alloc (Nat.le_refl _) _
  have x0 : W.heap[w.heap.size]? = some (.cells #[.string t, .string u] 23 (0, 0)) := by rw [hW]; exact heap_allocN w _
  have HX := hid (fun (V : World) (hV : Below W.heap.size W V) => (show V.cell? ⟨w.heap.size, 0, none⟩ = some (.string t) ∧ V.cell? ⟨w.heap.size, 1, none⟩ = some (.string u) from by
    have x9 := (hV.block _ (heap_lt x0)).trans x0
    exact ⟨(cell_of_rowU _ _ 0 _ _ _ x9).trans rfl, (cell_of_rowU _ _ 1 _ _ _ x9).trans rfl⟩))
  have B0 := hid b0
  have HW := hid hW.symm
  clear hW b0 x0
  have HR := hid (fun (V : World) => (show Calls Tryd.prog 8 #[.pointer none, .agg #[.string ⟨#[]⟩, .string ⟨#[]⟩, .string ⟨#[]⟩, .int .u8 0]] V fun e w' => e = .returned (.int .i64 1) ∧ Below V.heap.size V w' from register_nil ⟨⟨#[]⟩, ⟨#[]⟩, ⟨#[]⟩, 0⟩ V))
  have HA := hid (fun (V : World) => (show Calls Tryd.prog 10 #[.pointer none, .agg #[.string ⟨#[]⟩, .string ⟨#[]⟩, .string ⟨#[]⟩, .int .u8 0]] V fun e w' => e = .returned (.int .i64 1) ∧ Below V.heap.size V w' from allow_nil ⟨⟨#[]⟩, ⟨#[]⟩, ⟨#[]⟩, 0⟩ V))
  have HN := hid (fun (V : World) => (show Calls Tryd.prog 4 #[.pointer none, .string c, .string c, .int .u8 1] V fun e w' => e = .returned (.tuple #[.int .u8 0, .int .i64 1]) ∧ w' = V from narrow_nil c c 1 V))
  have HC := hid (fun (V : World) => (show Calls Tryd.prog 5 #[.pointer none, .string c, .string c] V fun e w' => e = .returned (.tuple #[.agg #[.string ⟨#[]⟩, .string ⟨#[]⟩, .string ⟨#[]⟩, .int .u8 0], .int .i64 1]) ∧ Below V.heap.size V w' from client_nil c c V))
  have HO := hid (fun (V : World) => (show Calls Tryd.prog 6 #[.pointer none, .agg #[.string t, .string u], .string c] V fun e w' => e = .returned (.tuple #[.agg #[.string ⟨#[]⟩, .string ⟨#[]⟩, .string ⟨#[]⟩, .int .u8 0], .int .i64 1]) ∧ Below V.heap.size V w' from consent_nil t u c V))
  have HLv := hid liveG_any
  go_enter Tryd.func3, Tryd.ntmps3
  go_wp2_with (first
    | (go_at_call 4; rw [HW.out]; refine (HN.out _).mono ?_; rintro _ w1 ⟨rfl, e1⟩; subst w1; clear HN)
    | (go_at_call 5; refine (HC.out _).mono ?_; rintro _ w2 ⟨rfl, b2⟩; have B2 := hid (b2.alloc b2.size (.cells #[.string ⟨#[]⟩, .string ⟨#[]⟩, .string ⟨#[]⟩, .int .u8 0] 30)); obtain ⟨p0, p1⟩ := HX.out _ B2.out; clear HC b2)
    | (go_at_call 6; refine (HO.out _).mono ?_; rintro _ w3 ⟨rfl, b3⟩; have B3 := hid ((Below.on' B2.out b3).alloc (Below.on' B2.out b3).size (.cells #[.string ⟨#[]⟩, .string ⟨#[]⟩, .string ⟨#[]⟩, .int .u8 0] 34)); clear HO b3 p0 p1)
    | (go_at_call 7; refine (HLv.out _).mono ?_; rintro _ w4 ⟨rfl, b4⟩; have B4 := hid (Below.on' B3.out b4); clear HLv b4)
    | (go_at_call 8; refine (HR.out _).mono ?_; rintro _ w5 ⟨rfl, b5⟩; have B5 := hid (Below.on' B4.out b5); clear HR b5)
    | (go_at_call 9; refine (drop_nil _ _ _).mono ?_; rintro _ w6 ⟨rfl, e6⟩; subst w6)
    | (go_at_call 10; refine (HA.out _).mono ?_; rintro _ w7 ⟨rfl, b7⟩; have B7 := hid (Below.on' B5.out b7); obtain ⟨p0, p1⟩ := HX.out _ B7.out; clear HA b7)
    | (go_at_call 11; refine (withdraw_nil _ _ _ _).mono ?_; rintro _ w8 ⟨rfl, b8⟩; have B8 := hid (Below.on' B7.out b8); clear b8 p0 p1; obtain ⟨p0, p1⟩ := HX.out _ B8.out)
    | (go_at_call 12; refine (dropUser_nil _ _ _).mono ?_; rintro _ w9 ⟨rfl, b9⟩; have B9 := hid (Below.on' B8.out b9); clear b9 p0 p1; obtain ⟨p0, p1⟩ := HX.out _ B9.out)
    | (go_at_call 13; refine (may_nil _ _ _ _ _ _).mono ?_; rintro _ w10 ⟨rfl, b10⟩; have B10 := hid (Below.on' B9.out b10); clear b10 p0 p1)
    | (go_at_call 14; refine (clients_nil _ _).mono ?_; rintro _ w11 ⟨rfl, b11⟩; have B11 := hid (Below.on' B10.out b11); obtain ⟨p0, p1⟩ := HX.out _ B11.out; clear b11)
    | (go_at_call 15; refine (consents_nil _ _ _).mono ?_; rintro _ w12 ⟨rfl, b12⟩; have B12 := hid (Below.on' B11.out b12); clear b12 p0 p1)
    | (go_at_call 16; refine (rows_nil _).mono ?_; rintro _ w13 ⟨rfl, b13⟩; have B13 := hid (Below.on' B12.out b13); clear b13)
    | (go_at_call 17; refine (fork_nil _).mono ?_; rintro _ w14 ⟨rfl, b14⟩; have B14 := hid (Below.on' B13.out b14); clear b14))
  go_ret
  exact ⟨rfl, Below.on' B0.out B14.out⟩
end Go.Proofs.YtlkbojgemcjilaaDoor
