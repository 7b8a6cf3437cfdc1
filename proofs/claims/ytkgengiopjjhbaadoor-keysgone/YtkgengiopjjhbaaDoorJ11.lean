/- KeysNone walked. -/
import Derived.Test.YtkgengiopjjhbaaDoorJ10
namespace Go.Proofs.YtkgengiopjjhbaaDoor
open Go.RowKit Go.Maps
set_option linter.unusedVariables false
set_option maxRecDepth 20000
def TabsJ (w : World) : Prop := TabAt w ∧ KAt w
set_option maxHeartbeats 4000000 in
theorem keysNone_walk (s : ByteArray) (_hs : s.size ≤ 140737488351232) (v : Value) (w : World) (hT : TabsJ w) :
    Calls Tryd.prog 4 #[.string s, v] w fun e w' => e = .returned (.bool true) ∧ Below w.heap.size w w' := by
  obtain ⟨Z, hZ⟩ : ∃ Z, Z = bvs (List.replicate 32 0) := ⟨_, rfl⟩
  have zh := (zero_of_info zero_hash).1
  rw [← hZ] at zh
  have hz : Hid (HV Z (List.replicate 32 0)) := by
    show HV _ _
    rw [hZ]; exact hv_zero
  have Zh := hid zh
  clear zh
  have HKn := hid (fun (t u : ByteArray) (n : Int) (w : World) => by have := key_nil t u n w; rw [← hZ] at this; exact this)
  have HT := hid hT
  clear hT hZ _hs
  go_enter Tryd.func4, Tryd.ntmps4
  go_wp2_with (first
    | (go_at_call 15; refine (rows_nil _).mono ?_; rintro x w9 ⟨rfl, e9⟩; subst w9)
    | (go_at_call 8; refine (destroy_nil _ _).mono ?_; rintro x w8 ⟨rfl, b8⟩; have B8 := hid (Below.on' B7.out b8); clear b8)
    | (go_at_call 7; refine (liveJ_any (HT.out.1.belowJ B6.out) (HT.out.2.below B6.out)).mono ?_; rintro x w7 ⟨rfl, b7⟩; have B7 := hid (Below.on' B6.out b7); clear b7)
    | (go_at_call 14; refine (reseal_nil _ _ _ _).mono ?_; rintro x w6 ⟨rfl, b6⟩; have B6 := hid (Below.on' B5.out b6); clear b6)
    | (go_at_call 9; refine (open_nil _ _ _ _).mono ?_; rintro x w5 ⟨rfl, b5⟩; have B5 := hid (Below.on' B4.out b5); clear b5)
    | (go_at_call 6; refine (seal_nil _ _ _ _).mono ?_; rintro x w4 ⟨rfl, b4⟩; have B4 := hid (Below.on' B3c.out b4); clear b4)
    | (go_at_call 13; refine (HKn.out _ _ _ _).mono ?_; rintro x w3 ⟨rfl, b3⟩; have B3 := hid (Below.on' B2.out b3); have X3 : Hid ((w3.alloc (.cells Z 23)).heap[w3.heap.size]? = some (.cells Z 23 (0, 0))) := heap_alloc_new w3 _; have B3c : Hid (Below w.heap.size w ((w3.alloc (.cells Z 23)).setRow w3.heap.size Z)) := (B3.out.alloc B3.out.size _).setRow B3.out.size _; clear b3)
    | (go_at_call 12; refine (rotate_nil _ _ _).mono ?_; rintro x w2 ⟨rfl, b2⟩; have B2 := hid (Below.on' B1.out b2); clear b2)
    | (go_at_call 11; refine (current_nil _ _ _).mono ?_; rintro x w1 ⟨rfl, b1⟩; have B1 := hid b1; clear b1)
    | (with_reducible show Go.wpList _ _ _ _ _ _; refine wpList_alloc_row rfl 23 rfl Z Zh.out ?_)
    | (with_reducible show Go.wpList _ _ _ _ _ _; refine wpList_store_row rfl 23 _ _ rfl w3.heap.size Z rfl rfl 23 Z X3.out hz.out.info rfl hz.out.one ?_))
  go_ret
  exact ⟨rfl, B8.out⟩
end Go.Proofs.YtkgengiopjjhbaaDoor
