/- A nil tree. -/
import Derived.Test.YtkgengiopjjhbaaDoorJ9
namespace Go.Proofs.YtkgengiopjjhbaaDoor
open Go.RowKit Go.Maps
set_option linter.unusedVariables false
set_option maxRecDepth 20000
theorem reach_nil (t : ByteArray) (v : Value) (w : World) : Calls Tryd.prog 17 #[.pointer none, .string t, v] w fun e w' => e = .returned (.int .i64 1) ∧ w' = w := by
  go_enter Tryd.func17, Tryd.ntmps17
  go_wp2
  go_ret
  exact ⟨rfl, rfl⟩
theorem current_nil (t u : ByteArray) (w : World) : Calls Tryd.prog 11 #[.pointer none, .string t, .string u] w fun e w' => e = .returned (.tuple #[.int .i64 0, .int .i64 1]) ∧ Below w.heap.size w w' := by
  go_enter Tryd.func11, Tryd.ntmps11
  go_wp2_with (go_at_call 17; refine (reach_nil _ _ _).mono ?_; rintro _ w1 ⟨rfl, e1⟩; subst w1)
  go_ret2
  exact ⟨rfl, (Below.refl _ w).alloc (Nat.le_refl _) _⟩
theorem rotate_nil (t u : ByteArray) (w : World) : Calls Tryd.prog 12 #[.pointer none, .string t, .string u] w fun e w' => e = .returned (.tuple #[.int .i64 0, .int .i64 1]) ∧ Below w.heap.size w w' := by
  go_enter Tryd.func12, Tryd.ntmps12
  go_wp2_with (go_at_call 11; refine (current_nil _ _ _).mono ?_; rintro _ w1 ⟨rfl, b1⟩)
  go_ret2
  exact ⟨rfl, b1⟩
theorem destroy_nil (t : ByteArray) (w : World) : Calls Tryd.prog 8 #[.pointer none, .string t] w fun e w' => e = .returned (.int .i64 1) ∧ Below w.heap.size w w' := by
  go_enter Tryd.func8, Tryd.ntmps8
  go_wp2_with (go_at_call 17; refine (reach_nil _ _ _).mono ?_; rintro _ w1 ⟨rfl, e1⟩; subst w1)
  go_ret
  exact ⟨rfl, (Below.refl _ w).alloc (Nat.le_refl _) _⟩
theorem rows_nil (w : World) : Calls Tryd.prog 15 #[.pointer none] w fun e w' => e = .returned (.slice none 0 0) ∧ w' = w := by
  go_enter Tryd.func15, Tryd.ntmps15
  go_wp2
  go_ret
  exact ⟨rfl, rfl⟩
theorem seal_nil (t u : ByteArray) (v : Value) (w : World) : Calls Tryd.prog 6 #[.pointer none, .string t, .string u, v] w fun e w' => e = .returned (.tuple #[.slice none 0 0, .int .i64 1]) ∧ Below w.heap.size w w' := by
  go_enter Tryd.func6, Tryd.ntmps6
  go_wp2_with (go_at_call 11; refine (current_nil _ _ _).mono ?_; rintro _ w1 ⟨rfl, b1⟩)
  go_ret2
  exact ⟨rfl, b1⟩
theorem open_nil (t u : ByteArray) (v : Value) (w : World) : Calls Tryd.prog 9 #[.pointer none, .string t, .string u, v] w fun e w' => e = .returned (.tuple #[.slice none 0 0, .int .i64 0, .int .i64 1]) ∧ Below w.heap.size w w' := by
  go_enter Tryd.func9, Tryd.ntmps9
  go_wp2_with (go_at_call 11; refine (current_nil _ _ _).mono ?_; rintro _ w1 ⟨rfl, b1⟩)
  go_ret3
  exact ⟨rfl, b1⟩
theorem reseal_nil (t u : ByteArray) (v : Value) (w : World) : Calls Tryd.prog 14 #[.pointer none, .string t, .string u, v] w fun e w' => e = .returned (.tuple #[.slice none 0 0, .bool false, .int .i64 1]) ∧ Below w.heap.size w w' := by
  go_enter Tryd.func14, Tryd.ntmps14
  go_wp2_with (go_at_call 9; refine (open_nil _ _ _ _).mono ?_; rintro _ w1 ⟨rfl, b1⟩)
  go_ret3
  exact ⟨rfl, b1⟩
theorem key_nil (t u : ByteArray) (n : Int) (w : World) : Calls Tryd.prog 13 #[.pointer none, .string t, .string u, .int .i64 n] w fun e w' => e = .returned (.tuple #[.agg (bvs (List.replicate 32 0)), .int .i64 1]) ∧ Below w.heap.size w w' := by
  obtain ⟨Z, hZ⟩ : ∃ Z, Z = bvs (List.replicate 32 0) := ⟨_, rfl⟩
  have zh := (zero_of_info zero_hash).1
  have bh : Tryd.prog.built 23 [] = some (bvs (List.replicate 32 0)) := by kernel_rfl
  rw [← hZ] at zh bh
  rw [← hZ]
  have hz : Hid (HV Z (List.replicate 32 0)) := by
    show HV _ _
    rw [hZ]; exact hv_zero
  have zh := hid zh
  have Bh := hid bh
  obtain ⟨W, hW⟩ : ∃ W, W = w.alloc (.cells Z 23) := ⟨_, rfl⟩
  have b0 : Below w.heap.size w W := by rw [hW]; exact (Below.refl _ w).alloc (Nat.le_refl _) _
  have x0 : W.heap[w.heap.size]? = some (.cells Z 23 (0, 0)) := by rw [hW]; exact heap_alloc_new w _
  have B0 := hid b0
  have X0 := hid x0
  have HW := hid hW
  clear hZ hW b0 x0 bh
  go_enter Tryd.func13, Tryd.ntmps13
  go_wp2_with (first
    | (go_at_call 11; refine (current_nil _ _ _).mono ?_; rintro _ w1 ⟨rfl, b1⟩; have B1 := hid b1; have X1 := hid ((b1.block _ (heap_lt X0.out)).trans X0.out); clear b1)
    | (with_reducible show Go.wpList _ _ _ _ _ _; first
      | (refine wpList_alloc_row rfl 23 rfl Z zh.out ?_; rw [← HW.out])
      | refine wpList_build_none rfl 23 rfl Z Bh.out ?_
      | refine wpList_store_row rfl 23 (.tmp 8) (.tmp 21) rfl w.heap.size Z rfl rfl 23 Z X1.out hz.out.info rfl hz.out.one ?_))
  refine bodyPost_ret (results_row_tmp rfl _ _ w.heap.size 23 Z (0, 0) _ rfl (setRow_heap _ _ _ _ _ _ X1.out) Tryd.underlying23 rfl hz.out.info) rfl ?_
  exact ⟨rfl, (Below.on' B0.out B1.out).setRow (Nat.le_refl _) _⟩
end Go.Proofs.YtkgengiopjjhbaaDoor
