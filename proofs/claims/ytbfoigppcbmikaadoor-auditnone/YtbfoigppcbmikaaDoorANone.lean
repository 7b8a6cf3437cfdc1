/- A nil chain; AuditNone walked. -/
import Derived.Test.YtbfoigppcbmikaaDoorALive
namespace Go.Proofs.YtbfoigppcbmikaaDoor
open Go.RowKit Go.Shelf
set_option linter.unusedVariables false
set_option maxRecDepth 20000
attribute [local go_sem ↓] loadL_fold storeL_fold loadH_fold storeH_fold buildH_fold

theorem zeroH : ∀ w, (zeroValue 49).run Tryd.prog w = .ok (.agg (bvs zero32)) w := (zero_of_info zero_hash).1
theorem addError_nil (t : Int) (a b : ByteArray) (w : World) : Calls Tryd.prog 59 #[.pointer none, .int .i64 t, .string a, .string b] w fun e w' => e = .returned (.int .i64 1) ∧ w' = w := by
  go_enter Tryd.func59, Tryd.ntmps59
  go_wp2
  go_ret
  exact ⟨rfl, rfl⟩
theorem add_nil (t : Int) (a b : ByteArray) (w : World) : Calls Tryd.prog 33 #[.pointer none, .int .i64 t, .string a, .string b] w fun e w' => e = .returned (.tuple #[.agg #[.int .i64 0, .int .i64 0, .string ⟨#[]⟩, .string ⟨#[]⟩], .int .i64 1]) ∧ Below w.heap.size w w' := by
  obtain ⟨W0, hW0⟩ : ∃ W0, W0 = w.alloc (.cells (eVals ev0).toArray 59) := ⟨_, rfl⟩
  have b0 : Hid (Below w.heap.size w W0) := by show Below _ _ _; rw [hW0]; exact (Below.refl _ w).alloc (Nat.le_refl _) _
  have r0 : Hid (W0.heap[w.heap.size]? = some (.cells (eVals ev0).toArray 59 (0, 0))) := by show _ = _; rw [hW0]; exact heap_alloc_new w _
  have HW := hid hW0
  have HE := hid (addError_nil t a b W0)
  clear hW0
  go_enter Tryd.func33, Tryd.ntmps33
  go_wp2_with (first
      | (go_at_call 59; rw [show w.alloc (.cells #[.int .i64 0, .int .i64 0, .string ⟨#[]⟩, .string ⟨#[]⟩] 59) = W0 from HW.out.symm]; refine HE.out.mono ?_; rintro x w9 ⟨rfl, e9⟩; subst w9)
      | (with_reducible show Go.wpList _ _ _ _ _ _; first
        | refine wpList_build_none rfl 59 rfl (eVals ev0).toArray built_ev ?_
        | refine wpList_store_row rfl 59 _ _ rfl w.heap.size (eVals ev0).toArray rfl rfl 59 (eVals ev0).toArray r0.out (size_evs ev0) (ev_sizes ev0 ev0) (ev_one ev0) ?_))
  refine bodyPost_ret (results_row_tmp rfl _ _ w.heap.size 59 (eVals ev0).toArray (0, 0) _ rfl (setRow_heap _ _ _ _ _ _ r0.out) Tryd.underlying59 rfl size_ev) rfl ?_
  exact ⟨rfl, b0.out.setRow (Nat.le_refl _) _⟩
theorem prune_nil (n : Int) (w : World) : Calls Tryd.prog 32 #[.pointer none, .int .i64 n] w fun e w' => e = .returned (.tuple #[.int .i64 0, .int .i64 1]) ∧ w' = w := by
  go_enter Tryd.func32, Tryd.ntmps32
  go_wp2
  go_ret2
  exact ⟨rfl, rfl⟩
theorem count_nil (w : World) : Calls Tryd.prog 31 #[.pointer none] w fun e w' => e = .returned (.int .i64 0) ∧ w' = w := by
  go_enter Tryd.func31, Tryd.ntmps31
  go_wp2
  go_ret
  exact ⟨rfl, rfl⟩
theorem events_nil (w : World) : Calls Tryd.prog 30 #[.pointer none] w fun e w' => e = .returned (.slice none 0 0) ∧ w' = w := by
  go_enter Tryd.func30, Tryd.ntmps30
  go_wp2
  go_ret
  exact ⟨rfl, rfl⟩
theorem rows_nil (w : World) : Calls Tryd.prog 21 #[.pointer none] w fun e w' => e = .returned (.slice none 0 0) ∧ w' = w := by
  go_enter Tryd.func21, Tryd.ntmps21
  go_wp2
  go_ret
  exact ⟨rfl, rfl⟩
theorem fork_nil (w : World) : Calls Tryd.prog 14 #[.pointer none] w fun e w' => e = .returned (.pointer none) ∧ w' = w := by
  go_enter Tryd.func14, Tryd.ntmps14
  go_wp2
  go_ret
  exact ⟨rfl, rfl⟩
theorem head_nil (w : World) : Calls Tryd.prog 28 #[.pointer none] w fun e w' => e = .returned (.agg (bvs zero32)) ∧ Below w.heap.size w w' := by
  have hS := storeH_new w zero32 zero32 (by decide) (by decide)
  have hz := zeroH
  have hb := buildH_run
  have hi := hid (size_hashs zero32 (by decide))
  generalize bvs zero32 = Z at *
  go_enter Tryd.func28, Tryd.ntmps28
  go_wp2
  refine bodyPost_ret (results_cell_row rfl _ _ w.heap.size 49 Z (0, 0) _ rfl (heap_alloc_new w _) Tryd.underlying49 rfl hi.out) rfl ?_
  exact ⟨rfl, (Below.refl _ w).alloc (Nat.le_refl _) _⟩
theorem anchored_nil (w : World) : Calls Tryd.prog 34 #[.pointer none] w fun e w' => e = .returned (.tuple #[.int .i64 0, .agg (bvs zero32)]) ∧ Below w.heap.size w w' := by
  have hS := storeH_new w zero32 zero32 (by decide) (by decide)
  have hz := zeroH
  have hb := buildH_run
  have hi := hid (size_hashs zero32 (by decide))
  generalize bvs zero32 = Z at *
  go_enter Tryd.func34, Tryd.ntmps34
  go_wp2
  refine bodyPost_ret (results_tmp_row rfl _ _ w.heap.size 49 Z (0, 0) _ rfl (heap_alloc_new w _) Tryd.underlying49 rfl hi.out) rfl ?_
  exact ⟨rfl, (Below.refl _ w).alloc (Nat.le_refl _) _⟩
theorem anchor_nil (w : World) : Calls Tryd.prog 29 #[.pointer none] w fun e w' => e = .returned (.tuple #[.int .i64 0, .agg (bvs zero32)]) ∧ Below w.heap.size w w' := by
  have hS := storeH_new w zero32 zero32 (by decide) (by decide)
  have hz := zeroH
  have hb := buildH_run
  have hi := hid (size_hashs zero32 (by decide))
  generalize bvs zero32 = Z at *
  go_enter Tryd.func29, Tryd.ntmps29
  go_wp2
  refine bodyPost_ret (results_tmp_row rfl _ _ w.heap.size 49 Z (0, 0) _ rfl (heap_alloc_new w _) Tryd.underlying49 rfl hi.out) rfl ?_
  exact ⟨rfl, (Below.refl _ w).alloc (Nat.le_refl _) _⟩
theorem verify_nil (w : World) : Calls Tryd.prog 22 #[.pointer none] w fun e w' => e = .returned (.int .i64 1) ∧ Below w.heap.size w w' := by
  obtain ⟨W2, hW2⟩ : ∃ W2, W2 = (w.alloc (.cells #[.pointer none] 23)).alloc (.cells #[.int .i64 1] 34) := ⟨_, rfl⟩
  have c3 : W2.cell? ⟨w.heap.size + 1, 0, none⟩ = some (.int .i64 1) := by
    have h := (Boxed.new (w.alloc (.cells #[.pointer none] 23)) 34 (.int .i64 1)).cell
    rw [World.size_alloc, ← hW2] at h
    exact h
  have b1 : Below w.heap.size w W2 := by rw [hW2]; exact ((Below.refl _ w).alloc (Nat.le_refl _) _).alloc (by simp) _
  have HW := hid hW2
  clear hW2
  go_enter Tryd.func22, Tryd.ntmps22
  go_wp2
  rw [← HW.out]
  refine bodyPost_ret (v := .int .i64 1) ?_ rfl ⟨rfl, b1⟩
  simp [results, Tryd.f22, go_sem, c3]

set_option maxHeartbeats 4000000 in
theorem auditNone_walk (n : Int) (_hn : (Lit.int .i64 n).wf = true) (s : ByteArray) (_hs : s.size ≤ 140737488351232) (w : World) (hT : Tabs w w.heap.size) :
    Calls Tryd.prog 8 #[.int .i64 n, .string s] w fun e w' => e = .returned (.bool true) ∧ Below w.heap.size w w' := by
  have HT := hid hT
  have hz := zeroH
  have hb := buildH_run
  have hS := fun W => storeH_new W zero32 zero32 (by decide) (by decide)
  have he := fun W => hash_same (A := bvs zero32) (B := bvs zero32) (a := zero32) ⟨rfl, by decide⟩ ⟨rfl, by decide⟩ W
  have C3 := hid head_nil
  have C1 := hid anchor_nil
  have C2 := hid anchored_nil
  clear hT
  generalize bvs zero32 = Z at *
  go_enter Tryd.func8, Tryd.ntmps8
  go_wp2_with (first
    | (go_at_call 14; refine (fork_nil _).mono ?_; rintro x w9 ⟨rfl, e9⟩; subst w9)
    | (go_at_call 21; refine (rows_nil _).mono ?_; rintro x w9 ⟨rfl, e9⟩; subst w9)
    | (go_at_call 31; refine (count_nil _).mono ?_; rintro x w9 ⟨rfl, e9⟩; subst w9)
    | (go_at_call 28; refine (C3.out _).mono ?_; rintro x w6 ⟨rfl, b6⟩)
    | (go_at_call 30; refine (events_nil _).mono ?_; rintro x w9 ⟨rfl, e9⟩; subst w9)
    | (go_at_call 22; refine (verify_nil _).mono ?_; rintro x w5 ⟨rfl, b5⟩)
    | (go_at_call 13; have b3a : Below w.heap.size w (w3.alloc (.cells Z 49)) := b3.alloc b3.size _; refine (live_any ((HT.out.keep b3a).mono b3a.size)).mono ?_; rintro x w4 ⟨rfl, b4⟩)
    | (go_at_call 34; have b2a : Below w.heap.size w (w2.alloc (.cells Z 49)) := b2.alloc b2.size _; refine (C2.out _).mono ?_; rintro x w3 ⟨rfl, b3'⟩; have b3 := b2a.trans (b3'.mono b2a.size))
    | (go_at_call 29; have b1a : Below w.heap.size w (w1.alloc (.cells #[.int .i64 0, .int .i64 0, .string ⟨#[]⟩, .string ⟨#[]⟩] 59)) := b1.alloc b1.size _; refine (C1.out _).mono ?_; rintro x w2 ⟨rfl, b2'⟩; have b2 := b1a.trans (b2'.mono b1a.size))
    | (go_at_call 32; refine (prune_nil _ _).mono ?_; rintro x w9 ⟨rfl, e9⟩; subst w9)
    | (go_at_call 33; refine (add_nil _ _ _ _).mono ?_; rintro x w1 ⟨rfl, b1⟩))
  go_ret
  have b4' := b3a.trans (b4.mono b3a.size)
  have b5' := b4'.trans (b5.mono b4'.size)
  exact ⟨rfl, b5'.trans (b6.mono b5'.size)⟩
end Go.Proofs.YtbfoigppcbmikaaDoor
