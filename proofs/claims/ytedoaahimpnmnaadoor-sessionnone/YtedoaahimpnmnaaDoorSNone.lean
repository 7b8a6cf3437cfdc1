/- A nil table of sessions; SessionNone, walked. -/
import Derived.Test.YtedoaahimpnmnaaDoorSLive
namespace Go.Proofs.YtedoaahimpnmnaaDoor
open Go.RowKit Go.Maps Go.Sort Go.Shelf
set_option linter.unusedVariables false
set_option maxRecDepth 20000

set_option maxHeartbeats 800000 in
theorem timeError_nil (now : Int) (w : World) : Calls Tryd.prog 42 #[.pointer none, .int .i64 now] w fun e w' => e = .returned (.int .i64 1) ∧ w' = w := by
  go_enter Tryd.func42, Tryd.ntmps42
  go_wp2
  go_ret
  exact ⟨rfl, rfl⟩
set_option maxHeartbeats 800000 in
theorem beginError_nil (t u : ByteArray) (now : Int) (w : World) : Calls Tryd.prog 39 #[.pointer none, .agg #[.string t, .string u], .int .i64 now] w fun e w' => e = .returned (.int .i64 1) ∧ Below w.heap.size w w' := by
  go_enter Tryd.func39, Tryd.ntmps39
  go_wp2
  go_ret
  exact ⟨rfl, (Below.refl _ _).alloc (Nat.le_refl _) _⟩
set_option maxHeartbeats 800000 in
theorem begin_nil (t u : ByteArray) (now : Int) (w : World) : Calls Tryd.prog 14 #[.pointer none, .agg #[.string t, .string u], .int .i64 now] w fun e w' => e = .returned (.tuple #[sessV sess0, .int .i64 1]) ∧ Below w.heap.size w w' := by
  have h0 := fun W => beginError_nil t u now W
  go_enter Tryd.func14, Tryd.ntmps14
  go_wp2_with (go_at_call 39; refine (h0 _).mono ?_; rintro e w2 ⟨rfl, hb2⟩; obtain ⟨hc, hf⟩ := bcell hb2; have hz : w.heap.size + 1 < w2.heap.size := (by have := hb2.size; simp at this; omega))
  have hb1 : Below w.heap.size w ((w.alloc (.cells #[.string t, .string u] 30)).alloc (.cells #[.int .i64 0, .string ⟨#[]⟩, .string ⟨#[]⟩, .int .i64 0, .int .i64 0] 38)) := ((Below.refl _ w).alloc (Nat.le_refl _) _).alloc (by simp) _
  have hb12 : Below w.heap.size w w2 := hb1.trans (hb2.mono (by simp; omega))
  exact bodyPost_ret (v := .tuple #[sessV sess0, .int .i64 1]) (by simp [results, Tryd.results14, go_sem, sessV, sess0, hc]) rfl ⟨rfl, below5 hb12 (g := w.heap.size + 1) (by omega) _ _ _ _ _⟩
set_option maxHeartbeats 800000 in
theorem get_nil (id now : Int) (w : World) : Calls Tryd.prog 16 #[.pointer none, .int .i64 id, .int .i64 now] w fun e w' => e = .returned (.tuple #[sessV sess0, .int .i64 1]) ∧ Below w.heap.size w w' := by
  have h0 := fun W => timeError_nil now W
  go_enter Tryd.func16, Tryd.ntmps16
  go_wp2_with (go_at_call 42; refine (h0 _).mono ?_; rintro e w2 ⟨rfl, rfl⟩)
  exact bodyPost_ret (v := .tuple #[sessV sess0, .int .i64 1]) (by simp [results, Tryd.results16, go_sem, sessV, sess0]) rfl ⟨rfl, (Below.refl _ w).alloc (Nat.le_refl _) _⟩
set_option maxHeartbeats 800000 in
theorem touch_nil (id now : Int) (w : World) : Calls Tryd.prog 15 #[.pointer none, .int .i64 id, .int .i64 now] w fun e w' => e = .returned (.tuple #[sessV sess0, .int .i64 1]) ∧ Below w.heap.size w w' := by
  have h0 := fun W => get_nil id now W
  go_enter Tryd.func15, Tryd.ntmps15
  go_wp2_with (go_at_call 16; refine (h0 _).mono ?_; rintro e w2 ⟨rfl, hb2⟩; unfold sessV sess0; obtain ⟨hc, hf⟩ := bcell hb2; have hz : w.heap.size < w2.heap.size := (by have := hb2.size; simp at this; omega))
  have hb1 : Below w.heap.size w (w.alloc (.cells #[.int .i64 0, .string ⟨#[]⟩, .string ⟨#[]⟩, .int .i64 0, .int .i64 0] 38)) := (Below.refl _ w).alloc (Nat.le_refl _) _
  have hb12 : Below w.heap.size w w2 := hb1.trans (hb2.mono (by simp))
  exact bodyPost_ret (v := .tuple #[sessV sess0, .int .i64 1]) (by simp [results, Tryd.results15, go_sem, sessV, sess0, hc, hz]) rfl ⟨rfl, below5a hb12 (g := w.heap.size) (Nat.le_refl _) _ _ _ _ _ (by omega) _⟩
set_option maxHeartbeats 800000 in
theorem sweep_nil (now : Int) (w : World) : Calls Tryd.prog 17 #[.pointer none, .int .i64 now] w fun e w' => e = .returned (.tuple #[.slice none 0 0, .int .i64 1]) ∧ Below w.heap.size w w' := by
  have h0 := fun W => timeError_nil now W
  go_enter Tryd.func17, Tryd.ntmps17
  go_wp2_with (go_at_call 42; refine (h0 _).mono ?_; rintro e w2 ⟨rfl, rfl⟩)
  go_ret2
  exact ⟨rfl, (Below.refl _ w).alloc (Nat.le_refl _) _⟩
set_option maxHeartbeats 800000 in
theorem tabLive_nil (t u : ByteArray) (now : Int) (w : World) : Calls Tryd.prog 18 #[.pointer none, .agg #[.string t, .string u], .int .i64 now] w fun e w' => e = .returned (.tuple #[.slice none 0 0, .int .i64 1]) ∧ Below w.heap.size w w' := by
  have h0 := fun W => timeError_nil now W
  go_enter Tryd.func18, Tryd.ntmps18
  go_wp2_with (go_at_call 42; refine (h0 _).mono ?_; rintro e w2 ⟨rfl, rfl⟩)
  go_ret2
  exact ⟨rfl, (Below.refl _ w).alloc (Nat.le_refl _) _⟩
set_option maxHeartbeats 800000 in
theorem end_nil (id : Int) (w : World) : Calls Tryd.prog 19 #[.pointer none, .int .i64 id] w fun e w' => e = .returned (.int .i64 1) ∧ w' = w := by
  go_enter Tryd.func19, Tryd.ntmps19
  go_wp2
  go_ret
  exact ⟨rfl, rfl⟩
set_option maxHeartbeats 800000 in
theorem endAll_nil (t u : ByteArray) (w : World) : Calls Tryd.prog 20 #[.pointer none, .agg #[.string t, .string u]] w fun e w' => e = .returned (.slice none 0 0) ∧ Below w.heap.size w w' := by
  go_enter Tryd.func20, Tryd.ntmps20
  go_wp2
  go_ret
  exact ⟨rfl, (Below.refl _ w).alloc (Nat.le_refl _) _⟩
set_option maxHeartbeats 800000 in
theorem rows_nil (w : World) : Calls Tryd.prog 12 #[.pointer none] w fun e w' => e = .returned (.slice none 0 0) ∧ w' = w := by
  go_enter Tryd.func12, Tryd.ntmps12
  go_wp2
  go_ret
  exact ⟨rfl, rfl⟩
set_option maxHeartbeats 800000 in
theorem fork_nil (w : World) : Calls Tryd.prog 8 #[.pointer none] w fun e w' => e = .returned (.pointer none) ∧ w' = w := by
  go_enter Tryd.func8, Tryd.ntmps8
  go_wp2
  go_ret
  exact ⟨rfl, rfl⟩

set_option maxHeartbeats 3200000 in
theorem sessionNone_walk (t u : ByteArray) (ht : t.size ≤ maxLen) (hu : u.size ≤ maxLen) (n : Int) (hn : (Lit.int .i64 n).wf = true) (w : World) :
    Calls Tryd.prog 4 #[.agg #[.string t, .string u], .int .i64 n] w fun e w' => e = .returned (.bool true) ∧ Below w.heap.size w w' := by
  have HL := hid lawLive_any
  have H1 := hid (fun W => begin_nil t u n W)
  have H2 := hid (fun W => touch_nil n n W)
  have H3 := hid (fun W => get_nil n n W)
  have H4 := hid (fun W => sweep_nil n W)
  have H5 := hid (fun W => tabLive_nil t u n W)
  have H6 := hid (fun W => endAll_nil t u W)
  have hb1 : Below w.heap.size w (w.alloc (.cells #[.string t, .string u] 30)) := (Below.refl _ w).alloc (Nat.le_refl _) _
  have q0 : (w.alloc (.cells #[.string t, .string u] 30)).cell? ⟨w.heap.size, 0, none⟩ = some (.string t) := (World.cell?_alloc_at _ _ _ _ rfl).trans rfl
  have q1 : (w.alloc (.cells #[.string t, .string u] 30)).cell? ⟨w.heap.size, 1, none⟩ = some (.string u) := (World.cell?_alloc_at _ _ _ _ rfl).trans rfl
  have hz1 : w.heap.size < (w.alloc (.cells #[.string t, .string u] 30)).heap.size := by simp
  have Q0 := hid q0
  have Q1 := hid q1
  clear ht hu hn q0 q1
  go_enter Tryd.func4, Tryd.ntmps4
  go_wp2_with (first
    | (go_at_call 14; refine (H1.out _).mono ?_; rintro e w2 ⟨rfl, hb2⟩; unfold sessV sess0; have z2 : w.heap.size < w2.heap.size := Nat.lt_of_lt_of_le hz1 hb2.size)
    | (go_at_call 15; refine (H2.out _).mono ?_; rintro e w3 ⟨rfl, hb3⟩; unfold sessV sess0; have z3 : w.heap.size < w3.heap.size := (by have := hb3.size; simp at this; omega))
    | (go_at_call 16; refine (H3.out _).mono ?_; rintro e w4 ⟨rfl, hb4⟩; unfold sessV sess0; have z4 : w.heap.size < w4.heap.size := (by have := hb4.size; simp at this; omega); have k4 : Below w.heap.size w w4 := ((((hb1.trans (hb2.mono (by simp))).alloc (by omega) _).trans (hb3.mono (by simp; omega))).alloc (by omega) _).trans (hb4.mono (by simp; omega)); have K4 := hid k4; have y0 : w4.cell? ⟨w.heap.size, 0, none⟩ = some (.string t) := (hb4.cell (p := ⟨w.heap.size, 0, none⟩) (by simp; omega)).trans ((World.cell?_alloc_past _ _ _ z3).trans ((hb3.cell (p := ⟨w.heap.size, 0, none⟩) (by simp; omega)).trans ((World.cell?_alloc_past _ _ _ z2).trans ((hb2.cell (p := ⟨w.heap.size, 0, none⟩) hz1).trans Q0.out)))); have y1 : w4.cell? ⟨w.heap.size, 1, none⟩ = some (.string u) := (hb4.cell (p := ⟨w.heap.size, 1, none⟩) (by simp; omega)).trans ((World.cell?_alloc_past _ _ _ z3).trans ((hb3.cell (p := ⟨w.heap.size, 1, none⟩) (by simp; omega)).trans ((World.cell?_alloc_past _ _ _ z2).trans ((hb2.cell (p := ⟨w.heap.size, 1, none⟩) hz1).trans Q1.out)))); clear k4)
    | (go_at_call 17; refine (H4.out _).mono ?_; rintro e w5 ⟨rfl, hb5⟩; have z5 : w.heap.size < w5.heap.size := (by have := hb5.size; simp at this; omega); have x0 := (hb5.cell (p := ⟨w.heap.size, 0, none⟩) (by simp; omega)).trans ((World.cell?_alloc_past _ _ _ z4).trans y0); have x1 := (hb5.cell (p := ⟨w.heap.size, 1, none⟩) (by simp; omega)).trans ((World.cell?_alloc_past _ _ _ z4).trans y1))
    | (go_at_call 18; refine (H5.out _).mono ?_; rintro e w6 ⟨rfl, hb6⟩; have v0 := (hb6.cell (p := ⟨w.heap.size, 0, none⟩) z5).trans x0; have v1 := (hb6.cell (p := ⟨w.heap.size, 1, none⟩) z5).trans x1)
    | (go_at_call 7; refine (HL.out _).mono ?_; rintro e w7 ⟨rfl, hb7⟩; have u0 := (hb7.cell (p := ⟨w.heap.size, 0, none⟩) (Nat.lt_of_lt_of_le z5 hb6.size)).trans v0; have u1 := (hb7.cell (p := ⟨w.heap.size, 1, none⟩) (Nat.lt_of_lt_of_le z5 hb6.size)).trans v1)
    | (go_at_call 19; refine (end_nil _ _).mono ?_; rintro e w8 ⟨rfl, hw8⟩; have hw8' := hw8.symm; subst hw8'; clear hw8)
    | (go_at_call 20; refine (H6.out _).mono ?_; rintro e w9 ⟨rfl, hb9⟩)
    | (go_at_call 12; refine (rows_nil _).mono ?_; rintro e w8 ⟨rfl, hw8⟩; have hw8' := hw8.symm; subst hw8'; clear hw8)
    | (go_at_call 8; refine (fork_nil _).mono ?_; rintro e w8 ⟨rfl, hw8⟩; have hw8' := hw8.symm; subst hw8'; clear hw8))
  go_ret
  have k5 : Below w.heap.size w w5 := (K4.out.alloc (by omega) _).trans (hb5.mono (by simp; omega))
  exact ⟨rfl, Below.on' (Below.on' (Below.on' k5 hb6) hb7) hb9⟩
end Go.Proofs.YtedoaahimpnmnaaDoor
