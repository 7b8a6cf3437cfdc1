/- A nil store of families and tokens. (Printed by gen/knone.py.) -/
import Derived.Test.YtnppnkdlmelpaaaGreatDoorKLive
namespace Go.Proofs.YtnppnkdlmelpaaaGreatDoor
open Go.RowKit Go.Maps Go.Sort Go.Shelf
set_option linter.unusedVariables false
set_option maxRecDepth 20000

set_option maxHeartbeats 1600000 in
theorem timeError_nil (now : Int) (w : World) : Calls Tryz.prog 53 #[.pointer none, .int .i64 now] w fun e w' => e = .returned (.int .i64 1) ∧ w' = w := by
  go_enter Tryz.func53, Tryz.ntmps53
  go_wp2
  go_ret
  exact ⟨rfl, rfl⟩
set_option maxHeartbeats 1600000 in
theorem grantError_nil (a : Int) (c : ByteArray) (now : Int) (w : World) : Calls Tryz.prog 48 #[.pointer none, .int .i64 a, .string c, .int .i64 now] w fun e w' => e = .returned (.int .i64 1) ∧ w' = w := by
  go_enter Tryz.func48, Tryz.ntmps48
  go_wp2
  go_ret
  exact ⟨rfl, rfl⟩
set_option maxHeartbeats 1600000 in
theorem grant_nil (a : Int) (c : ByteArray) (s now : Int) (w : World) : Calls Tryz.prog 15 #[.pointer none, .int .i64 a, .string c, .int .u8 s, .int .i64 now] w fun e w' => e = .returned (.tuple #[Fam.sessV Fam.sess0, Tok.sessV Tok.sess0, .int .i64 1]) ∧ Below w.heap.size w w' := by
  have h0 := fun W => grantError_nil a c now W
  go_enter Tryz.func15, Tryz.ntmps15
  go_wp2_with (go_at_call 48; refine (h0 _).mono ?_; rintro e w2 ⟨rfl, rfl⟩)
  exact bodyPost_ret (v := .tuple #[Fam.sessV Fam.sess0, Tok.sessV Tok.sess0, .int .i64 1]) (by simp [results, Tryz.results15, go_sem, Fam.sessV, Tok.sessV, Fam.sess0, Tok.sess0]) rfl ⟨rfl, ((Below.refl _ w).alloc (Nat.le_refl _) _).alloc (by simp) _⟩
set_option maxHeartbeats 1600000 in
theorem familyAt_nil (id now : Int) (w : World) : Calls Tryz.prog 51 #[.pointer none, .int .i64 id, .int .i64 now] w fun e w' => e = .returned (.tuple #[Fam.sessV Fam.sess0, .int .i64 1]) ∧ Below w.heap.size w w' := by
  have h0 := fun W => timeError_nil now W
  go_enter Tryz.func51, Tryz.ntmps51
  go_wp2_with (go_at_call 53; refine (h0 _).mono ?_; rintro e w2 ⟨rfl, rfl⟩)
  exact bodyPost_ret (v := .tuple #[Fam.sessV Fam.sess0, .int .i64 1]) (by simp [results, Tryz.results51, go_sem, Fam.sessV, Fam.sess0]) rfl ⟨rfl, (Below.refl _ w).alloc (Nat.le_refl _) _⟩
set_option maxHeartbeats 1600000 in
theorem refresh_nil (id num now : Int) (w : World) : Calls Tryz.prog 16 #[.pointer none, .int .i64 id, .int .i64 num, .int .i64 now] w fun e w' => e = .returned (.tuple #[Fam.sessV Fam.sess0, Tok.sessV Tok.sess0, .int .i64 1]) ∧ Below w.heap.size w w' := by
  have h0 := fun W => familyAt_nil id now W
  have HB0 : Hid (Below w.heap.size w ((w.alloc (.cells #[.int .i64 0, .int .i64 0, .string ⟨#[]⟩, .int .u8 0, .int .i64 0] 35)).alloc (.cells #[.int .i64 0, .int .i64 0, .int .u8 0, .int .i64 0] 47))) := ((Below.refl _ w).alloc (Nat.le_refl _) _).alloc (by simp) _
  go_enter Tryz.func16, Tryz.ntmps16
  go_wp2_with (go_at_call 51; refine (h0 _).mono ?_; rintro e w1 ⟨rfl, hb1⟩; unfold Fam.sessV Fam.sess0; have hs1 := hb1.size; simp only [World.size_alloc] at hs1; have f1 : w1.heap[w.heap.size]? = some (.cells #[.int .i64 0, .int .i64 0, .string ⟨#[]⟩, .int .u8 0, .int .i64 0] 35 (0, 0)) := (by rw [hb1.block w.heap.size (by simp; omega), Below.heap_alloc _ _ _ (by simp)]; exact (MapKept.heap_alloc w _).1); have u1 : w1.heap[w.heap.size + 1]? = some (.cells #[.int .i64 0, .int .i64 0, .int .u8 0, .int .i64 0] 47 (0, 0)) := (by have h9 := (MapKept.heap_alloc (w.alloc (.cells #[.int .i64 0, .int .i64 0, .string ⟨#[]⟩, .int .u8 0, .int .i64 0] 35)) (.cells #[.int .i64 0, .int .i64 0, .int .u8 0, .int .i64 0] 47)).1; rw [World.size_alloc] at h9; rw [hb1.block (w.heap.size + 1) (by simp)]; exact h9); have F1 := hid f1; have U1 := hid u1; have HB1 := hid hb1; have q0 : w1.cell? ⟨w.heap.size, 0, none⟩ = some (.int .i64 0) := cell_of_row _ _ 0 _ _ _ f1; have v0 : w1.frozen? ⟨w.heap.size, 0, none⟩ = false := frozen_of_row _ _ 0 _ _ f1; have q1 : w1.cell? ⟨w.heap.size, 1, none⟩ = some (.int .i64 0) := cell_of_row _ _ 1 _ _ _ f1; have v1 : w1.frozen? ⟨w.heap.size, 1, none⟩ = false := frozen_of_row _ _ 1 _ _ f1; have q2 : w1.cell? ⟨w.heap.size, 2, none⟩ = some (.string ⟨#[]⟩) := cell_of_row _ _ 2 _ _ _ f1; have v2 : w1.frozen? ⟨w.heap.size, 2, none⟩ = false := frozen_of_row _ _ 2 _ _ f1; have q3 : w1.cell? ⟨w.heap.size, 3, none⟩ = some (.int .u8 0) := cell_of_row _ _ 3 _ _ _ f1; have v3 : w1.frozen? ⟨w.heap.size, 3, none⟩ = false := frozen_of_row _ _ 3 _ _ f1; have q4 : w1.cell? ⟨w.heap.size, 4, none⟩ = some (.int .i64 0) := cell_of_row _ _ 4 _ _ _ f1; have v4 : w1.frozen? ⟨w.heap.size, 4, none⟩ = false := frozen_of_row _ _ 4 _ _ f1; have x0 : w1.cell? ⟨w.heap.size + 1, 0, none⟩ = some (.int .i64 0) := cell_of_row _ _ 0 _ _ _ u1; have j0 : w1.frozen? ⟨w.heap.size + 1, 0, none⟩ = false := frozen_of_row _ _ 0 _ _ u1; have x1 : w1.cell? ⟨w.heap.size + 1, 1, none⟩ = some (.int .i64 0) := cell_of_row _ _ 1 _ _ _ u1; have j1 : w1.frozen? ⟨w.heap.size + 1, 1, none⟩ = false := frozen_of_row _ _ 1 _ _ u1; have x2 : w1.cell? ⟨w.heap.size + 1, 2, none⟩ = some (.int .u8 0) := cell_of_row _ _ 2 _ _ _ u1; have j2 : w1.frozen? ⟨w.heap.size + 1, 2, none⟩ = false := frozen_of_row _ _ 2 _ _ u1; have x3 : w1.cell? ⟨w.heap.size + 1, 3, none⟩ = some (.int .i64 0) := cell_of_row _ _ 3 _ _ _ u1; have j3 : w1.frozen? ⟨w.heap.size + 1, 3, none⟩ = false := frozen_of_row _ _ 3 _ _ u1; have hd1 := (Array.getElem?_eq_some_iff.1 f1).1; have hd2 := (Array.getElem?_eq_some_iff.1 u1).1; clear f1 u1 hb1 hs1)
  obtain ⟨w7, hw7⟩ : ∃ w7, w7 = set4 (set5 w1 w.heap.size (.int .i64 0) (.int .i64 0) (.string ⟨#[]⟩) (.int .u8 0) (.int .i64 0)) (w.heap.size + 1) (.int .i64 0) (.int .i64 0) (.int .u8 0) (.int .i64 0) := ⟨_, rfl⟩
  have a7 : w7.heap[w.heap.size]? = some (.cells #[.int .i64 0, .int .i64 0, .string ⟨#[]⟩, .int .u8 0, .int .i64 0] 35 (0, 0)) := by rw [hw7]; exact (set4_other (by omega)).trans (set5_same F1.out)
  have b7 : w7.heap[w.heap.size + 1]? = some (.cells #[.int .i64 0, .int .i64 0, .int .u8 0, .int .i64 0] 47 (0, 0)) := by rw [hw7]; exact set4_same ((set5_other (by omega)).trans U1.out)
  have k7 : Below w.heap.size w w7 := by rw [hw7]; exact below_set4 (below_set5 (HB0.out.trans (HB1.out.mono (by simp; omega))) (Nat.le_refl _) (Nat.le_refl _) _ _ _ _ _) (Nat.le_refl _) (by omega) _ _ _ _
  show bodyPost _ _ _ _ _ ((set4 (set5 w1 w.heap.size (.int .i64 0) (.int .i64 0) (.string ⟨#[]⟩) (.int .u8 0) (.int .i64 0)) (w.heap.size + 1) (.int .i64 0) (.int .i64 0) (.int .u8 0) (.int .i64 0)).alloc (.cells #[.int .i64 0, .int .i64 0, .string ⟨#[]⟩, .int .u8 0, .int .i64 0] 35))
  rw [← hw7]
  obtain ⟨c0, c1, c2, c3, c4⟩ := row5 a7
  obtain ⟨d0, d1, d2, d3⟩ := row4 b7
  have l0 := World.block_lt_of_cell? _ _ c0
  have l1 := World.block_lt_of_cell? _ _ d0
  exact bodyPost_ret (v := .tuple #[Fam.sessV Fam.sess0, Tok.sessV Tok.sess0, .int .i64 1]) (by simp [results, Tryz.results16, go_sem, Fam.sessV, Tok.sessV, Fam.sess0, Tok.sess0, c0, c1, c2, c3, c4, d0, d1, d2, d3, l0, l1]) rfl ⟨rfl, k7.alloc k7.size _⟩
set_option maxHeartbeats 1600000 in
theorem access_nil (id now : Int) (w : World) : Calls Tryz.prog 17 #[.pointer none, .int .i64 id, .int .i64 now] w fun e w' => e = .returned (.tuple #[Tok.sessV Tok.sess0, .int .i64 1]) ∧ Below w.heap.size w w' := by
  have h0 := fun W => timeError_nil now W
  go_enter Tryz.func17, Tryz.ntmps17
  go_wp2_with (go_at_call 53; refine (h0 _).mono ?_; rintro e w2 ⟨rfl, rfl⟩)
  exact bodyPost_ret (v := .tuple #[Tok.sessV Tok.sess0, .int .i64 1]) (by simp [results, Tryz.results17, go_sem, Tok.sessV, Tok.sess0]) rfl ⟨rfl, (Below.refl _ w).alloc (Nat.le_refl _) _⟩
set_option maxHeartbeats 1600000 in
theorem exchange_nil (id s now : Int) (w : World) : Calls Tryz.prog 18 #[.pointer none, .int .i64 id, .int .u8 s, .int .i64 now] w fun e w' => e = .returned (.tuple #[Tok.sessV Tok.sess0, .int .i64 1]) ∧ Below w.heap.size w w' := by
  have h0 := fun W => access_nil id now W
  have hb1 : Below w.heap.size w (w.alloc (.cells #[.int .i64 0, .int .i64 0, .int .u8 0, .int .i64 0] 47)) := (Below.refl _ w).alloc (Nat.le_refl _) _
  go_enter Tryz.func18, Tryz.ntmps18
  go_wp2_with (go_at_call 17; refine (h0 _).mono ?_; rintro e w2 ⟨rfl, hb2⟩; unfold Tok.sessV Tok.sess0; have f1 := own4 hb2; have q0 : w2.cell? ⟨w.heap.size, 0, none⟩ = some (.int .i64 0) := cell_of_row _ _ 0 _ _ _ f1; have v0 : w2.frozen? ⟨w.heap.size, 0, none⟩ = false := frozen_of_row _ _ 0 _ _ f1; have q1 : w2.cell? ⟨w.heap.size, 1, none⟩ = some (.int .i64 0) := cell_of_row _ _ 1 _ _ _ f1; have v1 : w2.frozen? ⟨w.heap.size, 1, none⟩ = false := frozen_of_row _ _ 1 _ _ f1; have q2 : w2.cell? ⟨w.heap.size, 2, none⟩ = some (.int .u8 0) := cell_of_row _ _ 2 _ _ _ f1; have v2 : w2.frozen? ⟨w.heap.size, 2, none⟩ = false := frozen_of_row _ _ 2 _ _ f1; have q3 : w2.cell? ⟨w.heap.size, 3, none⟩ = some (.int .i64 0) := cell_of_row _ _ 3 _ _ _ f1; have v3 : w2.frozen? ⟨w.heap.size, 3, none⟩ = false := frozen_of_row _ _ 3 _ _ f1; have hd := (Array.getElem?_eq_some_iff.1 f1).1; have F1 := hid f1; have HB2 := hid (hb1.trans (hb2.mono (by simp))); clear f1 hb2)
  obtain ⟨w7, hw7⟩ : ∃ w7, w7 = set4 w2 w.heap.size (.int .i64 0) (.int .i64 0) (.int .u8 0) (.int .i64 0) := ⟨_, rfl⟩
  have b7 : w7.heap[w.heap.size]? = some (.cells #[.int .i64 0, .int .i64 0, .int .u8 0, .int .i64 0] 47 (0, 0)) := by rw [hw7]; exact set4_same F1.out
  have k7 : Below w.heap.size w w7 := by rw [hw7]; exact below_set4 HB2.out (Nat.le_refl _) (Nat.le_refl _) _ _ _ _
  show bodyPost _ _ _ _ _ ((set4 w2 w.heap.size (.int .i64 0) (.int .i64 0) (.int .u8 0) (.int .i64 0)).alloc (.cells #[.int .i64 0, .int .i64 0, .int .u8 0, .int .i64 0] 47))
  rw [← hw7]
  obtain ⟨d0, d1, d2, d3⟩ := row4 b7
  have l1 := World.block_lt_of_cell? _ _ d0
  exact bodyPost_ret (v := .tuple #[Tok.sessV Tok.sess0, .int .i64 1]) (by simp [results, Tryz.results18, go_sem, Tok.sessV, Tok.sess0, d0, d1, d2, d3, l1]) rfl ⟨rfl, k7.alloc k7.size _⟩
set_option maxHeartbeats 1600000 in
theorem sweep_nil (now : Int) (w : World) : Calls Tryz.prog 19 #[.pointer none, .int .i64 now] w fun e w' => e = .returned (.tuple #[.int .i64 0, .int .i64 1]) ∧ Below w.heap.size w w' := by
  have h0 := fun W => timeError_nil now W
  go_enter Tryz.func19, Tryz.ntmps19
  go_wp2_with (go_at_call 53; refine (h0 _).mono ?_; rintro e w2 ⟨rfl, rfl⟩)
  go_ret2
  exact ⟨rfl, (Below.refl _ w).alloc (Nat.le_refl _) _⟩
set_option maxHeartbeats 1600000 in
theorem family_nil (id : Int) (w : World) : Calls Tryz.prog 11 #[.pointer none, .int .i64 id] w fun e w' => e = .returned (.tuple #[Fam.sessV Fam.sess0, .int .i64 1]) ∧ Below w.heap.size w w' := by
  go_enter Tryz.func11, Tryz.ntmps11
  go_wp2
  exact bodyPost_ret (v := .tuple #[Fam.sessV Fam.sess0, .int .i64 1]) (by simp [results, Tryz.results11, go_sem, Fam.sessV, Fam.sess0]) rfl ⟨rfl, (Below.refl _ w).alloc (Nat.le_refl _) _⟩
set_option maxHeartbeats 1600000 in
theorem end_nil (id : Int) (w : World) : Calls Tryz.prog 20 #[.pointer none, .int .i64 id] w fun e w' => e = .returned (.int .i64 1) ∧ Below w.heap.size w w' := by
  have h0 := fun W => family_nil id W
  have hb1 : Below w.heap.size w (w.alloc (.cells #[.int .i64 id] 3)) := (Below.refl _ w).alloc (Nat.le_refl _) _
  go_enter Tryz.func20, Tryz.ntmps20
  go_wp2_with (go_at_call 11; refine (h0 _).mono ?_; rintro e w2 ⟨rfl, hb2⟩; unfold Fam.sessV Fam.sess0)
  go_ret
  have k := hb1.trans (hb2.mono (by simp))
  exact ⟨rfl, k.alloc k.size _⟩
set_option maxHeartbeats 1600000 in
theorem ends_nil (f : Value) (w : World) : Calls Tryz.prog 35 #[.pointer none, f] w fun e w' => e = .returned (.slice none 0 0) ∧ Below w.heap.size w w' := by
  go_enter Tryz.func35, Tryz.ntmps35
  go_wp2
  go_ret
  exact ⟨rfl, (Below.refl _ w).alloc (Nat.le_refl _) _⟩
set_option maxHeartbeats 1600000 in
theorem endSessions_nil (a : Option Addr) (n c : Nat) (w : World) : Calls Tryz.prog 10 #[.pointer none, .slice a n c] w fun e w' => e = .returned (.slice none 0 0) ∧ Below w.heap.size w w' := by
  have hmf' : ∀ (fn : Fn) (first cap : Array Value) (w : World), (Instr.makeFunc fn first cap).run Tryz.prog w = .ok (.func fn first cap) w := fun _ _ _ _ => rfl
  have h0 := fun f W => ends_nil f W
  have hb1 : Below w.heap.size w (w.alloc (.cells #[.slice a n c] 23)) := (Below.refl _ w).alloc (Nat.le_refl _) _
  go_enter Tryz.func10, Tryz.ntmps10
  go_wp2_with (go_at_call 35; refine (h0 _ _).mono ?_; rintro e w2 ⟨rfl, hb2⟩)
  go_ret
  exact ⟨rfl, hb1.trans (hb2.mono (by simp))⟩
set_option maxHeartbeats 1600000 in
theorem endClient_nil (s : ByteArray) (a : Option Addr) (n c : Nat) (w : World) : Calls Tryz.prog 21 #[.pointer none, .string s, .slice a n c] w fun e w' => e = .returned (.slice none 0 0) ∧ Below w.heap.size w w' := by
  have hmf' : ∀ (fn : Fn) (first cap : Array Value) (w : World), (Instr.makeFunc fn first cap).run Tryz.prog w = .ok (.func fn first cap) w := fun _ _ _ _ => rfl
  have h0 := fun f W => ends_nil f W
  have hb1 : Below w.heap.size w ((w.alloc (.cells #[.string s] 9)).alloc (.cells #[.slice a n c] 23)) := ((Below.refl _ w).alloc (Nat.le_refl _) _).alloc (by simp) _
  go_enter Tryz.func21, Tryz.ntmps21
  go_wp2_with (go_at_call 35; refine (h0 _ _).mono ?_; rintro e w2 ⟨rfl, hb2⟩)
  go_ret
  exact ⟨rfl, hb1.trans (hb2.mono (by simp; omega))⟩
set_option maxHeartbeats 1600000 in
theorem families_nil (id : Int) (w : World) : Calls Tryz.prog 13 #[.pointer none, .int .i64 id] w fun e w' => e = .returned (.slice none 0 0) ∧ Below w.heap.size w w' := by
  go_enter Tryz.func13, Tryz.ntmps13
  go_wp2
  go_ret
  exact ⟨rfl, (Below.refl _ w).alloc (Nat.le_refl _) _⟩
set_option maxHeartbeats 1600000 in
theorem tokens_nil (id : Int) (w : World) : Calls Tryz.prog 12 #[.pointer none, .int .i64 id] w fun e w' => e = .returned (.slice none 0 0) ∧ Below w.heap.size w w' := by
  go_enter Tryz.func12, Tryz.ntmps12
  go_wp2
  go_ret
  exact ⟨rfl, (Below.refl _ w).alloc (Nat.le_refl _) _⟩
set_option maxHeartbeats 1600000 in
theorem rows_nil  (w : World) : Calls Tryz.prog 14 #[.pointer none] w fun e w' => e = .returned (.slice none 0 0) ∧ w' = w := by
  go_enter Tryz.func14, Tryz.ntmps14
  go_wp2
  go_ret
  exact ⟨rfl, rfl⟩
set_option maxHeartbeats 1600000 in
theorem fork_nil  (w : World) : Calls Tryz.prog 9 #[.pointer none] w fun e w' => e = .returned (.pointer none) ∧ w' = w := by
  go_enter Tryz.func9, Tryz.ntmps9
  go_wp2
  go_ret
  exact ⟨rfl, rfl⟩
end Go.Proofs.YtnppnkdlmelpaaaGreatDoor
