/- Columns of a family's and of a token's row: that they end, with some row of texts. -/
import Derived.Test.YtmnhhomkglffcaaGreatDoorKTx
import Derived.Test.YtmnhhomkglffcaaGreatDoorKSto
namespace Go.Proofs.YtmnhhomkglffcaaGreatDoor
open Go.RowKit Go.Maps Go.Sort Go.Shelf
set_option linter.unusedVariables false
set_option maxRecDepth 20000
theorem cell_on {V V' : World} (hb : Below V.heap.size V V') {a : Addr} {v : Value} (h : V.cell? a = some v) : V'.cell? a = some v := (hb.cell (World.block_lt_of_cell? _ _ h)).trans h
theorem colF_on {V V' : World} (hb : Below V.heap.size V V') {g : Nat} {b c d e : Value} (h : V.cell? ⟨g, 1, none⟩ = some b ∧ V.cell? ⟨g, 2, none⟩ = some c ∧ V.cell? ⟨g, 3, none⟩ = some d ∧ V.cell? ⟨g, 4, none⟩ = some e ∧ TabAt V) :
    V'.cell? ⟨g, 1, none⟩ = some b ∧ V'.cell? ⟨g, 2, none⟩ = some c ∧ V'.cell? ⟨g, 3, none⟩ = some d ∧ V'.cell? ⟨g, 4, none⟩ = some e ∧ TabAt V' := ⟨cell_on hb h.1, cell_on hb h.2.1, cell_on hb h.2.2.1, cell_on hb h.2.2.2.1, h.2.2.2.2.below hb⟩
theorem colT_on {V V' : World} (hb : Below V.heap.size V V') {g : Nat} {b c d : Value} (h : V.cell? ⟨g, 1, none⟩ = some b ∧ V.cell? ⟨g, 2, none⟩ = some c ∧ V.cell? ⟨g, 3, none⟩ = some d ∧ TabAt V) :
    V'.cell? ⟨g, 1, none⟩ = some b ∧ V'.cell? ⟨g, 2, none⟩ = some c ∧ V'.cell? ⟨g, 3, none⟩ = some d ∧ TabAt V' := ⟨cell_on hb h.1, cell_on hb h.2.1, cell_on hb h.2.2.1, h.2.2.2.below hb⟩

set_option maxHeartbeats 3200000 in
theorem familyColumns_any (s : Fam.Sess) (hs : 0 ≤ s.sco ∧ s.sco ≤ 255) (w : World) (ht : TabAt w) :
    Calls Tryz.prog 44 #[.agg #[.int .i64 s.id, .int .i64 s.ses, .string s.cli, .int .u8 s.sco, .int .i64 s.nxt]] w fun e w' => (∃ a n c, e = .returned (.slice a n c)) ∧ Below w.heap.size w w' := by
  obtain ⟨fa, fb, fc, fd, fe⟩ := s
  dsimp only at hs ⊢
  obtain ⟨W, hW⟩ : ∃ W, W = w.alloc (.cells #[.int .i64 fa, .int .i64 fb, .string fc, .int .u8 fd, .int .i64 fe] 35) := ⟨_, rfl⟩
  have hb : Below w.heap.size w W := by rw [hW]; exact (Below.refl _ w).alloc (Nat.le_refl _) _
  have t0 : W.heap[w.heap.size]? = some (.cells #[.int .i64 fa, .int .i64 fb, .string fc, .int .u8 fd, .int .i64 fe] 35 (0, 0)) := by rw [hW]; exact (MapKept.heap_alloc w _).1
  have z : Hid (W.cell? ⟨w.heap.size, 1, none⟩ = some (.int .i64 fb) ∧ W.cell? ⟨w.heap.size, 2, none⟩ = some (.string fc) ∧ W.cell? ⟨w.heap.size, 3, none⟩ = some (.int .u8 fd) ∧ W.cell? ⟨w.heap.size, 4, none⟩ = some (.int .i64 fe) ∧ TabAt W) := ⟨cell_of_row _ _ 1 _ _ _ t0, cell_of_row _ _ 2 _ _ _ t0, cell_of_row _ _ 3 _ _ _ t0, cell_of_row _ _ 4 _ _ _ t0, ht.below hb⟩
  have BB := hid hb
  have HW := hid hW
  have Hs := hid hs
  clear hb t0 hW ht hs
  go_enter Tryz.func44, Tryz.ntmps44
  go_wp2
  rw [← HW.out]
  go_region_held3 (fun w9 => w9.cell? ⟨w.heap.size, 1, none⟩ = some (.int .i64 fb) ∧ w9.cell? ⟨w.heap.size, 2, none⟩ = some (.string fc) ∧ w9.cell? ⟨w.heap.size, 3, none⟩ = some (.int .u8 fd) ∧ w9.cell? ⟨w.heap.size, 4, none⟩ = some (.int .i64 fe) ∧ TabAt w9)
    (first
      | exact z.out
      | exact colF_on ((Below.refl _ _).alloc (Nat.le_refl _) _) z.out)
    (first
      | (go_at_call 76; refine (text_weak _ _ (by exact z.out.2.2.2.2)).mono ?_; rintro e w1 ⟨t, ht1, rfl, hb1⟩; have z := hid (colF_on hb1 z.out); have BB := hid (show Below w.heap.size w w1 by first | exact Below.on' BB.out hb1 | exact Below.on' BB.out (undrew1 hb1)); clear hb1)
      | (go_at_call 78; refine (scopesText_weak _ Hs.out _ (by exact z.out.2.2.2.2)).mono ?_; rintro e w1 ⟨t, ht1, rfl, hb1⟩; have z := hid (colF_on hb1 z.out); have BB := hid (show Below w.heap.size w w1 by first | exact Below.on' BB.out hb1 | exact Below.on' BB.out (undrew1 hb1)); clear hb1))
  all_goals go_wp2
  all_goals go_ret
  all_goals exact ⟨⟨_, _, _, rfl⟩, BB.out.alloc BB.out.size _⟩
set_option maxHeartbeats 3200000 in
theorem tokenColumns_any (s : Tok.Sess) (hs : 0 ≤ s.sco ∧ s.sco ≤ 255) (w : World) (ht : TabAt w) :
    Calls Tryz.prog 46 #[.agg #[.int .i64 s.id, .int .i64 s.fam, .int .u8 s.sco, .int .i64 s.unt]] w fun e w' => (∃ a n c, e = .returned (.slice a n c)) ∧ Below w.heap.size w w' := by
  obtain ⟨fa, fb, fd, fe⟩ := s
  dsimp only at hs ⊢
  obtain ⟨W, hW⟩ : ∃ W, W = w.alloc (.cells #[.int .i64 fa, .int .i64 fb, .int .u8 fd, .int .i64 fe] 55) := ⟨_, rfl⟩
  have hb : Below w.heap.size w W := by rw [hW]; exact (Below.refl _ w).alloc (Nat.le_refl _) _
  have t0 : W.heap[w.heap.size]? = some (.cells #[.int .i64 fa, .int .i64 fb, .int .u8 fd, .int .i64 fe] 55 (0, 0)) := by rw [hW]; exact (MapKept.heap_alloc w _).1
  have z : Hid (W.cell? ⟨w.heap.size, 1, none⟩ = some (.int .i64 fb) ∧ W.cell? ⟨w.heap.size, 2, none⟩ = some (.int .u8 fd) ∧ W.cell? ⟨w.heap.size, 3, none⟩ = some (.int .i64 fe) ∧ TabAt W) := ⟨cell_of_row _ _ 1 _ _ _ t0, cell_of_row _ _ 2 _ _ _ t0, cell_of_row _ _ 3 _ _ _ t0, ht.below hb⟩
  have BB := hid hb
  have HW := hid hW
  have Hs := hid hs
  clear hb t0 hW ht hs
  go_enter Tryz.func46, Tryz.ntmps46
  go_wp2
  rw [← HW.out]
  go_region_held3 (fun w9 => w9.cell? ⟨w.heap.size, 1, none⟩ = some (.int .i64 fb) ∧ w9.cell? ⟨w.heap.size, 2, none⟩ = some (.int .u8 fd) ∧ w9.cell? ⟨w.heap.size, 3, none⟩ = some (.int .i64 fe) ∧ TabAt w9)
    (first
      | exact z.out
      | exact colT_on ((Below.refl _ _).alloc (Nat.le_refl _) _) z.out)
    (first
      | (go_at_call 76; refine (text_weak _ _ (by exact z.out.2.2.2)).mono ?_; rintro e w1 ⟨t, ht1, rfl, hb1⟩; have z := hid (colT_on hb1 z.out); have BB := hid (show Below w.heap.size w w1 by first | exact Below.on' BB.out hb1 | exact Below.on' BB.out (undrew1 hb1)); clear hb1)
      | (go_at_call 78; refine (scopesText_weak _ Hs.out _ (by exact z.out.2.2.2)).mono ?_; rintro e w1 ⟨t, ht1, rfl, hb1⟩; have z := hid (colT_on hb1 z.out); have BB := hid (show Below w.heap.size w w1 by first | exact Below.on' BB.out hb1 | exact Below.on' BB.out (undrew1 hb1)); clear hb1))
  all_goals go_wp2
  all_goals go_ret
  all_goals exact ⟨⟨_, _, _, rfl⟩, BB.out.alloc BB.out.size _⟩
end Go.Proofs.YtmnhhomkglffcaaGreatDoor
