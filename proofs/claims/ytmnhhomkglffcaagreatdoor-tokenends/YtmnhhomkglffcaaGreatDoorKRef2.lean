/- Refresh of package token, by a contract. (Printed by gen/kref2.py.) -/
import Derived.Test.YtmnhhomkglffcaaGreatDoorKRef1
namespace Go.Proofs.YtmnhhomkglffcaaGreatDoor
open Go.RowKit Go.Maps Go.Sort Go.Shelf
set_option linter.unusedVariables false
set_option maxRecDepth 20000

/-- a family's refresh token is spent -/
def spent (s : Fam.Sess) : Fam.Sess := ⟨s.id, s.ses, s.cli, s.sco, s.nxt + 1⟩
def putFam (l : List Fam.Sess) (s : Fam.Sess) : List Fam.Sess := l.map fun t => if t.id = s.id then s else t
/-- what Refresh answers, and the store behind it -/
def tRefresh (T : Sto) (id num now : Int) : Fam.Sess × Tok.Sess × Int × Sto :=
  if (fAt T id now).2 ≠ 0 then (Fam.sess0, Tok.sess0, (fAt T id now).2, T)
  else if spendErr T (fAt T id now).1 num ≠ 0 then (Fam.sess0, Tok.sess0, spendErr T (fAt T id now).1 num, if spendErr T (fAt T id now).1 num = 13 then ⟨now, (tEnd T id).nf, (tEnd T id).fs, (tEnd T id).nt, (tEnd T id).ts⟩ else T)
  else (spent (fAt T id now).1, ⟨T.nt, (fAt T id now).1.id, (fAt T id now).1.sco, untilOf now⟩, 0, ⟨now, T.nf, putFam T.fs (spent (fAt T id now).1), T.nt + 1, T.ts ++ [⟨T.nt, (fAt T id now).1.id, (fAt T id now).1.sco, untilOf now⟩]⟩)

set_option maxHeartbeats 1600000 in
theorem refresh_err {w : World} {B p mf mt n1 n2 : Nat} {T : Sto} (h : StoAt w B p mf mt n1 n2 T) (ok : StoOk T) (id num now : Int) (he : (fAt T id now).2 ≠ 0) :
    Calls Tryz.prog 17 #[.pointer (some ⟨p, 0, none⟩), .int .i64 id, .int .i64 num, .int .i64 now] w fun e w' => e = .returned (.tuple #[Fam.sessV Fam.sess0, Tok.sessV Tok.sess0, .int .i64 (fAt T id now).2]) ∧ StoAt w' B p mf mt n1 n2 T ∧ Out (Mine p mf mt) w w' := by
  have hp := h.lts.1
  have hf := h.lts.2.1
  have ht := h.lts.2.2
  have hb0 : Below w.heap.size w ((w.alloc (.cells #[.int .i64 0, .int .i64 0, .string ⟨#[]⟩, .int .u8 0, .int .i64 0] 35)).alloc (.cells #[.int .i64 0, .int .i64 0, .int .u8 0, .int .i64 0] 55)) := ((Below.refl _ w).alloc (Nat.le_refl _) _).alloc (by simp) _
  have h0 := h.below hb0
  have He := hid (familyAt_any h0 ok id now)
  obtain ⟨x, hx⟩ : ∃ x, x = fAt T id now := ⟨_, rfl⟩
  rw [← hx] at He he ⊢
  obtain ⟨⟨a, b, c, d, e⟩, z⟩ := x
  unfold Fam.sessV at He
  dsimp only at He he ⊢
  have q4 : (z != 0) = true := by simpa using he
  have H0 := hid h0
  have HB0 := hid hb0
  clear h ok hx he h0 hb0
  go_enter Tryz.func17, Tryz.ntmps17
  go_wp2_with (go_at_call 50; refine He.out.mono ?_; rintro e9 w1 ⟨rfl, hb1⟩; have hs1 := hb1.size; simp only [World.size_alloc] at hs1; have f1 : w1.heap[w.heap.size]? = some (.cells #[.int .i64 0, .int .i64 0, .string ⟨#[]⟩, .int .u8 0, .int .i64 0] 35 (0, 0)) := (by rw [hb1.block w.heap.size (by simp; omega), Below.heap_alloc _ _ _ (by simp)]; exact (MapKept.heap_alloc w _).1); have u1 : w1.heap[w.heap.size + 1]? = some (.cells #[.int .i64 0, .int .i64 0, .int .u8 0, .int .i64 0] 55 (0, 0)) := (by have h9 := (MapKept.heap_alloc (w.alloc (.cells #[.int .i64 0, .int .i64 0, .string ⟨#[]⟩, .int .u8 0, .int .i64 0] 35)) (.cells #[.int .i64 0, .int .i64 0, .int .u8 0, .int .i64 0] 55)).1; rw [World.size_alloc] at h9; rw [hb1.block (w.heap.size + 1) (by simp)]; exact h9); have F1 := hid f1; have U1 := hid u1; have HB1 := hid hb1; have q0 : w1.cell? ⟨w.heap.size, 0, none⟩ = some (.int .i64 0) := cell_of_row _ _ 0 _ _ _ f1; have v0 : w1.frozen? ⟨w.heap.size, 0, none⟩ = false := frozen_of_row _ _ 0 _ _ f1; have q1 : w1.cell? ⟨w.heap.size, 1, none⟩ = some (.int .i64 0) := cell_of_row _ _ 1 _ _ _ f1; have v1 : w1.frozen? ⟨w.heap.size, 1, none⟩ = false := frozen_of_row _ _ 1 _ _ f1; have q2 : w1.cell? ⟨w.heap.size, 2, none⟩ = some (.string ⟨#[]⟩) := cell_of_row _ _ 2 _ _ _ f1; have v2 : w1.frozen? ⟨w.heap.size, 2, none⟩ = false := frozen_of_row _ _ 2 _ _ f1; have q3 : w1.cell? ⟨w.heap.size, 3, none⟩ = some (.int .u8 0) := cell_of_row _ _ 3 _ _ _ f1; have v3 : w1.frozen? ⟨w.heap.size, 3, none⟩ = false := frozen_of_row _ _ 3 _ _ f1; have q4 : w1.cell? ⟨w.heap.size, 4, none⟩ = some (.int .i64 0) := cell_of_row _ _ 4 _ _ _ f1; have v4 : w1.frozen? ⟨w.heap.size, 4, none⟩ = false := frozen_of_row _ _ 4 _ _ f1; have x0 : w1.cell? ⟨w.heap.size + 1, 0, none⟩ = some (.int .i64 0) := cell_of_row _ _ 0 _ _ _ u1; have j0 : w1.frozen? ⟨w.heap.size + 1, 0, none⟩ = false := frozen_of_row _ _ 0 _ _ u1; have x1 : w1.cell? ⟨w.heap.size + 1, 1, none⟩ = some (.int .i64 0) := cell_of_row _ _ 1 _ _ _ u1; have j1 : w1.frozen? ⟨w.heap.size + 1, 1, none⟩ = false := frozen_of_row _ _ 1 _ _ u1; have x2 : w1.cell? ⟨w.heap.size + 1, 2, none⟩ = some (.int .u8 0) := cell_of_row _ _ 2 _ _ _ u1; have j2 : w1.frozen? ⟨w.heap.size + 1, 2, none⟩ = false := frozen_of_row _ _ 2 _ _ u1; have x3 : w1.cell? ⟨w.heap.size + 1, 3, none⟩ = some (.int .i64 0) := cell_of_row _ _ 3 _ _ _ u1; have j3 : w1.frozen? ⟨w.heap.size + 1, 3, none⟩ = false := frozen_of_row _ _ 3 _ _ u1; have hd1 := (Array.getElem?_eq_some_iff.1 f1).1; have hd2 := (Array.getElem?_eq_some_iff.1 u1).1; clear f1 u1 hb1 hs1)
  obtain ⟨w7, hw7, h7, o7, ⟨c0, c1, c2, c3, c4⟩, d0, d1, d2, d3⟩ := lays2 (P := Mine p mf mt) F1.out U1.out rfl (H0.out.below HB1.out) hp hf ht (Out.of_below (HB0.out.trans (HB1.out.mono (by simp; omega)))) (.int .i64 0) (.int .i64 0) (.string ⟨#[]⟩) (.int .u8 0) (.int .i64 0) (.int .i64 0) (.int .i64 0) (.int .u8 0) (.int .i64 0)
  show bodyPost _ _ _ _ _ ((set4 (set5 w1 w.heap.size (.int .i64 0) (.int .i64 0) (.string ⟨#[]⟩) (.int .u8 0) (.int .i64 0)) (w.heap.size + 1) (.int .i64 0) (.int .i64 0) (.int .u8 0) (.int .i64 0)).alloc (.cells #[.int .i64 a, .int .i64 b, .string c, .int .u8 d, .int .i64 e] 35))
  rw [← hw7]
  have l0 := World.block_lt_of_cell? _ _ c0
  have l1 := World.block_lt_of_cell? _ _ d0
  have ba : Below w7.heap.size w7 (w7.alloc (.cells #[.int .i64 a, .int .i64 b, .string c, .int .u8 d, .int .i64 e] 35)) := (Below.refl _ _).alloc (Nat.le_refl _) _
  exact bodyPost_ret (v := .tuple #[Fam.sessV Fam.sess0, Tok.sessV Tok.sess0, .int .i64 z]) (by simp [results, Tryz.results17, go_sem, Fam.sessV, Tok.sessV, Fam.sess0, Tok.sess0, c0, c1, c2, c3, c4, d0, d1, d2, d3, l0, l1]) rfl ⟨rfl, h7.below ba, o7.trans (Out.of_below ba) (fun _ _ e => e)⟩

set_option maxHeartbeats 1600000 in
theorem refresh_spend {w : World} {B p mf mt n1 n2 : Nat} {T : Sto} (h : StoAt w B p mf mt n1 n2 T) (ok : StoOk T) (hln : T.fs.length ≤ 1000000000) (hlt : T.ts.length ≤ 1000000000) (id num now : Int) (he : (fAt T id now).2 = 0) (hs : spendErr T (fAt T id now).1 num ≠ 0) (hs2 : spendErr T (fAt T id now).1 num ≠ 13) :
    Calls Tryz.prog 17 #[.pointer (some ⟨p, 0, none⟩), .int .i64 id, .int .i64 num, .int .i64 now] w fun e w' => e = .returned (.tuple #[Fam.sessV Fam.sess0, Tok.sessV Tok.sess0, .int .i64 (spendErr T (fAt T id now).1 num)]) ∧ StoAt w' B p mf mt n1 n2 T ∧ Out (Mine p mf mt) w w' := by
  have hp := h.lts.1
  have hf := h.lts.2.1
  have ht := h.lts.2.2
  have hb0 : Below w.heap.size w ((w.alloc (.cells #[.int .i64 0, .int .i64 0, .string ⟨#[]⟩, .int .u8 0, .int .i64 0] 35)).alloc (.cells #[.int .i64 0, .int .i64 0, .int .u8 0, .int .i64 0] 55)) := ((Below.refl _ w).alloc (Nat.le_refl _) _).alloc (by simp) _
  have h0 := h.below hb0
  have He := hid (familyAt_any h0 ok id now)
  obtain ⟨x, hx⟩ : ∃ x, x = fAt T id now := ⟨_, rfl⟩
  rw [← hx] at He he hs hs2 ⊢
  obtain ⟨⟨a, b, c, d, e⟩, z⟩ := x
  unfold Fam.sessV at He
  dsimp only at He he hs hs2 ⊢
  obtain ⟨y, hy⟩ : ∃ y, y = spendErr T ⟨a, b, c, d, e⟩ num := ⟨_, rfl⟩
  rw [← hy] at hs hs2 ⊢
  rw [he] at He
  have Hsp : Hid (∀ W, StoAt W B p mf mt n1 n2 T → Calls Tryz.prog 51 #[.pointer (some ⟨p, 0, none⟩), .agg #[.int .i64 a, .int .i64 b, .string c, .int .u8 d, .int .i64 e], .int .i64 num] W fun e w' => e = .returned (.int .i64 y) ∧ Below W.heap.size W w') := fun W hW => by rw [hy]; exact spendError_any hW ⟨a, b, c, d, e⟩ num
  have q4 : (y != 0) = true := by simpa using hs
  have q5 : (y == 13) = false := by simpa using hs2
  have H0 := hid h0
  have HB0 := hid hb0
  clear h ok hx he h0 hb0 hs hs2 hy hln hlt
  go_enter Tryz.func17, Tryz.ntmps17
  go_wp2_with (first
    | (go_at_call 50; refine He.out.mono ?_; rintro e9 w1 ⟨rfl, hb1⟩; have hs1 := hb1.size; simp only [World.size_alloc] at hs1; have f1 : w1.heap[w.heap.size]? = some (.cells #[.int .i64 0, .int .i64 0, .string ⟨#[]⟩, .int .u8 0, .int .i64 0] 35 (0, 0)) := (by rw [hb1.block w.heap.size (by simp; omega), Below.heap_alloc _ _ _ (by simp)]; exact (MapKept.heap_alloc w _).1); have u1 : w1.heap[w.heap.size + 1]? = some (.cells #[.int .i64 0, .int .i64 0, .int .u8 0, .int .i64 0] 55 (0, 0)) := (by have h9 := (MapKept.heap_alloc (w.alloc (.cells #[.int .i64 0, .int .i64 0, .string ⟨#[]⟩, .int .u8 0, .int .i64 0] 35)) (.cells #[.int .i64 0, .int .i64 0, .int .u8 0, .int .i64 0] 55)).1; rw [World.size_alloc] at h9; rw [hb1.block (w.heap.size + 1) (by simp)]; exact h9); have b2 : Below w1.heap.size w1 (w1.alloc (.cells #[.int .i64 a, .int .i64 b, .string c, .int .u8 d, .int .i64 e] 35)) := (Below.refl _ _).alloc (Nat.le_refl _) _; have H2 := hid ((H0.out.below hb1).below b2); have HB2 := hid ((HB0.out.trans (hb1.mono (by simp; omega))).trans (b2.mono (by omega))); have F2 := hid ((b2.block _ (by omega)).trans f1); have U2 := hid ((b2.block _ (by omega)).trans u1); have hk1 : w.heap.size + 1 < w1.heap.size := (by omega); clear f1 u1 hb1 hs1 b2)
    | (go_at_call 51; refine (Hsp.out _ H2.out).mono ?_; rintro e9 w3 ⟨rfl, hb3⟩; have hs3 := hb3.size; simp only [World.size_alloc] at hs3; have f3 := (hb3.block w.heap.size (by simp; omega)).trans F2.out; have u3 := (hb3.block (w.heap.size + 1) (by simp; omega)).trans U2.out; have t3 := (hb3.block w1.heap.size (by simp)).trans (MapKept.heap_alloc w1 _).1; have F3 := hid f3; have U3 := hid u3; have T3 := hid t3; have HB3 := hid hb3; have q0 : w3.cell? ⟨w.heap.size, 0, none⟩ = some (.int .i64 0) := cell_of_row _ _ 0 _ _ _ f3; have v0 : w3.frozen? ⟨w.heap.size, 0, none⟩ = false := frozen_of_row _ _ 0 _ _ f3; have q1 : w3.cell? ⟨w.heap.size, 1, none⟩ = some (.int .i64 0) := cell_of_row _ _ 1 _ _ _ f3; have v1 : w3.frozen? ⟨w.heap.size, 1, none⟩ = false := frozen_of_row _ _ 1 _ _ f3; have q2 : w3.cell? ⟨w.heap.size, 2, none⟩ = some (.string ⟨#[]⟩) := cell_of_row _ _ 2 _ _ _ f3; have v2 : w3.frozen? ⟨w.heap.size, 2, none⟩ = false := frozen_of_row _ _ 2 _ _ f3; have q3 : w3.cell? ⟨w.heap.size, 3, none⟩ = some (.int .u8 0) := cell_of_row _ _ 3 _ _ _ f3; have v3 : w3.frozen? ⟨w.heap.size, 3, none⟩ = false := frozen_of_row _ _ 3 _ _ f3; have q4 : w3.cell? ⟨w.heap.size, 4, none⟩ = some (.int .i64 0) := cell_of_row _ _ 4 _ _ _ f3; have v4 : w3.frozen? ⟨w.heap.size, 4, none⟩ = false := frozen_of_row _ _ 4 _ _ f3; have x0 : w3.cell? ⟨w.heap.size + 1, 0, none⟩ = some (.int .i64 0) := cell_of_row _ _ 0 _ _ _ u3; have j0 : w3.frozen? ⟨w.heap.size + 1, 0, none⟩ = false := frozen_of_row _ _ 0 _ _ u3; have x1 : w3.cell? ⟨w.heap.size + 1, 1, none⟩ = some (.int .i64 0) := cell_of_row _ _ 1 _ _ _ u3; have j1 : w3.frozen? ⟨w.heap.size + 1, 1, none⟩ = false := frozen_of_row _ _ 1 _ _ u3; have x2 : w3.cell? ⟨w.heap.size + 1, 2, none⟩ = some (.int .u8 0) := cell_of_row _ _ 2 _ _ _ u3; have j2 : w3.frozen? ⟨w.heap.size + 1, 2, none⟩ = false := frozen_of_row _ _ 2 _ _ u3; have x3 : w3.cell? ⟨w.heap.size + 1, 3, none⟩ = some (.int .i64 0) := cell_of_row _ _ 3 _ _ _ u3; have j3 : w3.frozen? ⟨w.heap.size + 1, 3, none⟩ = false := frozen_of_row _ _ 3 _ _ u3; have hd1 := (Array.getElem?_eq_some_iff.1 f3).1; have hd2 := (Array.getElem?_eq_some_iff.1 u3).1; clear f3 u3 t3 hb3 hs3))
  obtain ⟨w7, hw7, h7, o7, ⟨c0, c1, c2, c3, c4⟩, d0, d1, d2, d3⟩ := lays2 (P := Mine p mf mt) F3.out U3.out rfl (H2.out.below HB3.out) hp hf ht (Out.of_below (HB2.out.trans (HB3.out.mono (by simp; omega)))) (.int .i64 0) (.int .i64 0) (.string ⟨#[]⟩) (.int .u8 0) (.int .i64 0) (.int .i64 0) (.int .i64 0) (.int .u8 0) (.int .i64 0)
  show bodyPost _ _ _ _ _ (set4 (set5 w3 w.heap.size (.int .i64 0) (.int .i64 0) (.string ⟨#[]⟩) (.int .u8 0) (.int .i64 0)) (w.heap.size + 1) (.int .i64 0) (.int .i64 0) (.int .u8 0) (.int .i64 0))
  rw [← hw7]
  exact bodyPost_ret (v := .tuple #[Fam.sessV Fam.sess0, Tok.sessV Tok.sess0, .int .i64 y]) (by simp [results, Tryz.results17, go_sem, Fam.sessV, Tok.sessV, Fam.sess0, Tok.sess0, c0, c1, c2, c3, c4, d0, d1, d2, d3]) rfl ⟨rfl, h7, o7⟩
end Go.Proofs.YtmnhhomkglffcaaGreatDoor
