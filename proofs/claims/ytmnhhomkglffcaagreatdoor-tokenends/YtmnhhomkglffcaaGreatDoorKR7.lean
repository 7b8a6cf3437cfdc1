/- The reference's Exchange: that it ends, and what it leaves. (Printed by gen/kr7.py.) -/
import Derived.Test.YtmnhhomkglffcaaGreatDoorKR6
namespace Go.Proofs.YtmnhhomkglffcaaGreatDoor
open Go.RowKit Go.Maps Go.Sort Go.Shelf
set_option linter.unusedVariables false
set_option maxRecDepth 20000

/-- some token and some error; a store that has at most one token more -/
def ExchPost (w : World) (B r n m : Nat) (e : Ending) (w' : World) : Prop := (∃ (t : Tok.Sess) (z : Int), e = .returned (.tuple #[Tok.sessV t, .int .i64 z])) ∧ Less w' B r n (m + 1) ∧ Out (fun k => k = r) w w'
theorem heap_more {w : World} {g : Nat} {x : Option Obj} (h : w.heap[g]? = x) (hg : g < w.heap.size) (O : Obj) : (w.alloc O).heap[g]? = x := (Below.heap_alloc w _ _ hg).trans h

/-- fresh, as Exchange calls it -/
theorem ex_fresh {w w2 : World} {B r : Nat} {a : Option Addr} {c : Nat} {a' : Option Addr} {c' : Nat} {U : Sto} (h : RAt w2 B r a c a' c' U) (f : w2.heap[w.heap.size]? = some (.cells #[.int .i64 0, .int .i64 0, .int .u8 0, .int .i64 0] 55 (0, 0))) (hB : B ≤ w.heap.size) (hb : Below w.heap.size w w2) (hr : r < w.heap.size) (hl : U.ts.length ≤ 1000000000) (now : Int) (O : Obj) (fam sco unt : Int) :
    Calls Tryz.prog 57 #[.pointer (some ⟨r, 0, none⟩), .int .i64 fam, .int .u8 sco, .int .i64 unt] ((w2.setCell ⟨r, 2, none⟩ (.int .i64 now)).alloc O) fun e w5 => ∃ (y : Tok.Sess) (x : Int) (a2 : Option Addr) (c2 : Nat), e = .returned (Tok.sessV y) ∧ RAt w5 B r a c a2 c2 ⟨now, U.nf, U.fs, x, U.ts ++ [y]⟩ ∧ Out (fun k => k = r) w w5 ∧ (∀ k, rBlk r a a2 k → k ≠ w.heap.size) ∧ w5.heap[w.heap.size]? = some (.cells #[.int .i64 0, .int .i64 0, .int .u8 0, .int .i64 0] 55 (0, 0)) := by
  have hs := h.set2 now
  obtain ⟨V, hV⟩ : ∃ V, V = w2.setCell ⟨r, 2, none⟩ (.int .i64 now) := ⟨_, rfl⟩
  rw [← hV] at hs ⊢
  have sV : V.heap.size = w2.heap.size := by rw [hV]; simp [World.setCell]
  have fV : V.heap[w.heap.size]? = some (.cells #[.int .i64 0, .int .i64 0, .int .u8 0, .int .i64 0] 55 (0, 0)) := by rw [hV]; exact (heap_setCell_other _ _ _ _ (by show w.heap.size ≠ r; omega)).trans f
  have oV : Out (fun k => k = r) w V := by rw [hV]; exact (Out.of_below (P := fun k => k = r) hb).setCell _ _ rfl
  have bV : Below V.heap.size V (V.alloc O) := (Below.refl _ V).alloc (Nat.le_refl _) _
  have dV := (Array.getElem?_eq_some_iff.1 fV).1
  refine (rFresh_any (hs.below bV) (by have := hb.size; simp; omega) hl fam sco unt).mono ?_
  rintro e w5 ⟨y, x, a2, c2, rfl, h5, o5, hn5⟩
  refine ⟨y, x, a2, c2, rfl, h5, (oV.trans (Out.of_below bV) (fun _ _ e => e)).trans o5 (fun _ _ e => e), ?_, (o5.block w.heap.size (by simp; omega) (by show w.heap.size ≠ r; omega)).trans (heap_more fV dV O)⟩
  rintro k (rfl | ⟨ad, e, rfl⟩ | ⟨ad, e, rfl⟩)
  · omega
  · intro e2
    have hr2 := h.rowf.2
    rcases hr2 with ⟨e3, _⟩ | ⟨g, cp, cur, e3, _, h3, _⟩
    · injection e3 with e4; rw [e] at e4; cases e4
    · injection e3 with e4; rw [e] at e4; cases e4
      have e2' : g = w.heap.size := e2
      rw [e2', f] at h3
      cases h3
  · have := hn5 ad e
    simp at this
    omega

set_option maxHeartbeats 3200000 in
theorem rExch_any {w : World} {B r : Nat} {a : Option Addr} {c : Nat} {a' : Option Addr} {c' : Nat} {U : Sto} (h : RAt w B r a c a' c' U) (hB : B ≤ w.heap.size) (hl : U.ts.length ≤ 1000000000) (id sco now : Int) :
    Calls Tryz.prog 23 #[.pointer (some ⟨r, 0, none⟩), .int .i64 id, .int .u8 sco, .int .i64 now] w (ExchPost w B r U.fs.length U.ts.length) := by
  have hr := h.lt
  have hbr := h.br
  obtain ⟨W, hW⟩ : ∃ W, W = w.alloc (.cells #[.int .i64 0, .int .i64 0, .int .u8 0, .int .i64 0] 55) := ⟨_, rfl⟩
  have hbW : Below w.heap.size w W := by rw [hW]; exact (Below.refl _ w).alloc (Nat.le_refl _) _
  have t0 : W.heap[w.heap.size]? = some (.cells #[.int .i64 0, .int .i64 0, .int .u8 0, .int .i64 0] 55 (0, 0)) := by rw [hW]; exact (MapKept.heap_alloc w _).1
  have h1 := h.below hbW
  have Ha := hid (rAccess_any h1 hl id now)
  have dW := (Array.getElem?_eq_some_iff.1 t0).1
  have T0 := hid t0
  have HB := hid hbW
  have HW := hid hW
  have H1 := hid h1
  have H := hid h
  clear h h1 t0 hbW hW
  go_enter Tryz.func23, Tryz.ntmps23
  go_wp2_with (first
    | (go_at_call 21; rw [← HW.out]; refine Ha.out.mono ?_; rintro e9 w2 ⟨⟨t, z, rfl⟩, hb2⟩; unfold Tok.sessV; have f2 := (hb2.block w.heap.size dW).trans T0.out; have d2 : w.heap.size < w2.heap.size := (Array.getElem?_eq_some_iff.1 f2).1; have q0 : w2.cell? ⟨w.heap.size, 0, none⟩ = some (.int .i64 0) := cell_of_row _ _ 0 _ _ _ f2; have q1 : w2.cell? ⟨w.heap.size, 1, none⟩ = some (.int .i64 0) := cell_of_row _ _ 1 _ _ _ f2; have q2 : w2.cell? ⟨w.heap.size, 2, none⟩ = some (.int .u8 0) := cell_of_row _ _ 2 _ _ _ f2; have q3 : w2.cell? ⟨w.heap.size, 3, none⟩ = some (.int .i64 0) := cell_of_row _ _ 3 _ _ _ f2; have v0 : w2.frozen? ⟨w.heap.size, 0, none⟩ = false := frozen_of_row _ _ 0 _ _ f2; have v1 : w2.frozen? ⟨w.heap.size, 1, none⟩ = false := frozen_of_row _ _ 1 _ _ f2; have v2 : w2.frozen? ⟨w.heap.size, 2, none⟩ = false := frozen_of_row _ _ 2 _ _ f2; have v3 : w2.frozen? ⟨w.heap.size, 3, none⟩ = false := frozen_of_row _ _ 3 _ _ f2; have h2 := H1.out.below hb2; have k1 := h2.c1; have k2 := h2.c2; have y2 := h2.z 2; have F2 := hid f2; have H2 := hid h2; have B2 := hid (HB.out.trans (hb2.mono (Nat.le_of_lt dW))); have n1 : r ≠ w.heap.size := (by omega); have n2 : w.heap.size ≠ r := (by omega); have nr : r < w2.heap.size := (by omega); clear f2 h2 hb2)
    | (go_at_call 57; refine (ex_fresh H2.out F2.out hB B2.out hr hl now (.cells #[.int .i64 t.id, .int .i64 t.fam, .int .u8 t.sco, .int .i64 t.unt] 55) t.fam sco t.unt).mono ?_; rintro e9 w5 ⟨y, x, a2, c2, rfl, h5, o5, hn5, f5⟩; unfold Tok.sessV; have d5 : w.heap.size < w5.heap.size := (Array.getElem?_eq_some_iff.1 f5).1; clear q0 q1 q2 q3 v0 v1 v2 v3; have q0 : w5.cell? ⟨w.heap.size, 0, none⟩ = some (.int .i64 0) := cell_of_row _ _ 0 _ _ _ f5; have q1 : w5.cell? ⟨w.heap.size, 1, none⟩ = some (.int .i64 0) := cell_of_row _ _ 1 _ _ _ f5; have q2 : w5.cell? ⟨w.heap.size, 2, none⟩ = some (.int .u8 0) := cell_of_row _ _ 2 _ _ _ f5; have q3 : w5.cell? ⟨w.heap.size, 3, none⟩ = some (.int .i64 0) := cell_of_row _ _ 3 _ _ _ f5; have v0 : w5.frozen? ⟨w.heap.size, 0, none⟩ = false := frozen_of_row _ _ 0 _ _ f5; have v1 : w5.frozen? ⟨w.heap.size, 1, none⟩ = false := frozen_of_row _ _ 1 _ _ f5; have v2 : w5.frozen? ⟨w.heap.size, 2, none⟩ = false := frozen_of_row _ _ 2 _ _ f5; have v3 : w5.frozen? ⟨w.heap.size, 3, none⟩ = false := frozen_of_row _ _ 3 _ _ f5; have F5 := hid f5; have H5 := hid h5; have O5 := hid o5; have N5 := hid hn5; clear f5 h5 o5 hn5))
  all_goals first
    | (have ht9 : (z != 0) = true := (by assumption); show bodyPost _ _ _ _ _ ((set4 w2 w.heap.size (.int .i64 0) (.int .i64 0) (.int .u8 0) (.int .i64 0)).alloc (.cells #[.int .i64 t.id, .int .i64 t.fam, .int .u8 t.sco, .int .i64 t.unt] 55)); obtain ⟨w7, hw7⟩ : ∃ w7, w7 = (set4 w2 w.heap.size (.int .i64 0) (.int .i64 0) (.int .u8 0) (.int .i64 0)).alloc (.cells #[.int .i64 t.id, .int .i64 t.fam, .int .u8 t.sco, .int .i64 t.unt] 55) := ⟨_, rfl⟩; have b7 : Below w.heap.size w w7 := (by rw [hw7]; exact (below_set4 B2.out (Nat.le_refl _) (Nat.le_refl _) _ _ _ _).alloc (by simp [set4, World.setCell]; omega) _); have f7 : w7.heap[w.heap.size]? = some (.cells #[.int .i64 0, .int .i64 0, .int .u8 0, .int .i64 0] 55 (0, 0)) := (by rw [hw7]; exact heap_more (set4_same F2.out) (by simp [set4, World.setCell]; omega) _); rw [← hw7]; obtain ⟨m0, m1, m2, m3⟩ := row4 f7; exact bodyPost_ret (v := .tuple #[Tok.sessV Tok.sess0, .int .i64 z]) (by simp [results, Tryz.results23, go_sem, Tok.sessV, Tok.sess0, m0, m1, m2, m3]) rfl ⟨⟨_, _, rfl⟩, ⟨_, _, _, _, _, H.out.below b7, Nat.le_refl _, by omega⟩, Out.of_below b7⟩)
    | (have ht9 : (bits BinOp.and IntKind.u8 sco t.sco != sco) = true := (by assumption); show bodyPost _ _ _ _ _ ((set4 w2 w.heap.size (.int .i64 0) (.int .i64 0) (.int .u8 0) (.int .i64 0)).alloc (.cells #[.int .i64 t.id, .int .i64 t.fam, .int .u8 t.sco, .int .i64 t.unt] 55)); obtain ⟨w7, hw7⟩ : ∃ w7, w7 = (set4 w2 w.heap.size (.int .i64 0) (.int .i64 0) (.int .u8 0) (.int .i64 0)).alloc (.cells #[.int .i64 t.id, .int .i64 t.fam, .int .u8 t.sco, .int .i64 t.unt] 55) := ⟨_, rfl⟩; have b7 : Below w.heap.size w w7 := (by rw [hw7]; exact (below_set4 B2.out (Nat.le_refl _) (Nat.le_refl _) _ _ _ _).alloc (by simp [set4, World.setCell]; omega) _); have f7 : w7.heap[w.heap.size]? = some (.cells #[.int .i64 0, .int .i64 0, .int .u8 0, .int .i64 0] 55 (0, 0)) := (by rw [hw7]; exact heap_more (set4_same F2.out) (by simp [set4, World.setCell]; omega) _); rw [← hw7]; obtain ⟨m0, m1, m2, m3⟩ := row4 f7; exact bodyPost_ret (v := .tuple #[Tok.sessV Tok.sess0, .int .i64 14]) (by simp [results, Tryz.results23, go_sem, Tok.sessV, Tok.sess0, m0, m1, m2, m3]) rfl ⟨⟨_, _, rfl⟩, ⟨_, _, _, _, _, H.out.below b7, Nat.le_refl _, by omega⟩, Out.of_below b7⟩)
    | (have ht9 : 1099511627776 < U.nt := (by assumption); show bodyPost _ _ _ _ _ ((set4 w2 w.heap.size (.int .i64 0) (.int .i64 0) (.int .u8 0) (.int .i64 0)).alloc (.cells #[.int .i64 t.id, .int .i64 t.fam, .int .u8 t.sco, .int .i64 t.unt] 55)); obtain ⟨w7, hw7⟩ : ∃ w7, w7 = (set4 w2 w.heap.size (.int .i64 0) (.int .i64 0) (.int .u8 0) (.int .i64 0)).alloc (.cells #[.int .i64 t.id, .int .i64 t.fam, .int .u8 t.sco, .int .i64 t.unt] 55) := ⟨_, rfl⟩; have b7 : Below w.heap.size w w7 := (by rw [hw7]; exact (below_set4 B2.out (Nat.le_refl _) (Nat.le_refl _) _ _ _ _).alloc (by simp [set4, World.setCell]; omega) _); have f7 : w7.heap[w.heap.size]? = some (.cells #[.int .i64 0, .int .i64 0, .int .u8 0, .int .i64 0] 55 (0, 0)) := (by rw [hw7]; exact heap_more (set4_same F2.out) (by simp [set4, World.setCell]; omega) _); rw [← hw7]; obtain ⟨m0, m1, m2, m3⟩ := row4 f7; exact bodyPost_ret (v := .tuple #[Tok.sessV Tok.sess0, .int .i64 7]) (by simp [results, Tryz.results23, go_sem, Tok.sessV, Tok.sess0, m0, m1, m2, m3]) rfl ⟨⟨_, _, rfl⟩, ⟨_, _, _, _, _, H.out.below b7, Nat.le_refl _, by omega⟩, Out.of_below b7⟩)
    | (show bodyPost _ _ _ _ _ (set4 w5 w.heap.size (.int .i64 y.id) (.int .i64 y.fam) (.int .u8 y.sco) (.int .i64 y.unt)); obtain ⟨w7, hw7⟩ : ∃ w7, w7 = set4 w5 w.heap.size (.int .i64 y.id) (.int .i64 y.fam) (.int .u8 y.sco) (.int .i64 y.unt) := ⟨_, rfl⟩; have f7 : w7.heap[w.heap.size]? = some (.cells #[.int .i64 y.id, .int .i64 y.fam, .int .u8 y.sco, .int .i64 y.unt] 55 (0, 0)) := (by rw [hw7]; exact set4_same F5.out); have h7 := H5.out.four (g := w.heap.size) (.int .i64 y.id) (.int .i64 y.fam) (.int .u8 y.sco) (.int .i64 y.unt) N5.out; have o7 := O5.out.four (g := w.heap.size) (Nat.le_refl _) (.int .i64 y.id) (.int .i64 y.fam) (.int .u8 y.sco) (.int .i64 y.unt); rw [← hw7] at h7 o7 ⊢; obtain ⟨m0, m1, m2, m3⟩ := row4 f7; exact bodyPost_ret (v := .tuple #[Tok.sessV y, .int .i64 0]) (by simp [results, Tryz.results23, go_sem, Tok.sessV, m0, m1, m2, m3]) rfl ⟨⟨_, _, rfl⟩, ⟨_, _, _, _, _, h7, Nat.le_refl _, by simp⟩, o7⟩)
end Go.Proofs.YtmnhhomkglffcaaGreatDoor
