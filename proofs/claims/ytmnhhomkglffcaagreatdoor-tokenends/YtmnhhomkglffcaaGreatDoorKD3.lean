/- do of the laws on tokens: kinds 4 to 7; all kinds together. (Printed by gen/kd2.py.) -/
import Derived.Test.YtmnhhomkglffcaaGreatDoorKD2
namespace Go.Proofs.YtmnhhomkglffcaaGreatDoor
open Go.RowKit Go.Maps Go.Sort Go.Shelf
set_option linter.unusedVariables false
set_option maxRecDepth 20000

set_option maxHeartbeats 6400000 in
theorem doK_7 {w : World} {B p mf mt r n : Nat} {T : Sto} (h : Duo w B p mf mt r n T) (hn : n ≤ 900) (hB : B ≤ w.heap.size) (x : KDeed) (hx : DeedOk w B x) (hk0 : ¬ x.kind = 0) (hk1 : ¬ x.kind = 1) (hk2 : ¬ x.kind = 2) (hk3 : ¬ x.kind = 3) (hk4 : ¬ x.kind = 4) (hk5 : ¬ x.kind = 5) (hk6 : ¬ x.kind = 6) :
    Calls Tryz.prog 7 #[.pointer (some ⟨p, 0, none⟩), .pointer (some ⟨r, 0, none⟩), deedV x] w (DoPost w B p mf mt r (n + 2) (tDo T x)) := by
  obtain ⟨lp, lf, lm, lr, bp, bf, bm, br⟩ := h.lts
  have Htd : Hid (tDo T x = tSweep T x.now) := by show _ = _; unfold tDo; rw [if_neg (by omega)]; rw [if_neg (by omega)]; rw [if_neg (by omega)]; rw [if_neg (by omega)]; rw [if_neg (by omega)]; rw [if_neg (by omega)]; rw [if_neg (by omega)]
  obtain ⟨kd, xi, xm, xn, xc, xs, xa, xz, xd⟩ := x
  obtain ⟨hc, hs, hi, hib, hl⟩ := hx
  dsimp only [deedV] at *
  rw [Htd.out]
  clear Htd
  obtain ⟨W, hW⟩ : ∃ W, W = w.alloc (.cells #[.int .i64 kd, .int .i64 xi, .int .i64 xm, .int .i64 xn, .string xc, .int .u8 xs, .slice xa xz.length xd] 32) := ⟨_, rfl⟩
  have hb1 : Below w.heap.size w W := by rw [hW]; exact (Below.refl _ w).alloc (Nat.le_refl _) _
  have t0 : W.heap[w.heap.size]? = some (.cells #[.int .i64 kd, .int .i64 xi, .int .i64 xm, .int .i64 xn, .string xc, .int .u8 xs, .slice xa xz.length xd] 32 (0, 0)) := by rw [hW]; exact (MapKept.heap_alloc w _).1
  have d0 := (Array.getElem?_eq_some_iff.1 t0).1
  have h1 := h.below hb1
  have nd : ¬ DOut p mf mt r w.heap.size := by unfold DOut; omega
  have hq0 : (kd == 0) = false := by simpa using hk0
  have hq1 : (kd == 1) = false := by simpa using hk1
  have hq2 : (kd == 2) = false := by simpa using hk2
  have hq3 : (kd == 3) = false := by simpa using hk3
  have hq4 : (kd == 4) = false := by simpa using hk4
  have hq5 : (kd == 5) = false := by simpa using hk5
  have hq6 : (kd == 6) = false := by simpa using hk6
  have HP := hid (duo_sweep h1 (by omega) xn)
  obtain ⟨T', hT'⟩ : ∃ T', T' = tSweep T xn := ⟨_, rfl⟩
  rw [← hT'] at HP ⊢
  have HR := hid (fun (V : World) (hV : Duo V B p mf mt r (n + 1) T') (hBV : B ≤ V.heap.size) => duo_rsweep hV (by omega) hBV xn)
  have HW := hid hW
  have HB := hid hb1
  have T0 := hid t0
  clear h h1 hT' hW hb1 t0 hi hib hk0 hk1 hk2 hk3 hk4 hk5 hk6
  go_enter Tryz.func7, Tryz.ntmps7
  go_wp2_with (go_at_call 30; rw [← HW.out]; refine HP.out.mono ?_; rintro e9 w2 ⟨⟨y, z, rfl⟩, h2, o2⟩; have t2 := (o2.block w.heap.size d0 nd).trans T0.out; have d2 : w.heap.size < w2.heap.size := (Array.getElem?_eq_some_iff.1 t2).1; have y3 : w2.cell? ⟨w.heap.size, 3, none⟩ = some (.int .i64 xn) := cell_of_row _ _ 3 _ _ _ t2; have H2 := hid h2; have O2 := hid o2; have T2 := hid t2; clear h2 o2 t2)
  have s2 := O2.out.size
  have hsB := HB.out.size
  go_at_call 31
  refine (HR.out w2 H2.out (by omega)).mono ?_
  rintro e9 w3 ⟨⟨y', z', rfl⟩, h3, o3⟩
  have Hend : Hid (Duo w3 B p mf mt r (n + 2) T' ∧ Out (DOut p mf mt r) w w3) := ⟨h3, ((Out.of_below (P := DOut p mf mt r) HB.out).trans O2.out (fun _ _ e => e)).trans o3 (fun _ _ e => e)⟩
  clear h3 o3 s2 hsB
  cases hy : (y == y')
  all_goals
    go_wp2
    go_ret
    exact ⟨⟨_, rfl⟩, Hend.out.1, Hend.out.2⟩

set_option maxHeartbeats 6400000 in
theorem doK_4 {w : World} {B p mf mt r n : Nat} {T : Sto} (h : Duo w B p mf mt r n T) (hn : n ≤ 900) (hB : B ≤ w.heap.size) (x : KDeed) (hx : DeedOk w B x) (hk : x.kind = 4) :
    Calls Tryz.prog 7 #[.pointer (some ⟨p, 0, none⟩), .pointer (some ⟨r, 0, none⟩), deedV x] w (DoPost w B p mf mt r (n + 2) (tDo T x)) := by
  obtain ⟨lp, lf, lm, lr, bp, bf, bm, br⟩ := h.lts
  have Htd : Hid (tDo T x = tEnd T x.id) := by show _ = _; unfold tDo; rw [if_neg (by omega)]; rw [if_neg (by omega)]; rw [if_neg (by omega)]; rw [if_neg (by omega)]; rw [if_pos hk]
  obtain ⟨kd, xi, xm, xn, xc, xs, xa, xz, xd⟩ := x
  obtain ⟨hc, hs, hi, hib, hl⟩ := hx
  dsimp only [deedV] at *
  rw [Htd.out]
  clear Htd
  subst hk
  obtain ⟨W, hW⟩ : ∃ W, W = w.alloc (.cells #[.int .i64 4, .int .i64 xi, .int .i64 xm, .int .i64 xn, .string xc, .int .u8 xs, .slice xa xz.length xd] 32) := ⟨_, rfl⟩
  have hb1 : Below w.heap.size w W := by rw [hW]; exact (Below.refl _ w).alloc (Nat.le_refl _) _
  have t0 : W.heap[w.heap.size]? = some (.cells #[.int .i64 4, .int .i64 xi, .int .i64 xm, .int .i64 xn, .string xc, .int .u8 xs, .slice xa xz.length xd] 32 (0, 0)) := by rw [hW]; exact (MapKept.heap_alloc w _).1
  have d0 := (Array.getElem?_eq_some_iff.1 t0).1
  have h1 := h.below hb1
  have nd : ¬ DOut p mf mt r w.heap.size := by unfold DOut; omega
  have HP := hid (fun (V : World) (m : Nat) (hV : Duo V B p mf mt r m T) (hm : m ≤ 950) => duo_end hV (by omega) xi)
  obtain ⟨T', hT'⟩ : ∃ T', T' = tEnd T xi := ⟨_, rfl⟩
  rw [← hT'] at HP ⊢
  have HR := hid (fun (V : World) (m : Nat) (S : Sto) (hV : Duo V B p mf mt r m S) (hm : m ≤ 950) (hBV : B ≤ V.heap.size) => duo_rend hV (by omega) hBV xi)
  have q0 : W.cell? ⟨w.heap.size, 1, none⟩ = some (.int .i64 xi) := cell_of_row _ _ 1 _ _ _ t0
  have HW := hid hW
  have HB := hid hb1
  have H1 := hid h1
  have hBW : B ≤ W.heap.size := by have := hb1.size; omega
  clear h h1 hT' hW t0 hi hib
  go_enter Tryz.func7, Tryz.ntmps7
  go_wp2
  rw [← HW.out]
  go_region_held3 (fun w9 => w9.cell? ⟨w.heap.size, 1, none⟩ = some (.int .i64 xi)) (first
      | (simp only [World.cell?_drew, q0]; done)
      | (simp only [yB]; done)
      | (simp only [yD]; done)
      | (simp only [yA]; done)
      | (simp only [yC]; done)) (first
      | (go_at_call 24; refine (HP.out _ _ hTC (by omega)).mono ?_; rintro e wD ⟨⟨zD, rfl⟩, hTD, hoD⟩; have yD := ((hoD.cells w.heap.size (Nat.lt_of_lt_of_le d0 hoC.size) nd).1 1).trans yC)
      | (go_at_call 25; refine (HR.out _ _ _ hTA (by omega) (Nat.le_trans hBW hoA.size)).mono ?_; rintro e wB ⟨⟨zB, rfl⟩, hTB, hoB⟩; have yB := ((hoB.cells w.heap.size (Nat.lt_of_lt_of_le d0 hoA.size) nd).1 1).trans yA)
      | (go_at_call 24; refine (HP.out _ _ (H1.out.below (below_drewN _ _ 1)) (by omega)).mono ?_; rintro e wA ⟨⟨zA, rfl⟩, hTA, hoA⟩; have yA := ((hoA.cells w.heap.size d0 nd).1 1).trans q0)
      | (go_at_call 25; refine (HR.out _ _ _ (H1.out.below (below_drewN _ _ 1)) (by omega) hBW).mono ?_; rintro e wC ⟨⟨zC, rfl⟩, hTC, hoC⟩; have yC := ((hoC.cells w.heap.size d0 nd).1 1).trans q0))
  all_goals go_wp2
  all_goals go_ret
  all_goals
    first
      | exact ⟨⟨_, rfl⟩, hTB, ((Out.of_below (P := DOut p mf mt r) HB.out).trans hoA.undrew (fun _ _ e => e)).trans hoB (fun _ _ e => e)⟩
      | exact ⟨⟨_, rfl⟩, hTD, ((Out.of_below (P := DOut p mf mt r) HB.out).trans hoC.undrew (fun _ _ e => e)).trans hoD (fun _ _ e => e)⟩

theorem dout_lt {W : World} {p mf mt r : Nat} (h1 : p < W.heap.size) (h2 : mf < W.heap.size) (h3 : mt < W.heap.size) (h4 : r < W.heap.size) : ∀ k, DOut p mf mt r k → k < W.drew.heap.size := fun k hk => by
  show k < W.heap.size
  unfold DOut at hk
  omega
set_option maxHeartbeats 6400000 in
theorem doK_5 {w : World} {B p mf mt r n : Nat} {T : Sto} (h : Duo w B p mf mt r n T) (hn : n ≤ 900) (hB : B ≤ w.heap.size) (x : KDeed) (hx : DeedOk w B x) (hk : x.kind = 5) :
    Calls Tryz.prog 7 #[.pointer (some ⟨p, 0, none⟩), .pointer (some ⟨r, 0, none⟩), deedV x] w (DoPost w B p mf mt r (n + 2) (tDo T x)) := by
  obtain ⟨lp, lf, lm, lr, bp, bf, bm, br⟩ := h.lts
  have Htd : Hid (tDo T x = tDrop T (inS x.zs)) := by show _ = _; unfold tDo; rw [if_neg (by omega)]; rw [if_neg (by omega)]; rw [if_neg (by omega)]; rw [if_neg (by omega)]; rw [if_neg (by omega)]; rw [if_pos hk]
  obtain ⟨kd, xi, xm, xn, xc, xs, xa, xz, xd⟩ := x
  obtain ⟨hc, hs, hi, hib, hl⟩ := hx
  dsimp only [deedV] at *
  rw [Htd.out]
  clear Htd
  subst hk
  obtain ⟨W, hW⟩ : ∃ W, W = w.alloc (.cells #[.int .i64 5, .int .i64 xi, .int .i64 xm, .int .i64 xn, .string xc, .int .u8 xs, .slice xa xz.length xd] 32) := ⟨_, rfl⟩
  have hb1 : Below w.heap.size w W := by rw [hW]; exact (Below.refl _ w).alloc (Nat.le_refl _) _
  have t0 : W.heap[w.heap.size]? = some (.cells #[.int .i64 5, .int .i64 xi, .int .i64 xm, .int .i64 xn, .string xc, .int .u8 xs, .slice xa xz.length xd] 32 (0, 0)) := by rw [hW]; exact (MapKept.heap_alloc w _).1
  have d0 := (Array.getElem?_eq_some_iff.1 t0).1
  have h1 := h.below hb1
  have nd : ¬ DOut p mf mt r w.heap.size := by unfold DOut; omega
  have HP := hid (fun (V : World) (m : Nat) (hV : Duo V B p mf mt r m T) (hm : m ≤ 950) (hi : Ints V xa xz) => duo_endS hV (by omega) hi xd hl)
  obtain ⟨T', hT'⟩ : ∃ T', T' = tDrop T (inS xz) := ⟨_, rfl⟩
  rw [← hT'] at HP ⊢
  have HR := hid (fun (V : World) (m : Nat) (S : Sto) (hV : Duo V B p mf mt r m S) (hm : m ≤ 950) (hBV : B ≤ V.heap.size) (hi : Ints V xa xz) => duo_rendS hV (by omega) hBV hi hib xd hl)
  have q6 : W.cell? ⟨w.heap.size, 6, none⟩ = some (.slice xa xz.length xd) := cell_of_row _ _ 6 _ _ _ t0
  have HI : Hid (∀ V, Out (DOut p mf mt r) W V → Ints V xa xz) := fun V o => (hi.below hb1).out (r := r) hib (fun k hk => o.block k (by have := hb1.size; omega) (by unfold DOut; omega))
  have HI0 := hid (hi.below hb1)
  have HW := hid hW
  have HB := hid hb1
  have H1 := hid h1
  have hBW : B ≤ W.heap.size := by have := hb1.size; omega
  have lpW : p < W.heap.size := h1.lts.1
  have lfW : mf < W.heap.size := h1.lts.2.1
  have lmW : mt < W.heap.size := h1.lts.2.2.1
  have lrW : r < W.heap.size := h1.lts.2.2.2.1
  clear h h1 hT' hW t0 hi hib
  go_enter Tryz.func7, Tryz.ntmps7
  go_wp2
  rw [← HW.out]
  go_region_held3 (fun w9 => w9.cell? ⟨w.heap.size, 6, none⟩ = some (.slice xa xz.length xd)) (first
      | (simp only [World.cell?_drew, q6]; done)
      | (simp only [yE6]; done)
      | (simp only [yB6]; done)
      | (simp only [yD6]; done)
      | (simp only [yA6]; done)
      | (simp only [yC6]; done)) (first
      | (go_at_call 26; refine (sameInts_any hiA hiB _ _ (by omega) (by omega)).mono ?_; rintro e wE ⟨⟨bE, rfl⟩, hbE⟩; have yE6 := (hbE.cell (p := ⟨w.heap.size, 6, none⟩) hltB).trans yB6)
      | (go_at_call 26; refine (sameInts_any hiD hiC _ _ (by omega) (by omega)).mono ?_; rintro e wE ⟨⟨bE, rfl⟩, hbE⟩; have yE6 := (hbE.cell (p := ⟨w.heap.size, 6, none⟩) hltD).trans yD6)
      | (go_at_call 9; refine (HP.out _ _ hTC (by omega) (HI.out _ hoC.undrew)).mono ?_; rintro e wD ⟨aD, cD, zD, rfl, hrowD, hlD, hTD, hoD⟩; have fD := (hoD.cells w.heap.size (Nat.lt_of_lt_of_le d0 hoC.size) nd).1; have yD6 := (fD 6).trans yC6; have hltD := Nat.lt_of_lt_of_le d0 (Nat.le_trans hoC.size hoD.size); have hrowC' := own_out2 hrowC hoD (dout_lt lpW lfW lmW lrW); obtain ⟨aC', cC', eC, hiC, _⟩ := ints_of_own hrowC'; cases eC; obtain ⟨aD', cD', eD, hiD, _⟩ := ints_of_own hrowD; cases eD)
      | (go_at_call 27; refine (HR.out _ _ _ hTA (by omega) (Nat.le_trans hBW hoA.size) (HI.out _ hoA.undrew)).mono ?_; rintro e wB ⟨⟨aB, cB, zB, rfl, hrowB, hlB⟩, hTB, hoB⟩; have fB := (hoB.cells w.heap.size (Nat.lt_of_lt_of_le d0 hoA.size) nd).1; have yB6 := (fB 6).trans yA6; have hltB := Nat.lt_of_lt_of_le d0 (Nat.le_trans hoA.size hoB.size); have hrowA' := own_out2 hrowA hoB (dout_lt lpW lfW lmW lrW); obtain ⟨aB', cB', eB, hiB, _⟩ := ints_of_own hrowB; cases eB; obtain ⟨aA', cA', eA, hiA, _⟩ := ints_of_own hrowA'; cases eA)
      | (go_at_call 9; refine (HP.out _ _ (H1.out.below (below_drewN _ _ 1)) (by omega) (HI0.out.below (below_drewN _ _ 1))).mono ?_; rintro e wA ⟨aA, cA, zA, rfl, hrowA, hlA, hTA, hoA⟩; have fA := (hoA.cells w.heap.size d0 nd).1; have yA6 := (fA 6).trans q6)
      | (go_at_call 27; refine (HR.out _ _ _ (H1.out.below (below_drewN _ _ 1)) (by omega) hBW (HI0.out.below (below_drewN _ _ 1))).mono ?_; rintro e wC ⟨⟨aC, cC, zC, rfl, hrowC, hlC⟩, hTC, hoC⟩; have fC := (hoC.cells w.heap.size d0 nd).1; have yC6 := (fC 6).trans q6))
  all_goals go_wp2
  all_goals go_ret
  all_goals
    first
      | exact ⟨⟨_, rfl⟩, hTB.below hbE, (((Out.of_below (P := DOut p mf mt r) HB.out).trans hoA.undrew (fun _ _ e => e)).trans hoB (fun _ _ e => e)).trans (Out.of_below hbE) (fun _ _ e => e)⟩
      | exact ⟨⟨_, rfl⟩, hTD.below hbE, (((Out.of_below (P := DOut p mf mt r) HB.out).trans hoC.undrew (fun _ _ e => e)).trans hoD (fun _ _ e => e)).trans (Out.of_below hbE) (fun _ _ e => e)⟩

set_option maxHeartbeats 6400000 in
theorem doK_6 {w : World} {B p mf mt r n : Nat} {T : Sto} (h : Duo w B p mf mt r n T) (hn : n ≤ 900) (hB : B ≤ w.heap.size) (x : KDeed) (hx : DeedOk w B x) (hk : x.kind = 6) :
    Calls Tryz.prog 7 #[.pointer (some ⟨p, 0, none⟩), .pointer (some ⟨r, 0, none⟩), deedV x] w (DoPost w B p mf mt r (n + 2) (tDo T x)) := by
  obtain ⟨lp, lf, lm, lr, bp, bf, bm, br⟩ := h.lts
  have Htd : Hid (tDo T x = tDrop T (inC x.cli x.zs)) := by show _ = _; unfold tDo; rw [if_neg (by omega)]; rw [if_neg (by omega)]; rw [if_neg (by omega)]; rw [if_neg (by omega)]; rw [if_neg (by omega)]; rw [if_neg (by omega)]; rw [if_pos hk]
  obtain ⟨kd, xi, xm, xn, xc, xs, xa, xz, xd⟩ := x
  obtain ⟨hc, hs, hi, hib, hl⟩ := hx
  dsimp only [deedV] at *
  rw [Htd.out]
  clear Htd
  subst hk
  obtain ⟨W, hW⟩ : ∃ W, W = w.alloc (.cells #[.int .i64 6, .int .i64 xi, .int .i64 xm, .int .i64 xn, .string xc, .int .u8 xs, .slice xa xz.length xd] 32) := ⟨_, rfl⟩
  have hb1 : Below w.heap.size w W := by rw [hW]; exact (Below.refl _ w).alloc (Nat.le_refl _) _
  have t0 : W.heap[w.heap.size]? = some (.cells #[.int .i64 6, .int .i64 xi, .int .i64 xm, .int .i64 xn, .string xc, .int .u8 xs, .slice xa xz.length xd] 32 (0, 0)) := by rw [hW]; exact (MapKept.heap_alloc w _).1
  have d0 := (Array.getElem?_eq_some_iff.1 t0).1
  have h1 := h.below hb1
  have nd : ¬ DOut p mf mt r w.heap.size := by unfold DOut; omega
  have HP := hid (fun (V : World) (m : Nat) (hV : Duo V B p mf mt r m T) (hm : m ≤ 950) (hi : Ints V xa xz) => duo_endC hV (by omega) xc hi xd hl)
  obtain ⟨T', hT'⟩ : ∃ T', T' = tDrop T (inC xc xz) := ⟨_, rfl⟩
  rw [← hT'] at HP ⊢
  have HR := hid (fun (V : World) (m : Nat) (S : Sto) (hV : Duo V B p mf mt r m S) (hm : m ≤ 950) (hBV : B ≤ V.heap.size) (hi : Ints V xa xz) => duo_rendC hV (by omega) hBV xc hi hib xd hl)
  have q4 : W.cell? ⟨w.heap.size, 4, none⟩ = some (.string xc) := cell_of_row _ _ 4 _ _ _ t0
  have q6 : W.cell? ⟨w.heap.size, 6, none⟩ = some (.slice xa xz.length xd) := cell_of_row _ _ 6 _ _ _ t0
  have HI : Hid (∀ V, Out (DOut p mf mt r) W V → Ints V xa xz) := fun V o => (hi.below hb1).out (r := r) hib (fun k hk => o.block k (by have := hb1.size; omega) (by unfold DOut; omega))
  have HI0 := hid (hi.below hb1)
  have HW := hid hW
  have HB := hid hb1
  have H1 := hid h1
  have hBW : B ≤ W.heap.size := by have := hb1.size; omega
  have lpW : p < W.heap.size := h1.lts.1
  have lfW : mf < W.heap.size := h1.lts.2.1
  have lmW : mt < W.heap.size := h1.lts.2.2.1
  have lrW : r < W.heap.size := h1.lts.2.2.2.1
  clear h h1 hT' hW t0 hi hib
  go_enter Tryz.func7, Tryz.ntmps7
  go_wp2
  rw [← HW.out]
  go_region_held3 (fun w9 => w9.cell? ⟨w.heap.size, 4, none⟩ = some (.string xc) ∧ w9.cell? ⟨w.heap.size, 6, none⟩ = some (.slice xa xz.length xd)) (first
      | (constructor <;> (simp only [World.cell?_drew, q4, q6]; done))
      | (constructor <;> (simp only [yE4, yE6]; done))
      | (constructor <;> (simp only [yB4, yB6]; done))
      | (constructor <;> (simp only [yD4, yD6]; done))
      | (constructor <;> (simp only [yA4, yA6]; done))
      | (constructor <;> (simp only [yC4, yC6]; done))) (first
      | (go_at_call 26; refine (sameInts_any hiA hiB _ _ (by omega) (by omega)).mono ?_; rintro e wE ⟨⟨bE, rfl⟩, hbE⟩; have yE4 := (hbE.cell (p := ⟨w.heap.size, 4, none⟩) hltB).trans yB4; have yE6 := (hbE.cell (p := ⟨w.heap.size, 6, none⟩) hltB).trans yB6)
      | (go_at_call 26; refine (sameInts_any hiD hiC _ _ (by omega) (by omega)).mono ?_; rintro e wE ⟨⟨bE, rfl⟩, hbE⟩; have yE4 := (hbE.cell (p := ⟨w.heap.size, 4, none⟩) hltD).trans yD4; have yE6 := (hbE.cell (p := ⟨w.heap.size, 6, none⟩) hltD).trans yD6)
      | (go_at_call 28; refine (HP.out _ _ hTC (by omega) (HI.out _ hoC.undrew)).mono ?_; rintro e wD ⟨aD, cD, zD, rfl, hrowD, hlD, hTD, hoD⟩; have fD := (hoD.cells w.heap.size (Nat.lt_of_lt_of_le d0 hoC.size) nd).1; have yD4 := (fD 4).trans yC4; have yD6 := (fD 6).trans yC6; have hltD := Nat.lt_of_lt_of_le d0 (Nat.le_trans hoC.size hoD.size); have hrowC' := own_out2 hrowC hoD (dout_lt lpW lfW lmW lrW); obtain ⟨aC', cC', eC, hiC, _⟩ := ints_of_own hrowC'; cases eC; obtain ⟨aD', cD', eD, hiD, _⟩ := ints_of_own hrowD; cases eD)
      | (go_at_call 29; refine (HR.out _ _ _ hTA (by omega) (Nat.le_trans hBW hoA.size) (HI.out _ hoA.undrew)).mono ?_; rintro e wB ⟨⟨aB, cB, zB, rfl, hrowB, hlB⟩, hTB, hoB⟩; have fB := (hoB.cells w.heap.size (Nat.lt_of_lt_of_le d0 hoA.size) nd).1; have yB4 := (fB 4).trans yA4; have yB6 := (fB 6).trans yA6; have hltB := Nat.lt_of_lt_of_le d0 (Nat.le_trans hoA.size hoB.size); have hrowA' := own_out2 hrowA hoB (dout_lt lpW lfW lmW lrW); obtain ⟨aB', cB', eB, hiB, _⟩ := ints_of_own hrowB; cases eB; obtain ⟨aA', cA', eA, hiA, _⟩ := ints_of_own hrowA'; cases eA)
      | (go_at_call 28; refine (HP.out _ _ (H1.out.below (below_drewN _ _ 1)) (by omega) (HI0.out.below (below_drewN _ _ 1))).mono ?_; rintro e wA ⟨aA, cA, zA, rfl, hrowA, hlA, hTA, hoA⟩; have fA := (hoA.cells w.heap.size d0 nd).1; have yA4 := (fA 4).trans q4; have yA6 := (fA 6).trans q6)
      | (go_at_call 29; refine (HR.out _ _ _ (H1.out.below (below_drewN _ _ 1)) (by omega) hBW (HI0.out.below (below_drewN _ _ 1))).mono ?_; rintro e wC ⟨⟨aC, cC, zC, rfl, hrowC, hlC⟩, hTC, hoC⟩; have fC := (hoC.cells w.heap.size d0 nd).1; have yC4 := (fC 4).trans q4; have yC6 := (fC 6).trans q6))
  all_goals go_wp2
  all_goals go_ret
  all_goals
    first
      | exact ⟨⟨_, rfl⟩, hTB.below hbE, (((Out.of_below (P := DOut p mf mt r) HB.out).trans hoA.undrew (fun _ _ e => e)).trans hoB (fun _ _ e => e)).trans (Out.of_below hbE) (fun _ _ e => e)⟩
      | exact ⟨⟨_, rfl⟩, hTD.below hbE, (((Out.of_below (P := DOut p mf mt r) HB.out).trans hoC.undrew (fun _ _ e => e)).trans hoD (fun _ _ e => e)).trans (Out.of_below hbE) (fun _ _ e => e)⟩

theorem doK_any {w : World} {B p mf mt r n : Nat} {T : Sto} (h : Duo w B p mf mt r n T) (hn : n ≤ 900) (hB : B ≤ w.heap.size) (x : KDeed) (hx : DeedOk w B x) :
    Calls Tryz.prog 7 #[.pointer (some ⟨p, 0, none⟩), .pointer (some ⟨r, 0, none⟩), deedV x] w (DoPost w B p mf mt r (n + 2) (tDo T x)) := by
  by_cases h0 : x.kind = 0
  · exact doK_0 h hn hB x hx h0
  by_cases h1 : x.kind = 1
  · exact doK_1 h hn hB x hx h1
  by_cases h2 : x.kind = 2
  · exact doK_2 h hn hB x hx h2
  by_cases h3 : x.kind = 3
  · exact doK_3 h hn hB x hx h3
  by_cases h4 : x.kind = 4
  · exact doK_4 h hn hB x hx h4
  by_cases h5 : x.kind = 5
  · exact doK_5 h hn hB x hx h5
  by_cases h6 : x.kind = 6
  · exact doK_6 h hn hB x hx h6
  exact doK_7 h hn hB x hx h0 h1 h2 h3 h4 h5 h6
theorem tDo_ok {T : Sto} (ok : StoOk T) (x : KDeed) (hs : 0 ≤ x.sco ∧ x.sco ≤ 255) : StoOk (tDo T x) := by
  unfold tDo
  repeat' split
  · exact tGrant_ok ok _ _ _ _ hs
  · exact tRefresh_ok ok _ _ _
  · exact ok
  · exact tExch_ok ok _ _ _ hs
  · exact tEnd_ok ok _
  · exact tDrop_ok ok _
  · exact tDrop_ok ok _
  · exact tSweep_ok ok _
end Go.Proofs.YtmnhhomkglffcaaGreatDoor
