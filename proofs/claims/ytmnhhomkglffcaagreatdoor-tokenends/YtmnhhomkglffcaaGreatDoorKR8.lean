/- The reference's Grant: that it ends, and what it leaves. (Printed by gen/kr8.py.) -/
import Derived.Test.YtmnhhomkglffcaaGreatDoorKR7
namespace Go.Proofs.YtmnhhomkglffcaaGreatDoor
open Go.RowKit Go.Maps Go.Sort Go.Shelf
set_option linter.unusedVariables false
set_option maxRecDepth 20000

/-- some family, some token and some error; a store that has at most one more of each -/
def GrantPost (w : World) (B r n m : Nat) (e : Ending) (w' : World) : Prop := (∃ (f : Fam.Sess) (t : Tok.Sess) (z : Int), e = .returned (.tuple #[Fam.sessV f, Tok.sessV t, .int .i64 z])) ∧ Less w' B r (n + 1) (m + 1) ∧ Out (fun k => k = r) w w'
/-- four blocks of the call's own -/
def own4b (w : World) : World := (((w.alloc (.cells #[.int .i64 0, .int .i64 0, .string ⟨#[]⟩, .int .u8 0, .int .i64 0] 35)).alloc (.cells #[.int .i64 0, .int .i64 0, .int .u8 0, .int .i64 0] 55)).alloc (.cells #[.int .i64 0, .int .i64 0, .string ⟨#[]⟩, .int .u8 0, .int .i64 0] 35)).alloc (.cells #[.int .i64 0, .int .i64 0, .int .u8 0, .int .i64 0] 55)
theorem own4b_at (w : World) : (own4b w).heap[w.heap.size]? = some (.cells #[.int .i64 0, .int .i64 0, .string ⟨#[]⟩, .int .u8 0, .int .i64 0] 35 (0, 0)) ∧ (own4b w).heap[w.heap.size + 1]? = some (.cells #[.int .i64 0, .int .i64 0, .int .u8 0, .int .i64 0] 55 (0, 0)) ∧ (own4b w).heap[w.heap.size + 1 + 1]? = some (.cells #[.int .i64 0, .int .i64 0, .string ⟨#[]⟩, .int .u8 0, .int .i64 0] 35 (0, 0)) ∧ (own4b w).heap[w.heap.size + 1 + 1 + 1]? = some (.cells #[.int .i64 0, .int .i64 0, .int .u8 0, .int .i64 0] 55 (0, 0)) ∧ Below w.heap.size w (own4b w) ∧ (own4b w).heap.size = w.heap.size + 4 := by
  unfold own4b
  have t1 := two_blocks w #[.int .i64 0, .int .i64 0, .string ⟨#[]⟩, .int .u8 0, .int .i64 0] #[.int .i64 0, .int .i64 0, .int .u8 0, .int .i64 0] 35 55
  obtain ⟨V, hV⟩ : ∃ V, V = (w.alloc (.cells #[.int .i64 0, .int .i64 0, .string ⟨#[]⟩, .int .u8 0, .int .i64 0] 35)).alloc (.cells #[.int .i64 0, .int .i64 0, .int .u8 0, .int .i64 0] 55) := ⟨_, rfl⟩
  rw [← hV] at t1 ⊢
  have sV : V.heap.size = w.heap.size + 1 + 1 := by rw [hV]; simp
  have t2 := two_blocks V #[.int .i64 0, .int .i64 0, .string ⟨#[]⟩, .int .u8 0, .int .i64 0] #[.int .i64 0, .int .i64 0, .int .u8 0, .int .i64 0] 35 55
  rw [sV] at t2
  exact ⟨(t2.2.2.block _ (by omega)).trans t1.1, (t2.2.2.block _ (by omega)).trans t1.2.1, t2.1, t2.2.1, t1.2.2.trans (t2.2.2.mono (by omega)), by simp; omega⟩
/-- Grant's store behind its own first writes -/
theorem grant_w3 {w w2 : World} {B r : Nat} {a : Option Addr} {c : Nat} {a' : Option Addr} {c' : Nat} {U : Sto} (h : RAt w B r a c a' c' U) (h2 : RAt w2 B r a c a' c' U) (hb : Below w.heap.size w w2) (f : w2.heap[w.heap.size + 1 + 1]? = some (.cells #[.int .i64 0, .int .i64 0, .string ⟨#[]⟩, .int .u8 0, .int .i64 0] 35 (0, 0))) (hr : r < w.heap.size) (nf ses : Int) (cli : ByteArray) (sco nx now : Int) :
    ∃ W3, W3 = (((((((w2.setCell ⟨w.heap.size + 1 + 1, 0, none⟩ (.int .i64 nf)).setCell ⟨w.heap.size + 1 + 1, 1, none⟩ (.int .i64 ses)).setCell ⟨w.heap.size + 1 + 1, 2, none⟩ (.string cli)).setCell ⟨w.heap.size + 1 + 1, 3, none⟩ (.int .u8 sco)).setCell ⟨w.heap.size + 1 + 1, 4, none⟩ (.int .i64 nx)).setCell ⟨r, 0, none⟩ (.int .i64 (wrap64 (U.nf + 1)))).setCell ⟨r, 2, none⟩ (.int .i64 now)) ∧ RAt W3 B r a c a' c' ⟨now, wrap64 (U.nf + 1), U.fs, U.nt, U.ts⟩ ∧ W3.heap.size = w2.heap.size ∧ w.heap.size + 1 + 1 < W3.heap.size ∧ W3.heap[w.heap.size + 1 + 1]? = some (.cells #[.int .i64 nf, .int .i64 ses, .string cli, .int .u8 sco, .int .i64 nx] 35 (0, 0)) ∧ (W3.heap[w.heap.size]? = w2.heap[w.heap.size]? ∧ W3.heap[w.heap.size + 1]? = w2.heap[w.heap.size + 1]?) ∧ Out (fun k => k = r) w W3 := by
  obtain ⟨V, hV⟩ : ∃ V, V = set5 w2 (w.heap.size + 1 + 1) (.int .i64 nf) (.int .i64 ses) (.string cli) (.int .u8 sco) (.int .i64 nx) := ⟨_, rfl⟩
  have hRV := h2.five (g := w.heap.size + 1 + 1) (.int .i64 nf) (.int .i64 ses) (.string cli) (.int .u8 sco) (.int .i64 nx) (fun k hk => by have := (h.lts k hk).2; omega)
  rw [← hV] at hRV
  have fV : V.heap[w.heap.size + 1 + 1]? = some (.cells #[.int .i64 nf, .int .i64 ses, .string cli, .int .u8 sco, .int .i64 nx] 35 (0, 0)) := by rw [hV]; exact set5_same f
  have oV : Out (fun k => k = r) w V := by rw [hV]; exact (Out.of_below (P := fun k => k = r) hb).five (by omega) _ _ _ _ _
  have sV : V.heap.size = w2.heap.size := by rw [hV]; simp [set5, World.setCell]
  have bV : ∀ k, k ≠ w.heap.size + 1 + 1 → V.heap[k]? = w2.heap[k]? := fun k hk => by rw [hV]; exact set5_other hk
  have d2 := (Array.getElem?_eq_some_iff.1 f).1
  refine ⟨(V.setCell ⟨r, 0, none⟩ (.int .i64 (wrap64 (U.nf + 1)))).setCell ⟨r, 2, none⟩ (.int .i64 now), by rw [hV]; rfl, (hRV.set0 _).set2 now, by simp [World.setCell, sV], by simp [World.setCell, sV]; omega, ?_, ⟨?_, ?_⟩, (oV.setCell ⟨r, 0, none⟩ _ rfl).setCell ⟨r, 2, none⟩ _ rfl⟩
  · exact (heap_setCell_other _ _ _ _ (by show w.heap.size + 1 + 1 ≠ r; omega)).trans ((heap_setCell_other _ _ _ _ (by show w.heap.size + 1 + 1 ≠ r; omega)).trans fV)
  · exact (heap_setCell_other _ _ _ _ (by show w.heap.size ≠ r; omega)).trans ((heap_setCell_other _ _ _ _ (by show w.heap.size ≠ r; omega)).trans (bV _ (by omega)))
  · exact (heap_setCell_other _ _ _ _ (by show w.heap.size + 1 ≠ r; omega)).trans ((heap_setCell_other _ _ _ _ (by show w.heap.size + 1 ≠ r; omega)).trans (bV _ (by omega)))
/-- a family and a token laid into cells of the call's own -/
theorem rlays2 {w w5 : World} {g : Nat} {t1 t2 : Nat} {a0 b0 c0 d0 e0 i0 j0 k0 l0 : Value} {P : Nat → Prop} (f5 : w5.heap[g]? = some (.cells #[a0, b0, c0, d0, e0] t1 (0, 0))) (u5 : w5.heap[g + 1]? = some (.cells #[i0, j0, k0, l0] t2 (0, 0)))
    (hg : g = w.heap.size) {B r : Nat} {a : Option Addr} {c : Nat} {a' : Option Addr} {c' : Nat} {U : Sto} (h : RAt w5 B r a c a' c' U) (hk : ∀ k, rBlk r a a' k → k ≠ g ∧ k ≠ g + 1) (o : Out P w w5) (v1 v2 v3 v4 v5 i j k l : Value) :
    ∃ w7, w7 = set4 (set5 w5 g v1 v2 v3 v4 v5) (g + 1) i j k l ∧ RAt w7 B r a c a' c' U ∧ Out P w w7 ∧ (w7.cell? ⟨g, 0, none⟩ = some v1 ∧ w7.cell? ⟨g, 1, none⟩ = some v2 ∧ w7.cell? ⟨g, 2, none⟩ = some v3 ∧ w7.cell? ⟨g, 3, none⟩ = some v4 ∧ w7.cell? ⟨g, 4, none⟩ = some v5) ∧
      w7.cell? ⟨g + 1, 0, none⟩ = some i ∧ w7.cell? ⟨g + 1, 1, none⟩ = some j ∧ w7.cell? ⟨g + 1, 2, none⟩ = some k ∧ w7.cell? ⟨g + 1, 3, none⟩ = some l := by
  have a6 : (set5 w5 g v1 v2 v3 v4 v5).heap[g]? = some (.cells #[v1, v2, v3, v4, v5] t1 (0, 0)) := set5_same f5
  have b6 : (set5 w5 g v1 v2 v3 v4 v5).heap[g + 1]? = some (.cells #[i0, j0, k0, l0] t2 (0, 0)) := (set5_other (by omega)).trans u5
  have a7 : (set4 (set5 w5 g v1 v2 v3 v4 v5) (g + 1) i j k l).heap[g]? = some (.cells #[v1, v2, v3, v4, v5] t1 (0, 0)) := (set4_other (by omega)).trans a6
  have b7 : (set4 (set5 w5 g v1 v2 v3 v4 v5) (g + 1) i j k l).heap[g + 1]? = some (.cells #[i, j, k, l] t2 (0, 0)) := set4_same b6
  exact ⟨_, rfl, (h.five _ _ _ _ _ (fun k' h' => (hk k' h').1)).four _ _ _ _ (fun k' h' => (hk k' h').2), (o.five (by omega) _ _ _ _ _).four (by omega) _ _ _ _,
    ⟨cell_of_row _ _ 0 _ _ _ a7, cell_of_row _ _ 1 _ _ _ a7, cell_of_row _ _ 2 _ _ _ a7, cell_of_row _ _ 3 _ _ _ a7, cell_of_row _ _ 4 _ _ _ a7⟩, cell_of_row _ _ 0 _ _ _ b7, cell_of_row _ _ 1 _ _ _ b7, cell_of_row _ _ 2 _ _ _ b7, cell_of_row _ _ 3 _ _ _ b7⟩

set_option maxHeartbeats 3200000 in
theorem rGrant_any {w : World} {B r : Nat} {a : Option Addr} {c : Nat} {a' : Option Addr} {c' : Nat} {U : Sto} (h : RAt w B r a c a' c' U) (hB : B ≤ w.heap.size) (hl : U.fs.length ≤ 1000000000) (hl' : U.ts.length ≤ 1000000000) (ses : Int) (cli : ByteArray) (sco now : Int) (hc : cli.size ≤ maxLen) :
    Calls Tryz.prog 19 #[.pointer (some ⟨r, 0, none⟩), .int .i64 ses, .string cli, .int .u8 sco, .int .i64 now] w (GrantPost w B r U.fs.length U.ts.length) := by
  have hr := h.lt
  have hbr := h.br
  obtain ⟨W, hW⟩ : ∃ W, W = own4b w := ⟨_, rfl⟩
  have tb := own4b_at w
  rw [← hW] at tb
  obtain ⟨t0, t1, t2, t3, hbW, sW⟩ := tb
  have h1 := h.below hbW
  have u0 := h.c0
  have u1 := h.c1
  have u2 := h.c2
  have c0 := h1.c0
  have c1 := h1.c1
  have c2 := h1.c2
  have c3 := h1.c3
  have Hf := hid (rFamilies_any h1 hl ses)
  have H := hid h
  have H1 := hid h1
  have HB := hid hbW
  have T0 := hid t0
  have T1 := hid t1
  have T2 := hid t2
  have T3 := hid t3
  have SW := hid sW
  have HW : Hid (((((w.alloc (.cells #[.int .i64 0, .int .i64 0, .string ⟨#[]⟩, .int .u8 0, .int .i64 0] 35)).alloc (.cells #[.int .i64 0, .int .i64 0, .int .u8 0, .int .i64 0] 55)).alloc (.cells #[.int .i64 0, .int .i64 0, .string ⟨#[]⟩, .int .u8 0, .int .i64 0] 35)).alloc (.cells #[.int .i64 0, .int .i64 0, .int .u8 0, .int .i64 0] 55)) = W) := hW.symm
  clear h h1 t0 t1 t2 t3 hbW sW hW
  by_cases g1 : ses < 1
  · have g1' : decide (ses < 1) = true := by simpa using g1
    go_enter Tryz.func19, Tryz.ntmps19
    go_wp2
    go_region
    all_goals (try go_wp2)
    rw [HW.out]
    obtain ⟨k0, k1, k2, k3, k4⟩ := row5 (w := W.drew) T0.out
    obtain ⟨m0, m1, m2, m3⟩ := row4 (w := W.drew) T1.out
    exact bodyPost_ret (v := .tuple #[Fam.sessV Fam.sess0, Tok.sessV Tok.sess0, .int .i64 2]) (by simp [results, Tryz.results19, go_sem, Fam.sessV, Fam.sess0, Tok.sessV, Tok.sess0, k0, k1, k2, k3, k4, m0, m1, m2, m3]) rfl ⟨⟨_, _, _, rfl⟩, ⟨_, _, _, _, _, (H1.out.keep (fun _ _ => rfl) : RAt W.drew B r a c a' c' U), by omega, by omega⟩, (Out.of_below (P := fun k => k = r) HB.out).trans (Out.of_below (P := fun k => k = r) (w := W) (w' := W.drew) ((Below.refl _ W).drew)) (fun _ _ e => e)⟩
  have g1' : decide (ses < 1) = false := by simpa using g1
  by_cases g2 : now < 0
  · have g2' : decide (now < 0) = true := by simpa using g2
    go_enter Tryz.func19, Tryz.ntmps19
    go_wp2
    go_region
    all_goals (try go_wp2)
    rw [HW.out]
    obtain ⟨k0, k1, k2, k3, k4⟩ := row5 (w := W.drew) T0.out
    obtain ⟨m0, m1, m2, m3⟩ := row4 (w := W.drew) T1.out
    exact bodyPost_ret (v := .tuple #[Fam.sessV Fam.sess0, Tok.sessV Tok.sess0, .int .i64 2]) (by simp [results, Tryz.results19, go_sem, Fam.sessV, Fam.sess0, Tok.sessV, Tok.sess0, k0, k1, k2, k3, k4, m0, m1, m2, m3]) rfl ⟨⟨_, _, _, rfl⟩, ⟨_, _, _, _, _, (H1.out.keep (fun _ _ => rfl) : RAt W.drew B r a c a' c' U), by omega, by omega⟩, (Out.of_below (P := fun k => k = r) HB.out).trans (Out.of_below (P := fun k => k = r) (w := W) (w' := W.drew) ((Below.refl _ W).drew)) (fun _ _ e => e)⟩
  have g2' : decide (now < 0) = false := by simpa using g2
  by_cases g3 : 1099511627776 < now
  · have g3' : decide (1099511627776 < now) = true := by simpa using g3
    go_enter Tryz.func19, Tryz.ntmps19
    go_wp2
    go_region
    all_goals (try go_wp2)
    rw [HW.out]
    obtain ⟨k0, k1, k2, k3, k4⟩ := row5 (w := W.drew) T0.out
    obtain ⟨m0, m1, m2, m3⟩ := row4 (w := W.drew) T1.out
    exact bodyPost_ret (v := .tuple #[Fam.sessV Fam.sess0, Tok.sessV Tok.sess0, .int .i64 2]) (by simp [results, Tryz.results19, go_sem, Fam.sessV, Fam.sess0, Tok.sessV, Tok.sess0, k0, k1, k2, k3, k4, m0, m1, m2, m3]) rfl ⟨⟨_, _, _, rfl⟩, ⟨_, _, _, _, _, (H1.out.keep (fun _ _ => rfl) : RAt W.drew B r a c a' c' U), by omega, by omega⟩, (Out.of_below (P := fun k => k = r) HB.out).trans (Out.of_below (P := fun k => k = r) (w := W) (w' := W.drew) ((Below.refl _ W).drew)) (fun _ _ e => e)⟩
  have g3' : decide (1099511627776 < now) = false := by simpa using g3
  have Hn := hid (fun W => refIsName_any cli W hc)
  cases g4 : nameB cli.data.toList
  · rw [g4] at Hn
    go_enter Tryz.func19, Tryz.ntmps19
    go_wp2_with (go_at_call 55; refine (Hn.out _).mono ?_; rintro e9 w2 ⟨rfl, rfl⟩)
    go_region
    all_goals (try go_wp2)
    rw [HW.out]
    obtain ⟨k0, k1, k2, k3, k4⟩ := row5 (w := W.drew) T0.out
    obtain ⟨m0, m1, m2, m3⟩ := row4 (w := W.drew) T1.out
    exact bodyPost_ret (v := .tuple #[Fam.sessV Fam.sess0, Tok.sessV Tok.sess0, .int .i64 8]) (by simp [results, Tryz.results19, go_sem, Fam.sessV, Fam.sess0, Tok.sessV, Tok.sess0, k0, k1, k2, k3, k4, m0, m1, m2, m3]) rfl ⟨⟨_, _, _, rfl⟩, ⟨_, _, _, _, _, (H1.out.keep (fun _ _ => rfl) : RAt W.drew B r a c a' c' U), by omega, by omega⟩, (Out.of_below (P := fun k => k = r) HB.out).trans (Out.of_below (P := fun k => k = r) (w := W) (w' := W.drew) ((Below.refl _ W).drew)) (fun _ _ e => e)⟩
  rw [g4] at Hn
  clear g4
  by_cases g5 : now < U.noted
  · have g5' : decide (now < U.noted) = true := by simpa using g5
    have p0 : W.cell? ⟨w.heap.size, 0, none⟩ = some (.int .i64 0) := cell_of_row _ _ 0 _ _ _ T0.out
    have p1 : W.cell? ⟨w.heap.size, 1, none⟩ = some (.int .i64 0) := cell_of_row _ _ 1 _ _ _ T0.out
    have p2 : W.cell? ⟨w.heap.size, 2, none⟩ = some (.string ⟨#[]⟩) := cell_of_row _ _ 2 _ _ _ T0.out
    have p3 : W.cell? ⟨w.heap.size, 3, none⟩ = some (.int .u8 0) := cell_of_row _ _ 3 _ _ _ T0.out
    have p4 : W.cell? ⟨w.heap.size, 4, none⟩ = some (.int .i64 0) := cell_of_row _ _ 4 _ _ _ T0.out
    have pz0 : W.frozen? ⟨w.heap.size, 0, none⟩ = false := frozen_of_row _ _ 0 _ _ T0.out
    have pz1 : W.frozen? ⟨w.heap.size, 1, none⟩ = false := frozen_of_row _ _ 1 _ _ T0.out
    have pz2 : W.frozen? ⟨w.heap.size, 2, none⟩ = false := frozen_of_row _ _ 2 _ _ T0.out
    have pz3 : W.frozen? ⟨w.heap.size, 3, none⟩ = false := frozen_of_row _ _ 3 _ _ T0.out
    have pz4 : W.frozen? ⟨w.heap.size, 4, none⟩ = false := frozen_of_row _ _ 4 _ _ T0.out
    have q0 : W.cell? ⟨w.heap.size + 1, 0, none⟩ = some (.int .i64 0) := cell_of_row _ _ 0 _ _ _ T1.out
    have q1 : W.cell? ⟨w.heap.size + 1, 1, none⟩ = some (.int .i64 0) := cell_of_row _ _ 1 _ _ _ T1.out
    have q2 : W.cell? ⟨w.heap.size + 1, 2, none⟩ = some (.int .u8 0) := cell_of_row _ _ 2 _ _ _ T1.out
    have q3 : W.cell? ⟨w.heap.size + 1, 3, none⟩ = some (.int .i64 0) := cell_of_row _ _ 3 _ _ _ T1.out
    have qz0 : W.frozen? ⟨w.heap.size + 1, 0, none⟩ = false := frozen_of_row _ _ 0 _ _ T1.out
    have qz1 : W.frozen? ⟨w.heap.size + 1, 1, none⟩ = false := frozen_of_row _ _ 1 _ _ T1.out
    have qz2 : W.frozen? ⟨w.heap.size + 1, 2, none⟩ = false := frozen_of_row _ _ 2 _ _ T1.out
    have qz3 : W.frozen? ⟨w.heap.size + 1, 3, none⟩ = false := frozen_of_row _ _ 3 _ _ T1.out
    have s0 : W.cell? ⟨w.heap.size + 1 + 1, 0, none⟩ = some (.int .i64 0) := cell_of_row _ _ 0 _ _ _ T2.out
    have s1 : W.cell? ⟨w.heap.size + 1 + 1, 1, none⟩ = some (.int .i64 0) := cell_of_row _ _ 1 _ _ _ T2.out
    have s2 : W.cell? ⟨w.heap.size + 1 + 1, 2, none⟩ = some (.string ⟨#[]⟩) := cell_of_row _ _ 2 _ _ _ T2.out
    have s3 : W.cell? ⟨w.heap.size + 1 + 1, 3, none⟩ = some (.int .u8 0) := cell_of_row _ _ 3 _ _ _ T2.out
    have s4 : W.cell? ⟨w.heap.size + 1 + 1, 4, none⟩ = some (.int .i64 0) := cell_of_row _ _ 4 _ _ _ T2.out
    have t0 : W.cell? ⟨w.heap.size + 1 + 1 + 1, 0, none⟩ = some (.int .i64 0) := cell_of_row _ _ 0 _ _ _ T3.out
    have t1 : W.cell? ⟨w.heap.size + 1 + 1 + 1, 1, none⟩ = some (.int .i64 0) := cell_of_row _ _ 1 _ _ _ T3.out
    have t2 : W.cell? ⟨w.heap.size + 1 + 1 + 1, 2, none⟩ = some (.int .u8 0) := cell_of_row _ _ 2 _ _ _ T3.out
    have t3 : W.cell? ⟨w.heap.size + 1 + 1 + 1, 3, none⟩ = some (.int .i64 0) := cell_of_row _ _ 3 _ _ _ T3.out
    have d3 : w.heap.size + 1 + 1 + 1 < W.heap.size := by rw [SW.out]; omega
    have d5 : w.heap.size < W.heap.size := by rw [SW.out]; omega
    have d6 : w.heap.size + 1 < W.heap.size := by rw [SW.out]; omega
    have d7 : w.heap.size + 1 + 1 < W.heap.size := by rw [SW.out]; omega
    go_enter Tryz.func19, Tryz.ntmps19
    go_wp2_with (go_at_call 55; refine (Hn.out _).mono ?_; rintro e9 w2 ⟨rfl, rfl⟩; rw [HW.out])
    go_region
    all_goals (try go_wp2)
    all_goals
      show bodyPost _ _ _ _ _ (set4 (set5 W w.heap.size (.int .i64 0) (.int .i64 0) (.string ⟨#[]⟩) (.int .u8 0) (.int .i64 0)) (w.heap.size + 1) (.int .i64 0) (.int .i64 0) (.int .u8 0) (.int .i64 0)).drew
      obtain ⟨w9, hw9, h9, o9, ⟨k0, k1, k2, k3, k4⟩, m0, m1, m2, m3⟩ := rlays2 (P := fun k => k = r) (w := w) T0.out T1.out rfl H1.out (fun k hk => by have := (H.out.lts k hk).2; omega) (Out.of_below HB.out) (.int .i64 0) (.int .i64 0) (.string ⟨#[]⟩) (.int .u8 0) (.int .i64 0) (.int .i64 0) (.int .i64 0) (.int .u8 0) (.int .i64 0)
      rw [← hw9]
      exact bodyPost_ret (v := .tuple #[Fam.sessV Fam.sess0, Tok.sessV Tok.sess0, .int .i64 9]) (by simp [results, Tryz.results19, go_sem, Fam.sessV, Fam.sess0, Tok.sessV, Tok.sess0, k0, k1, k2, k3, k4, m0, m1, m2, m3]) rfl ⟨⟨_, _, _, rfl⟩, ⟨_, _, _, _, _, (h9.keep (fun _ _ => rfl) : RAt w9.drew B r a c a' c' U), by omega, by omega⟩, ⟨o9.os, o9.tape, o9.output, o9.size, o9.block⟩⟩
  have g5' : decide (now < U.noted) = false := by simpa using g5
  by_cases g6 : 1099511627776 < U.nf
  · have g6' : decide (1099511627776 < U.nf) = true := by simpa using g6
    have p0 : W.cell? ⟨w.heap.size, 0, none⟩ = some (.int .i64 0) := cell_of_row _ _ 0 _ _ _ T0.out
    have p1 : W.cell? ⟨w.heap.size, 1, none⟩ = some (.int .i64 0) := cell_of_row _ _ 1 _ _ _ T0.out
    have p2 : W.cell? ⟨w.heap.size, 2, none⟩ = some (.string ⟨#[]⟩) := cell_of_row _ _ 2 _ _ _ T0.out
    have p3 : W.cell? ⟨w.heap.size, 3, none⟩ = some (.int .u8 0) := cell_of_row _ _ 3 _ _ _ T0.out
    have p4 : W.cell? ⟨w.heap.size, 4, none⟩ = some (.int .i64 0) := cell_of_row _ _ 4 _ _ _ T0.out
    have pz0 : W.frozen? ⟨w.heap.size, 0, none⟩ = false := frozen_of_row _ _ 0 _ _ T0.out
    have pz1 : W.frozen? ⟨w.heap.size, 1, none⟩ = false := frozen_of_row _ _ 1 _ _ T0.out
    have pz2 : W.frozen? ⟨w.heap.size, 2, none⟩ = false := frozen_of_row _ _ 2 _ _ T0.out
    have pz3 : W.frozen? ⟨w.heap.size, 3, none⟩ = false := frozen_of_row _ _ 3 _ _ T0.out
    have pz4 : W.frozen? ⟨w.heap.size, 4, none⟩ = false := frozen_of_row _ _ 4 _ _ T0.out
    have q0 : W.cell? ⟨w.heap.size + 1, 0, none⟩ = some (.int .i64 0) := cell_of_row _ _ 0 _ _ _ T1.out
    have q1 : W.cell? ⟨w.heap.size + 1, 1, none⟩ = some (.int .i64 0) := cell_of_row _ _ 1 _ _ _ T1.out
    have q2 : W.cell? ⟨w.heap.size + 1, 2, none⟩ = some (.int .u8 0) := cell_of_row _ _ 2 _ _ _ T1.out
    have q3 : W.cell? ⟨w.heap.size + 1, 3, none⟩ = some (.int .i64 0) := cell_of_row _ _ 3 _ _ _ T1.out
    have qz0 : W.frozen? ⟨w.heap.size + 1, 0, none⟩ = false := frozen_of_row _ _ 0 _ _ T1.out
    have qz1 : W.frozen? ⟨w.heap.size + 1, 1, none⟩ = false := frozen_of_row _ _ 1 _ _ T1.out
    have qz2 : W.frozen? ⟨w.heap.size + 1, 2, none⟩ = false := frozen_of_row _ _ 2 _ _ T1.out
    have qz3 : W.frozen? ⟨w.heap.size + 1, 3, none⟩ = false := frozen_of_row _ _ 3 _ _ T1.out
    have s0 : W.cell? ⟨w.heap.size + 1 + 1, 0, none⟩ = some (.int .i64 0) := cell_of_row _ _ 0 _ _ _ T2.out
    have s1 : W.cell? ⟨w.heap.size + 1 + 1, 1, none⟩ = some (.int .i64 0) := cell_of_row _ _ 1 _ _ _ T2.out
    have s2 : W.cell? ⟨w.heap.size + 1 + 1, 2, none⟩ = some (.string ⟨#[]⟩) := cell_of_row _ _ 2 _ _ _ T2.out
    have s3 : W.cell? ⟨w.heap.size + 1 + 1, 3, none⟩ = some (.int .u8 0) := cell_of_row _ _ 3 _ _ _ T2.out
    have s4 : W.cell? ⟨w.heap.size + 1 + 1, 4, none⟩ = some (.int .i64 0) := cell_of_row _ _ 4 _ _ _ T2.out
    have t0 : W.cell? ⟨w.heap.size + 1 + 1 + 1, 0, none⟩ = some (.int .i64 0) := cell_of_row _ _ 0 _ _ _ T3.out
    have t1 : W.cell? ⟨w.heap.size + 1 + 1 + 1, 1, none⟩ = some (.int .i64 0) := cell_of_row _ _ 1 _ _ _ T3.out
    have t2 : W.cell? ⟨w.heap.size + 1 + 1 + 1, 2, none⟩ = some (.int .u8 0) := cell_of_row _ _ 2 _ _ _ T3.out
    have t3 : W.cell? ⟨w.heap.size + 1 + 1 + 1, 3, none⟩ = some (.int .i64 0) := cell_of_row _ _ 3 _ _ _ T3.out
    have d3 : w.heap.size + 1 + 1 + 1 < W.heap.size := by rw [SW.out]; omega
    have d5 : w.heap.size < W.heap.size := by rw [SW.out]; omega
    have d6 : w.heap.size + 1 < W.heap.size := by rw [SW.out]; omega
    have d7 : w.heap.size + 1 + 1 < W.heap.size := by rw [SW.out]; omega
    go_enter Tryz.func19, Tryz.ntmps19
    go_wp2_with (go_at_call 55; refine (Hn.out _).mono ?_; rintro e9 w2 ⟨rfl, rfl⟩; rw [HW.out])
    go_region
    all_goals (try go_wp2)
    all_goals
      show bodyPost _ _ _ _ _ (set4 (set5 W w.heap.size (.int .i64 0) (.int .i64 0) (.string ⟨#[]⟩) (.int .u8 0) (.int .i64 0)) (w.heap.size + 1) (.int .i64 0) (.int .i64 0) (.int .u8 0) (.int .i64 0)).drew
      obtain ⟨w9, hw9, h9, o9, ⟨k0, k1, k2, k3, k4⟩, m0, m1, m2, m3⟩ := rlays2 (P := fun k => k = r) (w := w) T0.out T1.out rfl H1.out (fun k hk => by have := (H.out.lts k hk).2; omega) (Out.of_below HB.out) (.int .i64 0) (.int .i64 0) (.string ⟨#[]⟩) (.int .u8 0) (.int .i64 0) (.int .i64 0) (.int .i64 0) (.int .u8 0) (.int .i64 0)
      rw [← hw9]
      exact bodyPost_ret (v := .tuple #[Fam.sessV Fam.sess0, Tok.sessV Tok.sess0, .int .i64 7]) (by simp [results, Tryz.results19, go_sem, Fam.sessV, Fam.sess0, Tok.sessV, Tok.sess0, k0, k1, k2, k3, k4, m0, m1, m2, m3]) rfl ⟨⟨_, _, _, rfl⟩, ⟨_, _, _, _, _, (h9.keep (fun _ _ => rfl) : RAt w9.drew B r a c a' c' U), by omega, by omega⟩, ⟨o9.os, o9.tape, o9.output, o9.size, o9.block⟩⟩
  have g6' : decide (1099511627776 < U.nf) = false := by simpa using g6
  by_cases g7 : 1099511627776 < U.nt
  · have g7' : decide (1099511627776 < U.nt) = true := by simpa using g7
    have p0 : W.cell? ⟨w.heap.size, 0, none⟩ = some (.int .i64 0) := cell_of_row _ _ 0 _ _ _ T0.out
    have p1 : W.cell? ⟨w.heap.size, 1, none⟩ = some (.int .i64 0) := cell_of_row _ _ 1 _ _ _ T0.out
    have p2 : W.cell? ⟨w.heap.size, 2, none⟩ = some (.string ⟨#[]⟩) := cell_of_row _ _ 2 _ _ _ T0.out
    have p3 : W.cell? ⟨w.heap.size, 3, none⟩ = some (.int .u8 0) := cell_of_row _ _ 3 _ _ _ T0.out
    have p4 : W.cell? ⟨w.heap.size, 4, none⟩ = some (.int .i64 0) := cell_of_row _ _ 4 _ _ _ T0.out
    have pz0 : W.frozen? ⟨w.heap.size, 0, none⟩ = false := frozen_of_row _ _ 0 _ _ T0.out
    have pz1 : W.frozen? ⟨w.heap.size, 1, none⟩ = false := frozen_of_row _ _ 1 _ _ T0.out
    have pz2 : W.frozen? ⟨w.heap.size, 2, none⟩ = false := frozen_of_row _ _ 2 _ _ T0.out
    have pz3 : W.frozen? ⟨w.heap.size, 3, none⟩ = false := frozen_of_row _ _ 3 _ _ T0.out
    have pz4 : W.frozen? ⟨w.heap.size, 4, none⟩ = false := frozen_of_row _ _ 4 _ _ T0.out
    have q0 : W.cell? ⟨w.heap.size + 1, 0, none⟩ = some (.int .i64 0) := cell_of_row _ _ 0 _ _ _ T1.out
    have q1 : W.cell? ⟨w.heap.size + 1, 1, none⟩ = some (.int .i64 0) := cell_of_row _ _ 1 _ _ _ T1.out
    have q2 : W.cell? ⟨w.heap.size + 1, 2, none⟩ = some (.int .u8 0) := cell_of_row _ _ 2 _ _ _ T1.out
    have q3 : W.cell? ⟨w.heap.size + 1, 3, none⟩ = some (.int .i64 0) := cell_of_row _ _ 3 _ _ _ T1.out
    have qz0 : W.frozen? ⟨w.heap.size + 1, 0, none⟩ = false := frozen_of_row _ _ 0 _ _ T1.out
    have qz1 : W.frozen? ⟨w.heap.size + 1, 1, none⟩ = false := frozen_of_row _ _ 1 _ _ T1.out
    have qz2 : W.frozen? ⟨w.heap.size + 1, 2, none⟩ = false := frozen_of_row _ _ 2 _ _ T1.out
    have qz3 : W.frozen? ⟨w.heap.size + 1, 3, none⟩ = false := frozen_of_row _ _ 3 _ _ T1.out
    have s0 : W.cell? ⟨w.heap.size + 1 + 1, 0, none⟩ = some (.int .i64 0) := cell_of_row _ _ 0 _ _ _ T2.out
    have s1 : W.cell? ⟨w.heap.size + 1 + 1, 1, none⟩ = some (.int .i64 0) := cell_of_row _ _ 1 _ _ _ T2.out
    have s2 : W.cell? ⟨w.heap.size + 1 + 1, 2, none⟩ = some (.string ⟨#[]⟩) := cell_of_row _ _ 2 _ _ _ T2.out
    have s3 : W.cell? ⟨w.heap.size + 1 + 1, 3, none⟩ = some (.int .u8 0) := cell_of_row _ _ 3 _ _ _ T2.out
    have s4 : W.cell? ⟨w.heap.size + 1 + 1, 4, none⟩ = some (.int .i64 0) := cell_of_row _ _ 4 _ _ _ T2.out
    have t0 : W.cell? ⟨w.heap.size + 1 + 1 + 1, 0, none⟩ = some (.int .i64 0) := cell_of_row _ _ 0 _ _ _ T3.out
    have t1 : W.cell? ⟨w.heap.size + 1 + 1 + 1, 1, none⟩ = some (.int .i64 0) := cell_of_row _ _ 1 _ _ _ T3.out
    have t2 : W.cell? ⟨w.heap.size + 1 + 1 + 1, 2, none⟩ = some (.int .u8 0) := cell_of_row _ _ 2 _ _ _ T3.out
    have t3 : W.cell? ⟨w.heap.size + 1 + 1 + 1, 3, none⟩ = some (.int .i64 0) := cell_of_row _ _ 3 _ _ _ T3.out
    have d3 : w.heap.size + 1 + 1 + 1 < W.heap.size := by rw [SW.out]; omega
    have d5 : w.heap.size < W.heap.size := by rw [SW.out]; omega
    have d6 : w.heap.size + 1 < W.heap.size := by rw [SW.out]; omega
    have d7 : w.heap.size + 1 + 1 < W.heap.size := by rw [SW.out]; omega
    go_enter Tryz.func19, Tryz.ntmps19
    go_wp2_with (go_at_call 55; refine (Hn.out _).mono ?_; rintro e9 w2 ⟨rfl, rfl⟩; rw [HW.out])
    go_region
    all_goals (try go_wp2)
    all_goals
      show bodyPost _ _ _ _ _ (set4 (set5 W w.heap.size (.int .i64 0) (.int .i64 0) (.string ⟨#[]⟩) (.int .u8 0) (.int .i64 0)) (w.heap.size + 1) (.int .i64 0) (.int .i64 0) (.int .u8 0) (.int .i64 0)).drew
      obtain ⟨w9, hw9, h9, o9, ⟨k0, k1, k2, k3, k4⟩, m0, m1, m2, m3⟩ := rlays2 (P := fun k => k = r) (w := w) T0.out T1.out rfl H1.out (fun k hk => by have := (H.out.lts k hk).2; omega) (Out.of_below HB.out) (.int .i64 0) (.int .i64 0) (.string ⟨#[]⟩) (.int .u8 0) (.int .i64 0) (.int .i64 0) (.int .i64 0) (.int .u8 0) (.int .i64 0)
      rw [← hw9]
      exact bodyPost_ret (v := .tuple #[Fam.sessV Fam.sess0, Tok.sessV Tok.sess0, .int .i64 7]) (by simp [results, Tryz.results19, go_sem, Fam.sessV, Fam.sess0, Tok.sessV, Tok.sess0, k0, k1, k2, k3, k4, m0, m1, m2, m3]) rfl ⟨⟨_, _, _, rfl⟩, ⟨_, _, _, _, _, (h9.keep (fun _ _ => rfl) : RAt w9.drew B r a c a' c' U), by omega, by omega⟩, ⟨o9.os, o9.tape, o9.output, o9.size, o9.block⟩⟩
  have g7' : decide (1099511627776 < U.nt) = false := by simpa using g7
  go_enter Tryz.func19, Tryz.ntmps19
  go_wp2_with (first
    | (go_at_call 55; refine (Hn.out _).mono ?_; rintro e9 w2 ⟨rfl, rfl⟩; rw [HW.out])
    | (go_at_call 56; refine Hf.out.mono ?_; rintro e9 w2 ⟨⟨sa, sn, sc, rfl⟩, hb2⟩; have b2 := hb2; have d2 := b2.size; rw [SW.out] at b2 d2; have f0 := (hb2.block w.heap.size (by rw [SW.out]; omega)).trans T0.out; have f1 := (hb2.block (w.heap.size + 1) (by rw [SW.out]; omega)).trans T1.out; have f2 := (hb2.block (w.heap.size + 1 + 1) (by rw [SW.out]; omega)).trans T2.out; have f3 := (hb2.block (w.heap.size + 1 + 1 + 1) (by rw [SW.out]; omega)).trans T3.out; have p0 : w2.cell? ⟨w.heap.size, 0, none⟩ = some (.int .i64 0) := cell_of_row _ _ 0 _ _ _ f0; have p1 : w2.cell? ⟨w.heap.size, 1, none⟩ = some (.int .i64 0) := cell_of_row _ _ 1 _ _ _ f0; have p2 : w2.cell? ⟨w.heap.size, 2, none⟩ = some (.string ⟨#[]⟩) := cell_of_row _ _ 2 _ _ _ f0; have p3 : w2.cell? ⟨w.heap.size, 3, none⟩ = some (.int .u8 0) := cell_of_row _ _ 3 _ _ _ f0; have p4 : w2.cell? ⟨w.heap.size, 4, none⟩ = some (.int .i64 0) := cell_of_row _ _ 4 _ _ _ f0; have pz0 : w2.frozen? ⟨w.heap.size, 0, none⟩ = false := frozen_of_row _ _ 0 _ _ f0; have pz1 : w2.frozen? ⟨w.heap.size, 1, none⟩ = false := frozen_of_row _ _ 1 _ _ f0; have pz2 : w2.frozen? ⟨w.heap.size, 2, none⟩ = false := frozen_of_row _ _ 2 _ _ f0; have pz3 : w2.frozen? ⟨w.heap.size, 3, none⟩ = false := frozen_of_row _ _ 3 _ _ f0; have pz4 : w2.frozen? ⟨w.heap.size, 4, none⟩ = false := frozen_of_row _ _ 4 _ _ f0; have q0 : w2.cell? ⟨w.heap.size + 1, 0, none⟩ = some (.int .i64 0) := cell_of_row _ _ 0 _ _ _ f1; have q1 : w2.cell? ⟨w.heap.size + 1, 1, none⟩ = some (.int .i64 0) := cell_of_row _ _ 1 _ _ _ f1; have q2 : w2.cell? ⟨w.heap.size + 1, 2, none⟩ = some (.int .u8 0) := cell_of_row _ _ 2 _ _ _ f1; have q3 : w2.cell? ⟨w.heap.size + 1, 3, none⟩ = some (.int .i64 0) := cell_of_row _ _ 3 _ _ _ f1; have qz0 : w2.frozen? ⟨w.heap.size + 1, 0, none⟩ = false := frozen_of_row _ _ 0 _ _ f1; have qz1 : w2.frozen? ⟨w.heap.size + 1, 1, none⟩ = false := frozen_of_row _ _ 1 _ _ f1; have qz2 : w2.frozen? ⟨w.heap.size + 1, 2, none⟩ = false := frozen_of_row _ _ 2 _ _ f1; have qz3 : w2.frozen? ⟨w.heap.size + 1, 3, none⟩ = false := frozen_of_row _ _ 3 _ _ f1; have s0 : w2.cell? ⟨w.heap.size + 1 + 1, 0, none⟩ = some (.int .i64 0) := cell_of_row _ _ 0 _ _ _ f2; have s1 : w2.cell? ⟨w.heap.size + 1 + 1, 1, none⟩ = some (.int .i64 0) := cell_of_row _ _ 1 _ _ _ f2; have s2 : w2.cell? ⟨w.heap.size + 1 + 1, 2, none⟩ = some (.string ⟨#[]⟩) := cell_of_row _ _ 2 _ _ _ f2; have s3 : w2.cell? ⟨w.heap.size + 1 + 1, 3, none⟩ = some (.int .u8 0) := cell_of_row _ _ 3 _ _ _ f2; have s4 : w2.cell? ⟨w.heap.size + 1 + 1, 4, none⟩ = some (.int .i64 0) := cell_of_row _ _ 4 _ _ _ f2; have sz0 : w2.frozen? ⟨w.heap.size + 1 + 1, 0, none⟩ = false := frozen_of_row _ _ 0 _ _ f2; have sz1 : w2.frozen? ⟨w.heap.size + 1 + 1, 1, none⟩ = false := frozen_of_row _ _ 1 _ _ f2; have sz2 : w2.frozen? ⟨w.heap.size + 1 + 1, 2, none⟩ = false := frozen_of_row _ _ 2 _ _ f2; have sz3 : w2.frozen? ⟨w.heap.size + 1 + 1, 3, none⟩ = false := frozen_of_row _ _ 3 _ _ f2; have sz4 : w2.frozen? ⟨w.heap.size + 1 + 1, 4, none⟩ = false := frozen_of_row _ _ 4 _ _ f2; have t0 : w2.cell? ⟨w.heap.size + 1 + 1 + 1, 0, none⟩ = some (.int .i64 0) := cell_of_row _ _ 0 _ _ _ f3; have t1 : w2.cell? ⟨w.heap.size + 1 + 1 + 1, 1, none⟩ = some (.int .i64 0) := cell_of_row _ _ 1 _ _ _ f3; have t2 : w2.cell? ⟨w.heap.size + 1 + 1 + 1, 2, none⟩ = some (.int .u8 0) := cell_of_row _ _ 2 _ _ _ f3; have t3 : w2.cell? ⟨w.heap.size + 1 + 1 + 1, 3, none⟩ = some (.int .i64 0) := cell_of_row _ _ 3 _ _ _ f3; have h2 := H1.out.below hb2; have x0 := h2.c0; have x2 := h2.c2; have x3 := h2.c3; have xz0 := h2.z 0; have xz2 := h2.z 2; have xz3 := h2.z 3; have H2 := hid h2; have B2 := hid (HB.out.trans (hb2.mono HB.out.size)); have F0 := hid f0; have F1 := hid f1; have F2 := hid f2; have F3 := hid f3; have e1 : r ≠ w.heap.size := (by omega); have e2 : r ≠ w.heap.size + 1 := (by omega); have e3 : r ≠ w.heap.size + 1 + 1 := (by omega); have e4 : w.heap.size + 1 + 1 ≠ r := (by omega); have d3 : w.heap.size + 1 + 1 + 1 < w2.heap.size := (by omega); have d4 : r < w2.heap.size := (by omega); have d5 : w.heap.size < w2.heap.size := (by omega); have d6 : w.heap.size + 1 < w2.heap.size := (by omega); have d7 : w.heap.size + 1 + 1 < w2.heap.size := (by omega); clear b2 d2 hb2 f0 f1 f2 f3 h2)
    | (at_builtin; refine Fam.app_sess _ rfl _ _ rfl W3.heap.size v4 U.fs rfl R4.out ⟨U.nf, ses, cli, sco, 1⟩ rfl (by omega) B4.out.size ?_; intro v5 w5 hrow5 hg5; obtain ⟨g5, cp5, rfl, hg5l, _⟩ := Fam.own_block hrow5 (by simp); have hb5 := B4.out.trans (more_below R4.out B4.out.size hg5); have h5 := H3.out.below hb5; have x5 := h5.c3; have xz5 := h5.z 3; have R5 := hid hrow5; have B5 := hid hb5; have H5 := hid h5; have G5 : Hid (W3.heap.size ≤ g5) := hg5l; clear hrow5 hg5 hb5 h5 hg5l)
    | (at_builtin; obtain ⟨W3, hW3, h3, zs3, z3, f3, t3, g3⟩ := grant_w3 H.out H2.out B2.out F2.out hr U.nf ses cli sco 1 now; rw [← hW3]; refine Fam.app_all _ rfl _ _ rfl W3.heap.size rfl B a c U.fs h3.rowf rfl (by omega) (Nat.le_refl _) ?_; intro v4 w4 hrow4 hg4; have hb4 := below_of_grown hg4; have f4 := (hb4.block (w.heap.size + 1 + 1) z3).trans f3; clear s0 s1 s2 s4; have s0 : w4.cell? ⟨w.heap.size + 1 + 1, 0, none⟩ = some (.int .i64 U.nf) := cell_of_row _ _ 0 _ _ _ f4; have s1 : w4.cell? ⟨w.heap.size + 1 + 1, 1, none⟩ = some (.int .i64 ses) := cell_of_row _ _ 1 _ _ _ f4; have s2 : w4.cell? ⟨w.heap.size + 1 + 1, 2, none⟩ = some (.string cli) := cell_of_row _ _ 2 _ _ _ f4; have s3 : w4.cell? ⟨w.heap.size + 1 + 1, 3, none⟩ = some (.int .u8 sco) := cell_of_row _ _ 3 _ _ _ f4; have s4 : w4.cell? ⟨w.heap.size + 1 + 1, 4, none⟩ = some (.int .i64 1) := cell_of_row _ _ 4 _ _ _ f4; have R4 := hid hrow4; have B4 := hid hb4; have H3 := hid h3; have Z3 := hid z3; have F3' := hid f3; have T3' := hid t3; have G3 := hid g3; have HW3 := hid hW3; clear hrow4 hg4 hb4 f4 h3 zs3 z3 f3 t3 g3 hW3)
    | go_in)
  · go_region
    all_goals (try go_wp2)
    all_goals
      show bodyPost _ _ _ _ _ (set4 (set5 w2 w.heap.size (.int .i64 0) (.int .i64 0) (.string ⟨#[]⟩) (.int .u8 0) (.int .i64 0)) (w.heap.size + 1) (.int .i64 0) (.int .i64 0) (.int .u8 0) (.int .i64 0)).drew
      obtain ⟨w9, hw9, h9, o9, ⟨k0, k1, k2, k3, k4⟩, m0, m1, m2, m3⟩ := rlays2 (P := fun k => k = r) (w := w) F0.out F1.out rfl H2.out (fun k hk => by have := (H.out.lts k hk).2; omega) (Out.of_below B2.out) (.int .i64 0) (.int .i64 0) (.string ⟨#[]⟩) (.int .u8 0) (.int .i64 0) (.int .i64 0) (.int .i64 0) (.int .u8 0) (.int .i64 0)
      rw [← hw9]
      exact bodyPost_ret (v := .tuple #[Fam.sessV Fam.sess0, Tok.sessV Tok.sess0, .int .i64 23]) (by simp [results, Tryz.results19, go_sem, Fam.sessV, Fam.sess0, Tok.sessV, Tok.sess0, k0, k1, k2, k3, k4, m0, m1, m2, m3]) rfl ⟨⟨_, _, _, rfl⟩, ⟨_, _, _, _, _, (h9.keep (fun _ _ => rfl) : RAt w9.drew B r a c a' c' U), by omega, by omega⟩, ⟨o9.os, o9.tape, o9.output, o9.size, o9.block⟩⟩
  obtain ⟨W6, hW6⟩ : ∃ W6, W6 = w5.setCell ⟨r, 3, none⟩ (.slice (some ⟨g5, 0, none⟩) (U.fs.length + 1) cp5) := ⟨_, rfl⟩
  have hW6' : W6 = w5.setCell ⟨r, 3, none⟩ (.slice (some ⟨g5, 0, none⟩) (U.fs ++ [(⟨U.nf, ses, cli, sco, 1⟩ : Fam.Sess)]).length cp5) := by rw [hW6]; simp
  have n3 := Z3.out
  have hB3 : r < W3.heap.size := by omega
  have h6 := H5.out.set3 (R5.out.mono (by omega)) (own_ne' R5.out hB3)
  rw [← hW6'] at h6
  have blk : ∀ k, k < W3.heap.size → k ≠ r → W6.heap[k]? = W3.heap[k]? := fun k hk hne => by rw [hW6]; exact (heap_setCell_other _ _ _ _ hne).trans (B5.out.block k hk)
  have t6 := (blk (w.heap.size + 1 + 1) (by omega) (by omega)).trans F3'.out
  have f6 := (blk w.heap.size (by omega) (by omega)).trans (T3'.out.1.trans F0.out)
  have u6 := (blk (w.heap.size + 1) (by omega) (by omega)).trans (T3'.out.2.trans F1.out)
  have s6 : W6.heap.size = w5.heap.size := by rw [hW6]; simp [World.setCell]
  have o6 : Out (fun k => k = r) w W6 := by
    rw [hW6]
    exact (G3.out.trans (Out.of_below (P := fun k => k = r) B5.out) (fun _ _ e => e)).setCell _ _ rfl
  have h6d : RAt W6.drew B r (some ⟨g5, 0, none⟩) cp5 a' c' ⟨now, wrap64 (U.nf + 1), (U.fs ++ [(⟨U.nf, ses, cli, sco, 1⟩ : Fam.Sess)]), U.nt, U.ts⟩ := h6.keep (fun _ _ => rfl)
  have Hfr := hid (fun (fam sco unt : Int) => rFresh_any h6d (by show B ≤ W6.heap.size; have := B5.out.size; omega) hl' fam sco unt)
  obtain ⟨g, hg⟩ : ∃ g, g = w.heap.size := ⟨_, rfl⟩
  rw [← hg] at t6 f6 u6 n3
  have j0 : W6.cell? ⟨g + 1 + 1, 0, none⟩ = some (.int .i64 U.nf) := cell_of_row _ _ 0 _ _ _ t6
  have j1 : W6.cell? ⟨g + 1 + 1, 1, none⟩ = some (.int .i64 ses) := cell_of_row _ _ 1 _ _ _ t6
  have j2 : W6.cell? ⟨g + 1 + 1, 2, none⟩ = some (.string cli) := cell_of_row _ _ 2 _ _ _ t6
  have j3 : W6.cell? ⟨g + 1 + 1, 3, none⟩ = some (.int .u8 sco) := cell_of_row _ _ 3 _ _ _ t6
  have j4 : W6.cell? ⟨g + 1 + 1, 4, none⟩ = some (.int .i64 1) := cell_of_row _ _ 4 _ _ _ t6
  have hdk := (Array.getElem?_eq_some_iff.1 t6).1
  have hdg := (Array.getElem?_eq_some_iff.1 f6).1
  have hdu := (Array.getElem?_eq_some_iff.1 u6).1
  have hgr : g ≠ r := by omega
  have hgr1 : g + 1 ≠ r := by omega
  have hgr2 : g + 1 + 1 ≠ r := by omega
  rw [← hW6, ← hg]
  have HG := hid hg
  have T6 := hid t6
  have F6 := hid f6
  have U6 := hid u6
  have O6 := hid o6
  have H6 := hid h6
  have S6 := hid s6
  have HL : Hid (∀ ad, a' = some ad → ad.block < g) := fun ad e => by have := (H.out.lts ad.block (.inr (.inr ⟨ad, e, rfl⟩))).2; omega
  have HL5 : Hid (g + 1 < g5) := (by have := G5.out; show _ < _; omega)
  clear t6 f6 u6 o6 h6 s6 hg h6d blk hW6 hW6' s0 s1 s2 s3 s4 p0 p1 p2 p3 p4 q0 q1 q2 q3 t0 t1 t2 t3 x0 x2 x3 c0 c1 c2 c3 u0 u1 u2 x5 xz5
  go_region_with (go_at_call 57; refine (Hfr.out _ _ _).mono ?_; rintro e9 w7 ⟨y, x, a7, c7, rfl, h7, o7, hn7⟩; unfold Tok.sessV; have r7 := (o7.block (g + 1 + 1) hdk hgr2).trans T6.out; have f7 := (o7.block g hdg hgr).trans F6.out; have u7 := (o7.block (g + 1) hdu hgr1).trans U6.out; have y0 : w7.cell? ⟨g + 1 + 1, 0, none⟩ = some (.int .i64 U.nf) := cell_of_row _ _ 0 _ _ _ r7; have y1 : w7.cell? ⟨g + 1 + 1, 1, none⟩ = some (.int .i64 ses) := cell_of_row _ _ 1 _ _ _ r7; have y2 : w7.cell? ⟨g + 1 + 1, 2, none⟩ = some (.string cli) := cell_of_row _ _ 2 _ _ _ r7; have y3 : w7.cell? ⟨g + 1 + 1, 3, none⟩ = some (.int .u8 sco) := cell_of_row _ _ 3 _ _ _ r7; have y4 : w7.cell? ⟨g + 1 + 1, 4, none⟩ = some (.int .i64 1) := cell_of_row _ _ 4 _ _ _ r7; have p0 : w7.cell? ⟨g, 0, none⟩ = some (.int .i64 0) := cell_of_row _ _ 0 _ _ _ f7; have p1 : w7.cell? ⟨g, 1, none⟩ = some (.int .i64 0) := cell_of_row _ _ 1 _ _ _ f7; have p2 : w7.cell? ⟨g, 2, none⟩ = some (.string ⟨#[]⟩) := cell_of_row _ _ 2 _ _ _ f7; have p3 : w7.cell? ⟨g, 3, none⟩ = some (.int .u8 0) := cell_of_row _ _ 3 _ _ _ f7; have p4 : w7.cell? ⟨g, 4, none⟩ = some (.int .i64 0) := cell_of_row _ _ 4 _ _ _ f7; have v0 : w7.frozen? ⟨g, 0, none⟩ = false := frozen_of_row _ _ 0 _ _ f7; have v1 : w7.frozen? ⟨g, 1, none⟩ = false := frozen_of_row _ _ 1 _ _ f7; have v2 : w7.frozen? ⟨g, 2, none⟩ = false := frozen_of_row _ _ 2 _ _ f7; have v3 : w7.frozen? ⟨g, 3, none⟩ = false := frozen_of_row _ _ 3 _ _ f7; have v4 : w7.frozen? ⟨g, 4, none⟩ = false := frozen_of_row _ _ 4 _ _ f7; have q0 : w7.cell? ⟨g + 1, 0, none⟩ = some (.int .i64 0) := cell_of_row _ _ 0 _ _ _ u7; have q1 : w7.cell? ⟨g + 1, 1, none⟩ = some (.int .i64 0) := cell_of_row _ _ 1 _ _ _ u7; have q2 : w7.cell? ⟨g + 1, 2, none⟩ = some (.int .u8 0) := cell_of_row _ _ 2 _ _ _ u7; have q3 : w7.cell? ⟨g + 1, 3, none⟩ = some (.int .i64 0) := cell_of_row _ _ 3 _ _ _ u7; have l0 : w7.frozen? ⟨g + 1, 0, none⟩ = false := frozen_of_row _ _ 0 _ _ u7; have l1 : w7.frozen? ⟨g + 1, 1, none⟩ = false := frozen_of_row _ _ 1 _ _ u7; have l2 : w7.frozen? ⟨g + 1, 2, none⟩ = false := frozen_of_row _ _ 2 _ _ u7; have l3 : w7.frozen? ⟨g + 1, 3, none⟩ = false := frozen_of_row _ _ 3 _ _ u7; have hdk7 := (Array.getElem?_eq_some_iff.1 r7).1; have hdf7 := (Array.getElem?_eq_some_iff.1 f7).1; have hdt7 := (Array.getElem?_eq_some_iff.1 u7).1; have H7 := hid h7; have O7 := hid o7; have N7 := hid hn7; have F7 := hid f7; have U7 := hid u7; clear h7 o7 r7 f7 u7 hn7)
  all_goals (try go_wp2)
  all_goals
    show bodyPost _ _ _ _ _ (set4 (set5 w7 g (.int .i64 U.nf) (.int .i64 ses) (.string cli) (.int .u8 sco) (.int .i64 1)) (g + 1) (.int .i64 y.id) (.int .i64 y.fam) (.int .u8 y.sco) (.int .i64 y.unt))
    have hg := HG.out
    obtain ⟨w9, hw9, h9, o9, ⟨k0, k1, k2, k3, k4⟩, m0, m1, m2, m3⟩ := rlays2 (w := w) F7.out U7.out hg H7.out (by
      rintro k (rfl | ⟨ad, e, rfl⟩ | ⟨ad, e, rfl⟩)
      · omega
      · cases e; show g5 ≠ g ∧ g5 ≠ g + 1; have := HL5.out; omega
      · have := N7.out ad e; have h8 : W6.drew.heap.size = W6.heap.size := rfl; omega) (O6.out.trans (Out.undrew O7.out) (fun _ _ e => e)) (.int .i64 U.nf) (.int .i64 ses) (.string cli) (.int .u8 sco) (.int .i64 1) (.int .i64 y.id) (.int .i64 y.fam) (.int .u8 y.sco) (.int .i64 y.unt)
    rw [← hw9]
    exact bodyPost_ret (v := .tuple #[Fam.sessV ⟨U.nf, ses, cli, sco, 1⟩, Tok.sessV y, .int .i64 0]) (by simp [results, Tryz.results19, go_sem, Fam.sessV, Tok.sessV, k0, k1, k2, k3, k4, m0, m1, m2, m3]) rfl ⟨⟨_, _, _, rfl⟩, ⟨_, _, _, _, _, h9, by simp, by simp⟩, o9⟩
end Go.Proofs.YtmnhhomkglffcaaGreatDoor
