/- The reference's Refresh: that it ends, and what it leaves. (Printed by gen/kr9.py.) -/
import Derived.Test.YtmnhhomkglffcaaGreatDoorKR8
namespace Go.Proofs.YtmnhhomkglffcaaGreatDoor
open Go.RowKit Go.Maps Go.Sort Go.Shelf
set_option linter.unusedVariables false
set_option maxRecDepth 20000

/-- drop, as Refresh calls it -/
theorem ref_drop {w W : World} {B r : Nat} {a : Option Addr} {c : Nat} {a' : Option Addr} {c' : Nat} {U : Sto} (h : RAt w B r a c a' c' U) (h1 : RAt W B r a c a' c' U) (hb : Below w.heap.size w W) (t0 : W.heap[w.heap.size]? = some (.cells #[.int .i64 0, .int .i64 0, .string ⟨#[]⟩, .int .u8 0, .int .i64 0] 35 (0, 0))) (t1 : W.heap[w.heap.size + 1]? = some (.cells #[.int .i64 0, .int .i64 0, .int .u8 0, .int .i64 0] 55 (0, 0))) (hB : B ≤ w.heap.size) (hl : U.fs.length ≤ 1000000000) (hl' : U.ts.length ≤ 1000000000) (s : Fam.Sess) (fam : Int) :
    Calls Tryz.prog 60 #[.pointer (some ⟨r, 0, none⟩), .int .i64 fam] (W.alloc (.cells #[.int .i64 s.id, .int .i64 s.ses, .string s.cli, .int .u8 s.sco, .int .i64 s.nxt] 35)) fun e w4 => e = .returned (.tuple #[]) ∧ (∃ a4 c4 a4' c4' U4, RAt w4 B r a4 c4 a4' c4' U4 ∧ U4.fs.length ≤ U.fs.length ∧ U4.ts.length ≤ U.ts.length ∧ ∀ k, rBlk r a4 a4' k → k ≠ w.heap.size ∧ k ≠ w.heap.size + 1) ∧ Out (fun k => k = r) w w4 ∧ w4.heap[w.heap.size]? = some (.cells #[.int .i64 0, .int .i64 0, .string ⟨#[]⟩, .int .u8 0, .int .i64 0] 35 (0, 0)) ∧ w4.heap[w.heap.size + 1]? = some (.cells #[.int .i64 0, .int .i64 0, .int .u8 0, .int .i64 0] 55 (0, 0)) := by
  have bA : Below W.heap.size W (W.alloc (.cells #[.int .i64 s.id, .int .i64 s.ses, .string s.cli, .int .u8 s.sco, .int .i64 s.nxt] 35)) := (Below.refl _ W).alloc (Nat.le_refl _) _
  have hr := h.lt
  refine (rDrop_any (h1.below bA) (by have := hb.size; have := bA.size; omega) hl hl' fam).mono ?_
  rintro e w4 ⟨rfl, ⟨a4, c4, a4', c4', U4, h4, h41, h42, hnew⟩, ho⟩
  have e0 := heap_more t0 (Array.getElem?_eq_some_iff.1 t0).1 (.cells #[.int .i64 s.id, .int .i64 s.ses, .string s.cli, .int .u8 s.sco, .int .i64 s.nxt] 35)
  have e1 := heap_more t1 (Array.getElem?_eq_some_iff.1 t1).1 (.cells #[.int .i64 s.id, .int .i64 s.ses, .string s.cli, .int .u8 s.sco, .int .i64 s.nxt] 35)
  have dA := (Array.getElem?_eq_some_iff.1 e1).1
  exact ⟨rfl, ⟨a4, c4, a4', c4', U4, h4, h41, h42, fun k hk => by rcases hnew k hk with e9 | e9 <;> omega⟩, ((Out.of_below (P := fun k => k = r) hb).trans (Out.of_below bA) (fun _ _ e => e)).trans ho (fun _ _ e => e), (ho.block _ (Array.getElem?_eq_some_iff.1 e0).1 (by show w.heap.size ≠ r; omega)).trans e0, (ho.block _ (Array.getElem?_eq_some_iff.1 e1).1 (by show w.heap.size + 1 ≠ r; omega)).trans e1⟩
/-- Refresh's store behind its own first writes -/
theorem ref_w3 {w W : World} {B r : Nat} {a : Option Addr} {c : Nat} {a' : Option Addr} {c' : Nat} {U : Sto} (h : RAt w B r a c a' c' U) (h1 : RAt W B r a c a' c' U) (hb : Below w.heap.size w W) (t0 : W.heap[w.heap.size]? = some (.cells #[.int .i64 0, .int .i64 0, .string ⟨#[]⟩, .int .u8 0, .int .i64 0] 35 (0, 0))) (t1 : W.heap[w.heap.size + 1]? = some (.cells #[.int .i64 0, .int .i64 0, .int .u8 0, .int .i64 0] 55 (0, 0))) (s : Fam.Sess) (now : Int) :
    ∃ V, V = (W.setCell ⟨r, 2, none⟩ (.int .i64 now)).alloc (.cells #[.int .i64 s.id, .int .i64 s.ses, .string s.cli, .int .u8 s.sco, .int .i64 s.nxt] 35) ∧ RAt V B r a c a' c' ⟨now, U.nf, U.fs, U.nt, U.ts⟩ ∧ V.heap[w.heap.size]? = some (.cells #[.int .i64 0, .int .i64 0, .string ⟨#[]⟩, .int .u8 0, .int .i64 0] 35 (0, 0)) ∧ V.heap[w.heap.size + 1]? = some (.cells #[.int .i64 0, .int .i64 0, .int .u8 0, .int .i64 0] 55 (0, 0)) ∧ V.heap[W.heap.size]? = some (.cells #[.int .i64 s.id, .int .i64 s.ses, .string s.cli, .int .u8 s.sco, .int .i64 s.nxt] 35 (0, 0)) ∧ Out (fun k => k = r) w V ∧ W.heap.size < V.heap.size := by
  have hr := h.lt
  obtain ⟨X, hX⟩ : ∃ X, X = W.setCell ⟨r, 2, none⟩ (.int .i64 now) := ⟨_, rfl⟩
  have hRX := h1.set2 now
  rw [← hX] at hRX ⊢
  have sX : X.heap.size = W.heap.size := by rw [hX]; simp [World.setCell]
  have f0 : X.heap[w.heap.size]? = some (.cells #[.int .i64 0, .int .i64 0, .string ⟨#[]⟩, .int .u8 0, .int .i64 0] 35 (0, 0)) := by rw [hX]; exact (heap_setCell_other _ _ _ _ (by show w.heap.size ≠ r; omega)).trans t0
  have f1 : X.heap[w.heap.size + 1]? = some (.cells #[.int .i64 0, .int .i64 0, .int .u8 0, .int .i64 0] 55 (0, 0)) := by rw [hX]; exact (heap_setCell_other _ _ _ _ (by show w.heap.size + 1 ≠ r; omega)).trans t1
  have oX : Out (fun k => k = r) w X := by rw [hX]; exact (Out.of_below (P := fun k => k = r) hb).setCell _ _ rfl
  have bX : Below X.heap.size X (X.alloc (.cells #[.int .i64 s.id, .int .i64 s.ses, .string s.cli, .int .u8 s.sco, .int .i64 s.nxt] 35)) := (Below.refl _ X).alloc (Nat.le_refl _) _
  have tX := (MapKept.heap_alloc X (.cells #[.int .i64 s.id, .int .i64 s.ses, .string s.cli, .int .u8 s.sco, .int .i64 s.nxt] 35)).1
  rw [sX] at tX
  exact ⟨_, rfl, hRX.below bX, heap_more f0 (Array.getElem?_eq_some_iff.1 f0).1 _, heap_more f1 (Array.getElem?_eq_some_iff.1 f1).1 _, tX, oX.trans (Out.of_below bX) (fun _ _ e => e), by simp; omega⟩
/-- the family is laid into the row, and the row into the store -/
theorem ref_w6 {w4 : World} {B B' r g c4 k : Nat} {a : Option Addr} {c : Nat} {a' : Option Addr} {c' : Nat} {U : Sto} (h : RAt w4 B r a c a' c' U) (hrow : w4.ownsRow B' 35 5 (.slice (some ⟨g, 0, none⟩) U.fs.length c4) U.fs.length (Fam.sCells U.fs)) (hk : k < U.fs.length) (s : Fam.Sess) {w0 : World} (hB : B ≤ w0.heap.size) (hB' : w0.heap.size ≤ B') (hr : r < B') :
    ∃ W6, W6 = (((((w4.setCell ⟨g, k * 5, none⟩ (.int .i64 s.id)).setCell ⟨g, k * 5 + 1, none⟩ (.int .i64 s.ses)).setCell ⟨g, k * 5 + 2, none⟩ (.string s.cli)).setCell ⟨g, k * 5 + 3, none⟩ (.int .u8 s.sco)).setCell ⟨g, k * 5 + 4, none⟩ (.int .i64 s.nxt)).setCell ⟨r, 3, none⟩ (.slice (some ⟨g, 0, none⟩) U.fs.length c4) ∧
      RAt W6 B r (some ⟨g, 0, none⟩) c4 a' c' ⟨U.noted, U.nf, U.fs.set k s, U.nt, U.ts⟩ ∧ (∀ j, j ≠ g → j ≠ r → W6.heap[j]? = w4.heap[j]?) ∧ W6.heap.size = w4.heap.size ∧ ∀ (P : Nat → Prop) (w : World), Out P w w4 → P r → w.heap.size ≤ g → Out P w W6 := by
  have own5 := Fam.own_set hrow k hk s
  obtain ⟨X, hX⟩ : ∃ X, X = (((((w4.setCell ⟨g, k * 5, none⟩ (.int .i64 s.id)).setCell ⟨g, k * 5 + 1, none⟩ (.int .i64 s.ses)).setCell ⟨g, k * 5 + 2, none⟩ (.string s.cli)).setCell ⟨g, k * 5 + 3, none⟩ (.int .u8 s.sco)).setCell ⟨g, k * 5 + 4, none⟩ (.int .i64 s.nxt)) := ⟨_, rfl⟩
  rw [← hX] at own5 ⊢
  have oth : ∀ j, j ≠ g → X.heap[j]? = w4.heap[j]? := fun j h1 => by
    rw [hX, heap_setCell_other _ _ _ _ h1, heap_setCell_other _ _ _ _ h1, heap_setCell_other _ _ _ _ h1, heap_setCell_other _ _ _ _ h1, heap_setCell_other _ _ _ _ h1]
  have sX : X.heap.size = w4.heap.size := by rw [hX]; simp [World.setCell]
  have hgB := (hrow.lt g rfl).1
  have e1 : (U.fs.set k s).length = U.fs.length := List.length_set
  have hgr : r ≠ g := by omega
  have outX : ∀ (P : Nat → Prop) (w : World), Out P w w4 → w.heap.size ≤ g → Out P w X := fun P w h hg => by
    rw [hX]
    exact ((((h.setNew ⟨g, k * 5, none⟩ _ hg).setNew ⟨g, k * 5 + 1, none⟩ _ hg).setNew ⟨g, k * 5 + 2, none⟩ _ hg).setNew ⟨g, k * 5 + 3, none⟩ _ hg).setNew ⟨g, k * 5 + 4, none⟩ _ hg
  have hne : (Value.slice (some ⟨g, 0, none⟩) U.fs.length c4).ownBlock ≠ some r := fun e => hgr (by injection e with e; exact e.symm)
  clear hX
  refine ⟨_, rfl, ⟨?_, ?_, ?_, h.br, ?_, h.net⟩, fun j h1 h2 => (heap_setCell_other _ _ _ _ h2).trans (oth j h1), ?_, fun P w ho hp hg => (outX P w ho hg).setCell _ _ hp⟩
  · rw [heap_setCell_same _ _ _ _ _ _ ((oth r hgr).trans h.obj)]
    show _ = some (Obj.cells #[_, _, _, .slice _ (U.fs.set k s).length _, _] _ _)
    rw [e1]
    rfl
  · show World.ownsRow _ B _ 5 (.slice _ (U.fs.set k s).length _) (U.fs.set k s).length _
    rw [e1]
    exact row_set (own5.mono (by omega)) hne _ _
  · exact row_set (row_kept h.rowt (fun ad e => oth _ (fun e2 => row_apart hrow h.rowt (by decide) ad e (by rw [e2]; rfl)))) h.net _ _
  · show (Value.slice _ (U.fs.set k s).length _).ownBlock ≠ _
    rw [e1]
    exact hne
  · rw [← sX]
    simp [World.setCell]

set_option maxHeartbeats 3200000 in
theorem rRefresh_any {w : World} {B r : Nat} {a : Option Addr} {c : Nat} {a' : Option Addr} {c' : Nat} {U : Sto} (h : RAt w B r a c a' c' U) (hB : B ≤ w.heap.size) (hl : U.fs.length ≤ 1000000000) (hl' : U.ts.length ≤ 1000000000) (fam num now : Int) :
    Calls Tryz.prog 20 #[.pointer (some ⟨r, 0, none⟩), .int .i64 fam, .int .i64 num, .int .i64 now] w (GrantPost w B r U.fs.length U.ts.length) := by
  have hr := h.lt
  have hbr := h.br
  obtain ⟨W, hW⟩ : ∃ W, W = (w.alloc (.cells #[.int .i64 0, .int .i64 0, .string ⟨#[]⟩, .int .u8 0, .int .i64 0] 35)).alloc (.cells #[.int .i64 0, .int .i64 0, .int .u8 0, .int .i64 0] 55) := ⟨_, rfl⟩
  have tb := two_blocks w #[.int .i64 0, .int .i64 0, .string ⟨#[]⟩, .int .u8 0, .int .i64 0] #[.int .i64 0, .int .i64 0, .int .u8 0, .int .i64 0] 35 55
  rw [← hW] at tb
  obtain ⟨t0, t1, hbW⟩ := tb
  have sW : W.heap.size = w.heap.size + 1 + 1 := by rw [hW]; simp
  have h1 := h.below hbW
  have Ht := hid (rTime_any h1 now)
  have Hf := hid (rFind_any h1 hl fam)
  have H := hid h
  have H1 := hid h1
  have HB := hid hbW
  have T0 := hid t0
  have T1 := hid t1
  have SW := hid sW
  have HW : Hid (((w.alloc (.cells #[.int .i64 0, .int .i64 0, .string ⟨#[]⟩, .int .u8 0, .int .i64 0] 35)).alloc (.cells #[.int .i64 0, .int .i64 0, .int .u8 0, .int .i64 0] 55)) = W) := hW.symm
  clear h h1 t0 t1 hbW sW hW
  go_enter Tryz.func20, Tryz.ntmps20
  go_wp2_with (go_at_call 58; rw [HW.out]; refine Ht.out.mono ?_; rintro e9 w2 ⟨z, rfl, e2⟩; subst w2; have p0 : W.cell? ⟨w.heap.size, 0, none⟩ = some (.int .i64 0) := cell_of_row _ _ 0 _ _ _ T0.out; have p1 : W.cell? ⟨w.heap.size, 1, none⟩ = some (.int .i64 0) := cell_of_row _ _ 1 _ _ _ T0.out; have p2 : W.cell? ⟨w.heap.size, 2, none⟩ = some (.string ⟨#[]⟩) := cell_of_row _ _ 2 _ _ _ T0.out; have p3 : W.cell? ⟨w.heap.size, 3, none⟩ = some (.int .u8 0) := cell_of_row _ _ 3 _ _ _ T0.out; have p4 : W.cell? ⟨w.heap.size, 4, none⟩ = some (.int .i64 0) := cell_of_row _ _ 4 _ _ _ T0.out; have pz0 : W.frozen? ⟨w.heap.size, 0, none⟩ = false := frozen_of_row _ _ 0 _ _ T0.out; have pz1 : W.frozen? ⟨w.heap.size, 1, none⟩ = false := frozen_of_row _ _ 1 _ _ T0.out; have pz2 : W.frozen? ⟨w.heap.size, 2, none⟩ = false := frozen_of_row _ _ 2 _ _ T0.out; have pz3 : W.frozen? ⟨w.heap.size, 3, none⟩ = false := frozen_of_row _ _ 3 _ _ T0.out; have pz4 : W.frozen? ⟨w.heap.size, 4, none⟩ = false := frozen_of_row _ _ 4 _ _ T0.out; have q0 : W.cell? ⟨w.heap.size + 1, 0, none⟩ = some (.int .i64 0) := cell_of_row _ _ 0 _ _ _ T1.out; have q1 : W.cell? ⟨w.heap.size + 1, 1, none⟩ = some (.int .i64 0) := cell_of_row _ _ 1 _ _ _ T1.out; have q2 : W.cell? ⟨w.heap.size + 1, 2, none⟩ = some (.int .u8 0) := cell_of_row _ _ 2 _ _ _ T1.out; have q3 : W.cell? ⟨w.heap.size + 1, 3, none⟩ = some (.int .i64 0) := cell_of_row _ _ 3 _ _ _ T1.out; have qz0 : W.frozen? ⟨w.heap.size + 1, 0, none⟩ = false := frozen_of_row _ _ 0 _ _ T1.out; have qz1 : W.frozen? ⟨w.heap.size + 1, 1, none⟩ = false := frozen_of_row _ _ 1 _ _ T1.out; have qz2 : W.frozen? ⟨w.heap.size + 1, 2, none⟩ = false := frozen_of_row _ _ 2 _ _ T1.out; have qz3 : W.frozen? ⟨w.heap.size + 1, 3, none⟩ = false := frozen_of_row _ _ 3 _ _ T1.out; have d1 : w.heap.size < W.heap.size := (by rw [SW.out]; omega); have d2 : w.heap.size + 1 < W.heap.size := (by rw [SW.out]; omega))
  · (show bodyPost _ _ _ _ _ (set4 (set5 W w.heap.size (.int .i64 0) (.int .i64 0) (.string ⟨#[]⟩) (.int .u8 0) (.int .i64 0)) (w.heap.size + 1) (.int .i64 0) (.int .i64 0) (.int .u8 0) (.int .i64 0)); obtain ⟨w9, hw9, h9, o9, ⟨k0, k1, k2, k3, k4⟩, m0, m1, m2, m3⟩ := rlays2 (P := fun k => k = r) (w := w) T0.out T1.out rfl H1.out (fun k hk => (by have := (H.out.lts k hk).2; omega)) (Out.of_below HB.out) (.int .i64 0) (.int .i64 0) (.string ⟨#[]⟩) (.int .u8 0) (.int .i64 0) (.int .i64 0) (.int .i64 0) (.int .u8 0) (.int .i64 0); rw [← hw9]; exact bodyPost_ret (v := .tuple #[Fam.sessV Fam.sess0, Tok.sessV Tok.sess0, .int .i64 z]) (by simp [results, Tryz.results20, go_sem, Fam.sessV, Fam.sess0, Tok.sessV, Tok.sess0, k0, k1, k2, k3, k4, m0, m1, m2, m3]) rfl ⟨⟨_, _, _, rfl⟩, ⟨_, _, _, _, _, h9, by omega, by omega⟩, o9⟩)
  go_at_call 59
  refine Hf.out.mono ?_
  rintro e9 w3 ⟨⟨i, z2, rfl, hz2⟩, e3⟩
  subst w3
  by_cases hz : z2 = 0
  · obtain ⟨k, s, rfl, hi⟩ := hz2 hz
    subst hz
    have hil := (List.getElem?_eq_some_iff.1 hi).1
    have c1 := H1.out.c1
    have c2 := H1.out.c2
    have c3 := H1.out.c3
    have y2 := H1.out.z 2
    have y3 := H1.out.z 3
    obtain ⟨_, b, o, ea, x0, x1, x2, x3, x4⟩ := H1.out.sinf.at hi
    cases ea
    have hrW : r < W.heap.size := by rw [SW.out]; omega
    have Hi := hid hi
    have n1 : w.heap.size ≠ r := by omega
    have n2 : w.heap.size + 1 ≠ r := by omega
    clear hi hz2
    have Hd := hid (ref_drop H.out H1.out HB.out T0.out T1.out hB hl hl' s fam)
    go_wp2_with (first
      | (go_at_call 60; refine Hd.out.mono ?_; rintro e9 w4 ⟨rfl, hless4, ho4, f4, u4⟩; clear p0 p1 p2 p3 p4 pz0 pz1 pz2 pz3 pz4 q0 q1 q2 q3 qz0 qz1 qz2 qz3 d1 d2 c1 c2 c3 y2 y3; have p0 : w4.cell? ⟨w.heap.size, 0, none⟩ = some (.int .i64 0) := cell_of_row _ _ 0 _ _ _ f4; have p1 : w4.cell? ⟨w.heap.size, 1, none⟩ = some (.int .i64 0) := cell_of_row _ _ 1 _ _ _ f4; have p2 : w4.cell? ⟨w.heap.size, 2, none⟩ = some (.string ⟨#[]⟩) := cell_of_row _ _ 2 _ _ _ f4; have p3 : w4.cell? ⟨w.heap.size, 3, none⟩ = some (.int .u8 0) := cell_of_row _ _ 3 _ _ _ f4; have p4 : w4.cell? ⟨w.heap.size, 4, none⟩ = some (.int .i64 0) := cell_of_row _ _ 4 _ _ _ f4; have pz0 : w4.frozen? ⟨w.heap.size, 0, none⟩ = false := frozen_of_row _ _ 0 _ _ f4; have pz1 : w4.frozen? ⟨w.heap.size, 1, none⟩ = false := frozen_of_row _ _ 1 _ _ f4; have pz2 : w4.frozen? ⟨w.heap.size, 2, none⟩ = false := frozen_of_row _ _ 2 _ _ f4; have pz3 : w4.frozen? ⟨w.heap.size, 3, none⟩ = false := frozen_of_row _ _ 3 _ _ f4; have pz4 : w4.frozen? ⟨w.heap.size, 4, none⟩ = false := frozen_of_row _ _ 4 _ _ f4; have q0 : w4.cell? ⟨w.heap.size + 1, 0, none⟩ = some (.int .i64 0) := cell_of_row _ _ 0 _ _ _ u4; have q1 : w4.cell? ⟨w.heap.size + 1, 1, none⟩ = some (.int .i64 0) := cell_of_row _ _ 1 _ _ _ u4; have q2 : w4.cell? ⟨w.heap.size + 1, 2, none⟩ = some (.int .u8 0) := cell_of_row _ _ 2 _ _ _ u4; have q3 : w4.cell? ⟨w.heap.size + 1, 3, none⟩ = some (.int .i64 0) := cell_of_row _ _ 3 _ _ _ u4; have qz0 : w4.frozen? ⟨w.heap.size + 1, 0, none⟩ = false := frozen_of_row _ _ 0 _ _ u4; have qz1 : w4.frozen? ⟨w.heap.size + 1, 1, none⟩ = false := frozen_of_row _ _ 1 _ _ u4; have qz2 : w4.frozen? ⟨w.heap.size + 1, 2, none⟩ = false := frozen_of_row _ _ 2 _ _ u4; have qz3 : w4.frozen? ⟨w.heap.size + 1, 3, none⟩ = false := frozen_of_row _ _ 3 _ _ u4; obtain ⟨a4, c4, a4', c4', U4, h4, h41, h42, hnew4⟩ := hless4; have k2 := h4.c2; have y2 := h4.z 2; have H4 := hid h4; have N4 := hid hnew4; have O4 := hid ho4; have F4 := hid f4; have U4' := hid u4; clear h4 ho4 f4 u4 hnew4)
      | (at_builtin; obtain ⟨V, hV, h3, f3, u3, t3, o3, d3⟩ := ref_w3 H.out H1.out HB.out T0.out T1.out ⟨s.id, s.ses, s.cli, s.sco, s.nxt + 1⟩ now; rw [← hV]; refine Fam.app_all _ rfl _ _ rfl V.heap.size rfl B (some ⟨b, o, none⟩) c U.fs h3.rowf rfl (by omega) (Nat.le_refl _) ?_; intro v4 w4 hrow4 hg4; obtain ⟨g4, cp4, rfl, hgl, hgz⟩ := Fam.own_block hrow4 (by omega); have hb4 := below_of_grown hg4; have h4 := h3.below hb4; have k3 := h4.c3; have y33 := h4.z 3; have t4 := (hb4.block W.heap.size d3).trans t3; have s0 : w4.cell? ⟨W.heap.size, 0, none⟩ = some (.int .i64 s.id) := cell_of_row _ _ 0 _ _ _ t4; have s1 : w4.cell? ⟨W.heap.size, 1, none⟩ = some (.int .i64 s.ses) := cell_of_row _ _ 1 _ _ _ t4; have s2 : w4.cell? ⟨W.heap.size, 2, none⟩ = some (.string s.cli) := cell_of_row _ _ 2 _ _ _ t4; have s3 : w4.cell? ⟨W.heap.size, 3, none⟩ = some (.int .u8 s.sco) := cell_of_row _ _ 3 _ _ _ t4; have s4 : w4.cell? ⟨W.heap.size, 4, none⟩ = some (.int .i64 (s.nxt + 1)) := cell_of_row _ _ 4 _ _ _ t4; obtain ⟨_, b', o', eb, z0, z1, z2', z3, z4⟩ := (Fam.sess_in hrow4).at Hi.out; cases eb; simp only [Nat.zero_add] at z0 z1 z2' z3 z4; have hgz0 := hgz (k * 5); have hgz1 := hgz (k * 5 + 1); have hgz2 := hgz (k * 5 + 2); have hgz3 := hgz (k * 5 + 3); have hgz4 := hgz (k * 5 + 4); have hg4b : g4 < w4.heap.size := (hrow4.lt g4 rfl).2; have m1 : r ≠ g4 := (by omega); have m2 : g4 ≠ r := (by omega); have m3 : W.heap.size ≠ g4 := (by omega); have m4 : g4 ≠ W.heap.size := (by omega); have m5 : W.heap.size ≠ r := (by omega); have m6 : r ≠ W.heap.size := (by omega); have R4 := hid hrow4; have B4 := hid hb4; have H4 := hid h4; have F3 := hid f3; have U3 := hid u3; have T3 := hid t3; have O3 := hid o3; have D3 : Hid (W.heap.size < V.heap.size ∧ V.heap.size ≤ g4) := ⟨d3, hgl⟩; clear hrow4 hg4 hb4 h4 t4 h3 f3 u3 t3 o3 d3 hgz hgl hV)
      | go_in)
    all_goals first
      | (have ht9 : s.nxt < num := (by assumption); show bodyPost _ _ _ _ _ ((set4 (set5 W w.heap.size (.int .i64 0) (.int .i64 0) (.string ⟨#[]⟩) (.int .u8 0) (.int .i64 0)) (w.heap.size + 1) (.int .i64 0) (.int .i64 0) (.int .u8 0) (.int .i64 0)).alloc (.cells #[.int .i64 s.id, .int .i64 s.ses, .string s.cli, .int .u8 s.sco, .int .i64 s.nxt] 35)); obtain ⟨w9, hw9, h9, o9, -, -⟩ := rlays2 (P := fun k => k = r) (w := w) T0.out T1.out rfl H1.out (fun k hk => (by have := (H.out.lts k hk).2; omega)) (Out.of_below HB.out) (.int .i64 0) (.int .i64 0) (.string ⟨#[]⟩) (.int .u8 0) (.int .i64 0) (.int .i64 0) (.int .i64 0) (.int .u8 0) (.int .i64 0); have a9 : w9.heap[w.heap.size]? = some (.cells #[.int .i64 0, .int .i64 0, .string ⟨#[]⟩, .int .u8 0, .int .i64 0] 35 (0, 0)) := (by rw [hw9]; exact (set4_other (by omega)).trans (set5_same T0.out)); have b9 : w9.heap[w.heap.size + 1]? = some (.cells #[.int .i64 0, .int .i64 0, .int .u8 0, .int .i64 0] 55 (0, 0)) := (by rw [hw9]; exact set4_same ((set5_other (by omega)).trans T1.out)); rw [← hw9]; have bA : Below w9.heap.size w9 (w9.alloc (.cells #[.int .i64 s.id, .int .i64 s.ses, .string s.cli, .int .u8 s.sco, .int .i64 s.nxt] 35)) := (Below.refl _ w9).alloc (Nat.le_refl _) _; obtain ⟨k0, k1, k2, k3, k4⟩ := row5 (heap_more a9 (Array.getElem?_eq_some_iff.1 a9).1 (.cells #[.int .i64 s.id, .int .i64 s.ses, .string s.cli, .int .u8 s.sco, .int .i64 s.nxt] 35)); obtain ⟨m0, m1, m2, m3⟩ := row4 (heap_more b9 (Array.getElem?_eq_some_iff.1 b9).1 (.cells #[.int .i64 s.id, .int .i64 s.ses, .string s.cli, .int .u8 s.sco, .int .i64 s.nxt] 35)); exact bodyPost_ret (v := .tuple #[Fam.sessV Fam.sess0, Tok.sessV Tok.sess0, .int .i64 10]) (by simp [results, Tryz.results20, go_sem, Fam.sessV, Fam.sess0, Tok.sessV, Tok.sess0, k0, k1, k2, k3, k4, m0, m1, m2, m3]) rfl ⟨⟨_, _, _, rfl⟩, ⟨_, _, _, _, _, h9.below bA, by omega, by omega⟩, o9.trans (Out.of_below bA) (fun _ _ e => e)⟩)
      | (have ht9 : s.nxt < num ∨ num < 1 := (by assumption); show bodyPost _ _ _ _ _ ((set4 (set5 W w.heap.size (.int .i64 0) (.int .i64 0) (.string ⟨#[]⟩) (.int .u8 0) (.int .i64 0)) (w.heap.size + 1) (.int .i64 0) (.int .i64 0) (.int .u8 0) (.int .i64 0)).alloc (.cells #[.int .i64 s.id, .int .i64 s.ses, .string s.cli, .int .u8 s.sco, .int .i64 s.nxt] 35)); obtain ⟨w9, hw9, h9, o9, -, -⟩ := rlays2 (P := fun k => k = r) (w := w) T0.out T1.out rfl H1.out (fun k hk => (by have := (H.out.lts k hk).2; omega)) (Out.of_below HB.out) (.int .i64 0) (.int .i64 0) (.string ⟨#[]⟩) (.int .u8 0) (.int .i64 0) (.int .i64 0) (.int .i64 0) (.int .u8 0) (.int .i64 0); have a9 : w9.heap[w.heap.size]? = some (.cells #[.int .i64 0, .int .i64 0, .string ⟨#[]⟩, .int .u8 0, .int .i64 0] 35 (0, 0)) := (by rw [hw9]; exact (set4_other (by omega)).trans (set5_same T0.out)); have b9 : w9.heap[w.heap.size + 1]? = some (.cells #[.int .i64 0, .int .i64 0, .int .u8 0, .int .i64 0] 55 (0, 0)) := (by rw [hw9]; exact set4_same ((set5_other (by omega)).trans T1.out)); rw [← hw9]; have bA : Below w9.heap.size w9 (w9.alloc (.cells #[.int .i64 s.id, .int .i64 s.ses, .string s.cli, .int .u8 s.sco, .int .i64 s.nxt] 35)) := (Below.refl _ w9).alloc (Nat.le_refl _) _; obtain ⟨k0, k1, k2, k3, k4⟩ := row5 (heap_more a9 (Array.getElem?_eq_some_iff.1 a9).1 (.cells #[.int .i64 s.id, .int .i64 s.ses, .string s.cli, .int .u8 s.sco, .int .i64 s.nxt] 35)); obtain ⟨m0, m1, m2, m3⟩ := row4 (heap_more b9 (Array.getElem?_eq_some_iff.1 b9).1 (.cells #[.int .i64 s.id, .int .i64 s.ses, .string s.cli, .int .u8 s.sco, .int .i64 s.nxt] 35)); exact bodyPost_ret (v := .tuple #[Fam.sessV Fam.sess0, Tok.sessV Tok.sess0, .int .i64 10]) (by simp [results, Tryz.results20, go_sem, Fam.sessV, Fam.sess0, Tok.sessV, Tok.sess0, k0, k1, k2, k3, k4, m0, m1, m2, m3]) rfl ⟨⟨_, _, _, rfl⟩, ⟨_, _, _, _, _, h9.below bA, by omega, by omega⟩, o9.trans (Out.of_below bA) (fun _ _ e => e)⟩)
      | (have ht9 : 1099511627776 < U.nt := (by assumption); show bodyPost _ _ _ _ _ ((set4 (set5 W w.heap.size (.int .i64 0) (.int .i64 0) (.string ⟨#[]⟩) (.int .u8 0) (.int .i64 0)) (w.heap.size + 1) (.int .i64 0) (.int .i64 0) (.int .u8 0) (.int .i64 0)).alloc (.cells #[.int .i64 s.id, .int .i64 s.ses, .string s.cli, .int .u8 s.sco, .int .i64 s.nxt] 35)); obtain ⟨w9, hw9, h9, o9, -, -⟩ := rlays2 (P := fun k => k = r) (w := w) T0.out T1.out rfl H1.out (fun k hk => (by have := (H.out.lts k hk).2; omega)) (Out.of_below HB.out) (.int .i64 0) (.int .i64 0) (.string ⟨#[]⟩) (.int .u8 0) (.int .i64 0) (.int .i64 0) (.int .i64 0) (.int .u8 0) (.int .i64 0); have a9 : w9.heap[w.heap.size]? = some (.cells #[.int .i64 0, .int .i64 0, .string ⟨#[]⟩, .int .u8 0, .int .i64 0] 35 (0, 0)) := (by rw [hw9]; exact (set4_other (by omega)).trans (set5_same T0.out)); have b9 : w9.heap[w.heap.size + 1]? = some (.cells #[.int .i64 0, .int .i64 0, .int .u8 0, .int .i64 0] 55 (0, 0)) := (by rw [hw9]; exact set4_same ((set5_other (by omega)).trans T1.out)); rw [← hw9]; have bA : Below w9.heap.size w9 (w9.alloc (.cells #[.int .i64 s.id, .int .i64 s.ses, .string s.cli, .int .u8 s.sco, .int .i64 s.nxt] 35)) := (Below.refl _ w9).alloc (Nat.le_refl _) _; obtain ⟨k0, k1, k2, k3, k4⟩ := row5 (heap_more a9 (Array.getElem?_eq_some_iff.1 a9).1 (.cells #[.int .i64 s.id, .int .i64 s.ses, .string s.cli, .int .u8 s.sco, .int .i64 s.nxt] 35)); obtain ⟨m0, m1, m2, m3⟩ := row4 (heap_more b9 (Array.getElem?_eq_some_iff.1 b9).1 (.cells #[.int .i64 s.id, .int .i64 s.ses, .string s.cli, .int .u8 s.sco, .int .i64 s.nxt] 35)); exact bodyPost_ret (v := .tuple #[Fam.sessV Fam.sess0, Tok.sessV Tok.sess0, .int .i64 7]) (by simp [results, Tryz.results20, go_sem, Fam.sessV, Fam.sess0, Tok.sessV, Tok.sess0, k0, k1, k2, k3, k4, m0, m1, m2, m3]) rfl ⟨⟨_, _, _, rfl⟩, ⟨_, _, _, _, _, h9.below bA, by omega, by omega⟩, o9.trans (Out.of_below bA) (fun _ _ e => e)⟩)
      | (have ht9 : 1099511627776 < U.nt ∨ 1099511627776 ≤ s.nxt := (by assumption); show bodyPost _ _ _ _ _ ((set4 (set5 W w.heap.size (.int .i64 0) (.int .i64 0) (.string ⟨#[]⟩) (.int .u8 0) (.int .i64 0)) (w.heap.size + 1) (.int .i64 0) (.int .i64 0) (.int .u8 0) (.int .i64 0)).alloc (.cells #[.int .i64 s.id, .int .i64 s.ses, .string s.cli, .int .u8 s.sco, .int .i64 s.nxt] 35)); obtain ⟨w9, hw9, h9, o9, -, -⟩ := rlays2 (P := fun k => k = r) (w := w) T0.out T1.out rfl H1.out (fun k hk => (by have := (H.out.lts k hk).2; omega)) (Out.of_below HB.out) (.int .i64 0) (.int .i64 0) (.string ⟨#[]⟩) (.int .u8 0) (.int .i64 0) (.int .i64 0) (.int .i64 0) (.int .u8 0) (.int .i64 0); have a9 : w9.heap[w.heap.size]? = some (.cells #[.int .i64 0, .int .i64 0, .string ⟨#[]⟩, .int .u8 0, .int .i64 0] 35 (0, 0)) := (by rw [hw9]; exact (set4_other (by omega)).trans (set5_same T0.out)); have b9 : w9.heap[w.heap.size + 1]? = some (.cells #[.int .i64 0, .int .i64 0, .int .u8 0, .int .i64 0] 55 (0, 0)) := (by rw [hw9]; exact set4_same ((set5_other (by omega)).trans T1.out)); rw [← hw9]; have bA : Below w9.heap.size w9 (w9.alloc (.cells #[.int .i64 s.id, .int .i64 s.ses, .string s.cli, .int .u8 s.sco, .int .i64 s.nxt] 35)) := (Below.refl _ w9).alloc (Nat.le_refl _) _; obtain ⟨k0, k1, k2, k3, k4⟩ := row5 (heap_more a9 (Array.getElem?_eq_some_iff.1 a9).1 (.cells #[.int .i64 s.id, .int .i64 s.ses, .string s.cli, .int .u8 s.sco, .int .i64 s.nxt] 35)); obtain ⟨m0, m1, m2, m3⟩ := row4 (heap_more b9 (Array.getElem?_eq_some_iff.1 b9).1 (.cells #[.int .i64 s.id, .int .i64 s.ses, .string s.cli, .int .u8 s.sco, .int .i64 s.nxt] 35)); exact bodyPost_ret (v := .tuple #[Fam.sessV Fam.sess0, Tok.sessV Tok.sess0, .int .i64 7]) (by simp [results, Tryz.results20, go_sem, Fam.sessV, Fam.sess0, Tok.sessV, Tok.sess0, k0, k1, k2, k3, k4, m0, m1, m2, m3]) rfl ⟨⟨_, _, _, rfl⟩, ⟨_, _, _, _, _, h9.below bA, by omega, by omega⟩, o9.trans (Out.of_below bA) (fun _ _ e => e)⟩)
      | skip
    · (show bodyPost _ _ _ _ _ (set4 (set5 (w4.setCell ⟨r, 2, none⟩ (.int .i64 now)) w.heap.size (.int .i64 0) (.int .i64 0) (.string ⟨#[]⟩) (.int .u8 0) (.int .i64 0)) (w.heap.size + 1) (.int .i64 0) (.int .i64 0) (.int .u8 0) (.int .i64 0)); have h5 := H4.out.set2 now; have e5 : (w4.setCell ⟨r, 2, none⟩ (.int .i64 now)).heap[w.heap.size]? = w4.heap[w.heap.size]? := heap_setCell_other _ _ _ _ n1; have e6 : (w4.setCell ⟨r, 2, none⟩ (.int .i64 now)).heap[w.heap.size + 1]? = w4.heap[w.heap.size + 1]? := heap_setCell_other _ _ _ _ n2; have f5 := e5.trans F4.out; have u5 := e6.trans U4'.out; obtain ⟨w9, hw9, h9, o9, ⟨k0, k1, k2, k3, k4⟩, m0, m1, m2, m3⟩ := rlays2 (P := fun k => k = r) (w := w) f5 u5 rfl h5 N4.out (O4.out.setCell ⟨r, 2, none⟩ _ rfl) (.int .i64 0) (.int .i64 0) (.string ⟨#[]⟩) (.int .u8 0) (.int .i64 0) (.int .i64 0) (.int .i64 0) (.int .u8 0) (.int .i64 0); rw [← hw9]; exact bodyPost_ret (v := .tuple #[Fam.sessV Fam.sess0, Tok.sessV Tok.sess0, .int .i64 13]) (by simp [results, Tryz.results20, go_sem, Fam.sessV, Fam.sess0, Tok.sessV, Tok.sess0, k0, k1, k2, k3, k4, m0, m1, m2, m3]) rfl ⟨⟨_, _, _, rfl⟩, ⟨_, _, _, _, _, h9, by show U4.fs.length ≤ _; omega, by show U4.ts.length ≤ _; omega⟩, o9⟩)
    obtain ⟨W6, hW6, h6, blk, s6, out6⟩ := ref_w6 H4.out R4.out (k := k) hil ⟨s.id, s.ses, s.cli, s.sco, s.nxt + 1⟩ hB (by have := D3.out; have := SW.out; omega) (by have := D3.out; have := SW.out; omega)
    rw [← hW6]
    have hs6 := D3.out
    have sw6 := SW.out
    have t6 := (blk W.heap.size (by omega) (by omega)).trans ((B4.out.block W.heap.size hs6.1).trans T3.out)
    have f6 := (blk w.heap.size (by omega) (by omega)).trans ((B4.out.block w.heap.size (by omega)).trans F3.out)
    have u6 := (blk (w.heap.size + 1) (by omega) (by omega)).trans ((B4.out.block (w.heap.size + 1) (by omega)).trans U3.out)
    have o6 := out6 (fun k => k = r) w (O3.out.trans (Out.of_below (P := fun k => k = r) B4.out) (fun _ _ e => e)) rfl (by omega)
    have h6d : RAt W6.drew B r (some ⟨g4, 0, none⟩) cp4 a' c' ⟨now, U.nf, U.fs.set k ⟨s.id, s.ses, s.cli, s.sco, s.nxt + 1⟩, U.nt, U.ts⟩ := h6.keep (fun _ _ => rfl)
    have Hfr := hid (fun (fam sco unt : Int) => rFresh_any h6d (by show B ≤ W6.heap.size; rw [s6]; have := B4.out.size; omega) hl' fam sco unt)
    obtain ⟨g, hg⟩ : ∃ g, g = w.heap.size := ⟨_, rfl⟩
    obtain ⟨kb, hkb⟩ : ∃ kb, kb = W.heap.size := ⟨_, rfl⟩
    rw [← hg] at f6 u6
    rw [← hkb] at t6
    have j0 : W6.cell? ⟨kb, 0, none⟩ = some (.int .i64 s.id) := cell_of_row _ _ 0 _ _ _ t6
    have j1 : W6.cell? ⟨kb, 1, none⟩ = some (.int .i64 s.ses) := cell_of_row _ _ 1 _ _ _ t6
    have j2 : W6.cell? ⟨kb, 2, none⟩ = some (.string s.cli) := cell_of_row _ _ 2 _ _ _ t6
    have j3 : W6.cell? ⟨kb, 3, none⟩ = some (.int .u8 s.sco) := cell_of_row _ _ 3 _ _ _ t6
    have j4 : W6.cell? ⟨kb, 4, none⟩ = some (.int .i64 (s.nxt + 1)) := cell_of_row _ _ 4 _ _ _ t6
    have hdk := (Array.getElem?_eq_some_iff.1 t6).1
    have hdg := (Array.getElem?_eq_some_iff.1 f6).1
    have hdu := (Array.getElem?_eq_some_iff.1 u6).1
    have hgr : g ≠ r := by omega
    have hgr1 : g + 1 ≠ r := by omega
    have hgr2 : kb ≠ r := by omega
    have hgk : g + 1 < kb := by omega
    rw [← hg, ← hkb]
    have HG := hid hg
    have T6 := hid t6
    have F6 := hid f6
    have U6 := hid u6
    have O6 := hid o6
    have HL5 : Hid (g + 1 < g4) := (by show _ < _; omega)
    clear t6 f6 u6 o6 h6 s6 hg hkb h6d blk hW6 out6 s0 s1 s2 s3 s4 p0 p1 p2 p3 p4 pz0 pz1 pz2 pz3 pz4 q0 q1 q2 q3 qz0 qz1 qz2 qz3 hs6 sw6 c1 c2 c3 y2 y3 k3 y33 z0 z1 z2' z3 z4 x0 x1 x2 x3 x4 hgz0 hgz1 hgz2 hgz3 hgz4 m1 m2 m3 m4 m5 m6 n1 n2 d1 d2 hrW
    go_region_with (go_at_call 57; refine (Hfr.out _ _ _).mono ?_; rintro e9 w7 ⟨y, x, a7, c7, rfl, h7, o7, hn7⟩; unfold Tok.sessV; have r7 := (o7.block kb hdk hgr2).trans T6.out; have f7 := (o7.block g hdg hgr).trans F6.out; have u7 := (o7.block (g + 1) hdu hgr1).trans U6.out; have y0 : w7.cell? ⟨kb, 0, none⟩ = some (.int .i64 s.id) := cell_of_row _ _ 0 _ _ _ r7; have y1 : w7.cell? ⟨kb, 1, none⟩ = some (.int .i64 s.ses) := cell_of_row _ _ 1 _ _ _ r7; have y2 : w7.cell? ⟨kb, 2, none⟩ = some (.string s.cli) := cell_of_row _ _ 2 _ _ _ r7; have y3 : w7.cell? ⟨kb, 3, none⟩ = some (.int .u8 s.sco) := cell_of_row _ _ 3 _ _ _ r7; have y4 : w7.cell? ⟨kb, 4, none⟩ = some (.int .i64 (s.nxt + 1)) := cell_of_row _ _ 4 _ _ _ r7; have p0 : w7.cell? ⟨g, 0, none⟩ = some (.int .i64 0) := cell_of_row _ _ 0 _ _ _ f7; have p1 : w7.cell? ⟨g, 1, none⟩ = some (.int .i64 0) := cell_of_row _ _ 1 _ _ _ f7; have p2 : w7.cell? ⟨g, 2, none⟩ = some (.string ⟨#[]⟩) := cell_of_row _ _ 2 _ _ _ f7; have p3 : w7.cell? ⟨g, 3, none⟩ = some (.int .u8 0) := cell_of_row _ _ 3 _ _ _ f7; have p4 : w7.cell? ⟨g, 4, none⟩ = some (.int .i64 0) := cell_of_row _ _ 4 _ _ _ f7; have v0 : w7.frozen? ⟨g, 0, none⟩ = false := frozen_of_row _ _ 0 _ _ f7; have v1 : w7.frozen? ⟨g, 1, none⟩ = false := frozen_of_row _ _ 1 _ _ f7; have v2 : w7.frozen? ⟨g, 2, none⟩ = false := frozen_of_row _ _ 2 _ _ f7; have v3 : w7.frozen? ⟨g, 3, none⟩ = false := frozen_of_row _ _ 3 _ _ f7; have v4 : w7.frozen? ⟨g, 4, none⟩ = false := frozen_of_row _ _ 4 _ _ f7; have q0 : w7.cell? ⟨g + 1, 0, none⟩ = some (.int .i64 0) := cell_of_row _ _ 0 _ _ _ u7; have q1 : w7.cell? ⟨g + 1, 1, none⟩ = some (.int .i64 0) := cell_of_row _ _ 1 _ _ _ u7; have q2 : w7.cell? ⟨g + 1, 2, none⟩ = some (.int .u8 0) := cell_of_row _ _ 2 _ _ _ u7; have q3 : w7.cell? ⟨g + 1, 3, none⟩ = some (.int .i64 0) := cell_of_row _ _ 3 _ _ _ u7; have l0 : w7.frozen? ⟨g + 1, 0, none⟩ = false := frozen_of_row _ _ 0 _ _ u7; have l1 : w7.frozen? ⟨g + 1, 1, none⟩ = false := frozen_of_row _ _ 1 _ _ u7; have l2 : w7.frozen? ⟨g + 1, 2, none⟩ = false := frozen_of_row _ _ 2 _ _ u7; have l3 : w7.frozen? ⟨g + 1, 3, none⟩ = false := frozen_of_row _ _ 3 _ _ u7; have hdk7 := (Array.getElem?_eq_some_iff.1 r7).1; have hdf7 := (Array.getElem?_eq_some_iff.1 f7).1; have hdt7 := (Array.getElem?_eq_some_iff.1 u7).1; have H7 := hid h7; have O7 := hid o7; have N7 := hid hn7; have F7 := hid f7; have U7 := hid u7; clear h7 o7 r7 f7 u7 hn7)
    all_goals (try go_wp2)
    all_goals
      show bodyPost _ _ _ _ _ (set4 (set5 w7 g (.int .i64 s.id) (.int .i64 s.ses) (.string s.cli) (.int .u8 s.sco) (.int .i64 (s.nxt + 1))) (g + 1) (.int .i64 y.id) (.int .i64 y.fam) (.int .u8 y.sco) (.int .i64 y.unt))
      have hg := HG.out
      obtain ⟨w9, hw9, h9, o9, ⟨k0, k1, k2, k3, k4⟩, m0, m1, m2, m3⟩ := rlays2 (w := w) F7.out U7.out hg H7.out (by
        rintro k (rfl | ⟨ad, e, rfl⟩ | ⟨ad, e, rfl⟩)
        · omega
        · cases e; show g4 ≠ g ∧ g4 ≠ g + 1; have := HL5.out; omega
        · have := N7.out ad e; have h8 : W6.drew.heap.size = W6.heap.size := rfl; omega) (O6.out.trans (Out.undrew O7.out) (fun _ _ e => e)) (.int .i64 s.id) (.int .i64 s.ses) (.string s.cli) (.int .u8 s.sco) (.int .i64 (s.nxt + 1)) (.int .i64 y.id) (.int .i64 y.fam) (.int .u8 y.sco) (.int .i64 y.unt)
      rw [← hw9]
      exact bodyPost_ret (v := .tuple #[Fam.sessV ⟨s.id, s.ses, s.cli, s.sco, s.nxt + 1⟩, Tok.sessV y, .int .i64 0]) (by simp [results, Tryz.results20, go_sem, Fam.sessV, Tok.sessV, k0, k1, k2, k3, k4, m0, m1, m2, m3]) rfl ⟨⟨_, _, _, rfl⟩, ⟨_, _, _, _, _, h9, by simp, by simp⟩, o9⟩
  · have hz9 : (z2 != 0) = true := by simpa using hz
    clear hz2 hz
    go_wp2
    (show bodyPost _ _ _ _ _ (set4 (set5 W w.heap.size (.int .i64 0) (.int .i64 0) (.string ⟨#[]⟩) (.int .u8 0) (.int .i64 0)) (w.heap.size + 1) (.int .i64 0) (.int .i64 0) (.int .u8 0) (.int .i64 0)); obtain ⟨w9, hw9, h9, o9, ⟨k0, k1, k2, k3, k4⟩, m0, m1, m2, m3⟩ := rlays2 (P := fun k => k = r) (w := w) T0.out T1.out rfl H1.out (fun k hk => (by have := (H.out.lts k hk).2; omega)) (Out.of_below HB.out) (.int .i64 0) (.int .i64 0) (.string ⟨#[]⟩) (.int .u8 0) (.int .i64 0) (.int .i64 0) (.int .i64 0) (.int .u8 0) (.int .i64 0); rw [← hw9]; exact bodyPost_ret (v := .tuple #[Fam.sessV Fam.sess0, Tok.sessV Tok.sess0, .int .i64 z2]) (by simp [results, Tryz.results20, go_sem, Fam.sessV, Fam.sess0, Tok.sessV, Tok.sess0, k0, k1, k2, k3, k4, m0, m1, m2, m3]) rfl ⟨⟨_, _, _, rfl⟩, ⟨_, _, _, _, _, h9, by omega, by omega⟩, o9⟩)
end Go.Proofs.YtmnhhomkglffcaaGreatDoor
