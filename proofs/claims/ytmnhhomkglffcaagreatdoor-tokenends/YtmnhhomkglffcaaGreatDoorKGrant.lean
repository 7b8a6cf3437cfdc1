/- issue, goOn and Grant of package token, each by a contract. -/
import Derived.Test.YtmnhhomkglffcaaGreatDoorKSto
namespace Go.Proofs.YtmnhhomkglffcaaGreatDoor
open Go.RowKit Go.Maps Go.Sort Go.Shelf
set_option linter.unusedVariables false
set_option maxRecDepth 20000

theorem StoAt.set3 {w : World} {B p mf mt n1 n2 : Nat} {T : Sto} (h : StoAt w B p mf mt n1 n2 T) (x : Int) : StoAt (w.setCell ⟨p, 3, none⟩ (.int .i64 x)) B p mf mt n1 n2 ⟨T.noted, T.nf, T.fs, x, T.ts⟩ :=
  ⟨by rw [heap_setCell_same _ _ _ _ _ _ h.obj]; rfl, h.mapf.keep (heap_setCell_other _ _ _ _ (Ne.symm h.pne.1)), h.mapt.keep (heap_setCell_other _ _ _ _ (Ne.symm h.pne.2)), h.bp, h.bf, h.bt, h.ne⟩
theorem StoAt.set1 {w : World} {B p mf mt n1 n2 : Nat} {T : Sto} (h : StoAt w B p mf mt n1 n2 T) (x : Int) : StoAt (w.setCell ⟨p, 1, none⟩ (.int .i64 x)) B p mf mt n1 n2 ⟨T.noted, x, T.fs, T.nt, T.ts⟩ :=
  ⟨by rw [heap_setCell_same _ _ _ _ _ _ h.obj]; rfl, h.mapf.keep (heap_setCell_other _ _ _ _ (Ne.symm h.pne.1)), h.mapt.keep (heap_setCell_other _ _ _ _ (Ne.symm h.pne.2)), h.bp, h.bf, h.bt, h.ne⟩
theorem StoAt.set0 {w : World} {B p mf mt n1 n2 : Nat} {T : Sto} (h : StoAt w B p mf mt n1 n2 T) (x : Int) : StoAt (w.setCell ⟨p, 0, none⟩ (.int .i64 x)) B p mf mt n1 n2 ⟨x, T.nf, T.fs, T.nt, T.ts⟩ :=
  ⟨by rw [heap_setCell_same _ _ _ _ _ _ h.obj]; rfl, h.mapf.keep (heap_setCell_other _ _ _ _ (Ne.symm h.pne.1)), h.mapt.keep (heap_setCell_other _ _ _ _ (Ne.symm h.pne.2)), h.bp, h.bf, h.bt, h.ne⟩
theorem StoAt.other {w : World} {B p mf mt n1 n2 : Nat} {T : Sto} (h : StoAt w B p mf mt n1 n2 T) (g o : Nat) (v : Value) (hp : g ≠ p) (hf : g ≠ mf) (ht : g ≠ mt) : StoAt (w.setCell ⟨g, o, none⟩ v) B p mf mt n1 n2 T :=
  h.keep (heap_setCell_other _ _ _ _ (Ne.symm hp)) (heap_setCell_other _ _ _ _ (Ne.symm hf)) (heap_setCell_other _ _ _ _ (Ne.symm ht))
/-- what of a store may turn -/
def Mine (p mf mt k : Nat) : Prop := k = p ∨ k = mf ∨ k = mt

def set4 (w : World) (g : Nat) (a b c d : Value) : World := (((w.setCell ⟨g, 0, none⟩ a).setCell ⟨g, 1, none⟩ b).setCell ⟨g, 2, none⟩ c).setCell ⟨g, 3, none⟩ d
def set5 (w : World) (g : Nat) (a b c d e : Value) : World := ((((w.setCell ⟨g, 0, none⟩ a).setCell ⟨g, 1, none⟩ b).setCell ⟨g, 2, none⟩ c).setCell ⟨g, 3, none⟩ d).setCell ⟨g, 4, none⟩ e
theorem set4_other {w : World} {g : Nat} {a b c d : Value} {k : Nat} (h : k ≠ g) : (set4 w g a b c d).heap[k]? = w.heap[k]? := by
  unfold set4
  rw [heap_setCell_other _ _ _ _ h, heap_setCell_other _ _ _ _ h, heap_setCell_other _ _ _ _ h, heap_setCell_other _ _ _ _ h]
theorem set5_other {w : World} {g : Nat} {a b c d e : Value} {k : Nat} (h : k ≠ g) : (set5 w g a b c d e).heap[k]? = w.heap[k]? := by
  unfold set5
  rw [heap_setCell_other _ _ _ _ h, heap_setCell_other _ _ _ _ h, heap_setCell_other _ _ _ _ h, heap_setCell_other _ _ _ _ h, heap_setCell_other _ _ _ _ h]
theorem set4_same {w : World} {g : Nat} {a b c d a' b' c' d' : Value} {t : Nat} (h : w.heap[g]? = some (.cells #[a', b', c', d'] t (0, 0))) : (set4 w g a b c d).heap[g]? = some (.cells #[a, b, c, d] t (0, 0)) := by
  unfold set4
  rw [heap_setCell_same _ _ _ _ _ _ (heap_setCell_same _ _ _ _ _ _ (heap_setCell_same _ _ _ _ _ _ (heap_setCell_same _ _ _ _ _ _ h)))]
  rfl
theorem set5_same {w : World} {g : Nat} {a b c d e a' b' c' d' e' : Value} {t : Nat} (h : w.heap[g]? = some (.cells #[a', b', c', d', e'] t (0, 0))) : (set5 w g a b c d e).heap[g]? = some (.cells #[a, b, c, d, e] t (0, 0)) := by
  unfold set5
  rw [heap_setCell_same _ _ _ _ _ _ (heap_setCell_same _ _ _ _ _ _ (heap_setCell_same _ _ _ _ _ _ (heap_setCell_same _ _ _ _ _ _ (heap_setCell_same _ _ _ _ _ _ h))))]
  rfl
theorem StoAt.four {w : World} {B p mf mt n1 n2 : Nat} {T : Sto} (h : StoAt w B p mf mt n1 n2 T) {g : Nat} (a b c d : Value) (hp : g ≠ p) (hf : g ≠ mf) (ht : g ≠ mt) : StoAt (set4 w g a b c d) B p mf mt n1 n2 T := h.keep (set4_other (Ne.symm hp)) (set4_other (Ne.symm hf)) (set4_other (Ne.symm ht))
theorem StoAt.five {w : World} {B p mf mt n1 n2 : Nat} {T : Sto} (h : StoAt w B p mf mt n1 n2 T) {g : Nat} (a b c d e : Value) (hp : g ≠ p) (hf : g ≠ mf) (ht : g ≠ mt) : StoAt (set5 w g a b c d e) B p mf mt n1 n2 T := h.keep (set5_other (Ne.symm hp)) (set5_other (Ne.symm hf)) (set5_other (Ne.symm ht))
theorem Out.four {P : Nat → Prop} {w w' : World} (h : Out P w w') {g : Nat} (hg : w.heap.size ≤ g) (a b c d : Value) : Out P w (set4 w' g a b c d) :=
  ((((Out.imp (Q := fun k => P k ∨ k = g) h (fun i hi e => .inl e)).setCell ⟨g, 0, none⟩ a (.inr rfl)).setCell ⟨g, 1, none⟩ b (.inr rfl)).setCell ⟨g, 2, none⟩ c (.inr rfl)).setCell ⟨g, 3, none⟩ d (.inr rfl) |>.imp (fun i hi e => by rcases e with e | e; exact e; omega)
theorem Out.five {P : Nat → Prop} {w w' : World} (h : Out P w w') {g : Nat} (hg : w.heap.size ≤ g) (a b c d e : Value) : Out P w (set5 w' g a b c d e) :=
  (((((Out.imp (Q := fun k => P k ∨ k = g) h (fun i hi e => .inl e)).setCell ⟨g, 0, none⟩ a (.inr rfl)).setCell ⟨g, 1, none⟩ b (.inr rfl)).setCell ⟨g, 2, none⟩ c (.inr rfl)).setCell ⟨g, 3, none⟩ d (.inr rfl)).setCell ⟨g, 4, none⟩ e (.inr rfl) |>.imp (fun i hi e => by rcases e with e | e; exact e; omega)

/-- a family and a token laid into cells of the call's own -/
theorem lays2 {w w5 : World} {g : Nat} {t1 t2 : Nat} {a0 b0 c0 d0 e0 i0 j0 k0 l0 : Value} {P : Nat → Prop} (f5 : w5.heap[g]? = some (.cells #[a0, b0, c0, d0, e0] t1 (0, 0))) (u5 : w5.heap[g + 1]? = some (.cells #[i0, j0, k0, l0] t2 (0, 0)))
    (hg : g = w.heap.size) {B p mf mt n1 n2 : Nat} {T : Sto} (h : StoAt w5 B p mf mt n1 n2 T) (hp : p < g) (hf : mf < g) (ht : mt < g) (o : Out P w w5) (a b c d e i j k l : Value) :
    ∃ w7, w7 = set4 (set5 w5 g a b c d e) (g + 1) i j k l ∧ StoAt w7 B p mf mt n1 n2 T ∧ Out P w w7 ∧ (w7.cell? ⟨g, 0, none⟩ = some a ∧ w7.cell? ⟨g, 1, none⟩ = some b ∧ w7.cell? ⟨g, 2, none⟩ = some c ∧ w7.cell? ⟨g, 3, none⟩ = some d ∧ w7.cell? ⟨g, 4, none⟩ = some e) ∧
      w7.cell? ⟨g + 1, 0, none⟩ = some i ∧ w7.cell? ⟨g + 1, 1, none⟩ = some j ∧ w7.cell? ⟨g + 1, 2, none⟩ = some k ∧ w7.cell? ⟨g + 1, 3, none⟩ = some l := by
  have a6 : (set5 w5 g a b c d e).heap[g]? = some (.cells #[a, b, c, d, e] t1 (0, 0)) := set5_same f5
  have b6 : (set5 w5 g a b c d e).heap[g + 1]? = some (.cells #[i0, j0, k0, l0] t2 (0, 0)) := (set5_other (by omega)).trans u5
  have a7 : (set4 (set5 w5 g a b c d e) (g + 1) i j k l).heap[g]? = some (.cells #[a, b, c, d, e] t1 (0, 0)) := (set4_other (by omega)).trans a6
  have b7 : (set4 (set5 w5 g a b c d e) (g + 1) i j k l).heap[g + 1]? = some (.cells #[i, j, k, l] t2 (0, 0)) := set4_same b6
  exact ⟨_, rfl, (h.five _ _ _ _ _ (by omega) (by omega) (by omega)).four _ _ _ _ (by omega) (by omega) (by omega), (o.five (by omega) _ _ _ _ _).four (by omega) _ _ _ _,
    ⟨cell_of_row _ _ 0 _ _ _ a7, cell_of_row _ _ 1 _ _ _ a7, cell_of_row _ _ 2 _ _ _ a7, cell_of_row _ _ 3 _ _ _ a7, cell_of_row _ _ 4 _ _ _ a7⟩, cell_of_row _ _ 0 _ _ _ b7, cell_of_row _ _ 1 _ _ _ b7, cell_of_row _ _ 2 _ _ _ b7, cell_of_row _ _ 3 _ _ _ b7⟩

set_option maxHeartbeats 1600000 in
theorem issue_any {w : World} {B p mf mt n1 n2 : Nat} {T : Sto} (h : StoAt w B p mf mt n1 n2 T) (idt : ∀ s ∈ T.ts, 1 ≤ s.id ∧ s.id < T.nt) (hnt1 : 1 ≤ T.nt) (hn : n2 ≤ 1000000000) (hnt : T.nt ≤ 1099511627776) (id fam sco unt now : Int) :
    Calls Tryz.prog 63 #[.pointer (some ⟨p, 0, none⟩), .agg #[.int .i64 id, .int .i64 fam, .int .u8 sco, .int .i64 unt], .int .i64 now] w fun e w' => e = .returned (.agg #[.int .i64 T.nt, .int .i64 fam, .int .u8 sco, .int .i64 unt]) ∧
      StoAt w' B p mf mt n1 (n2 + 1) ⟨now, T.nf, T.fs, T.nt + 1, T.ts ++ [⟨T.nt, fam, sco, unt⟩]⟩ ∧ Out (Mine p mf mt) w w' := by
  have hp := h.lts.1
  have hf := h.lts.2.1
  have ht := h.lts.2.2
  have hpne := h.pne
  obtain ⟨g, hg⟩ : ∃ g, g = w.heap.size := ⟨_, rfl⟩
  have hg0 : StoAt ((w.alloc (.cells #[.int .i64 id, .int .i64 fam, .int .u8 sco, .int .i64 unt] 55)).alloc (.cells #[.int .i64 0, .int .i64 0, .int .u8 0, .int .i64 0] 55)) B p mf mt n1 n2 T := h.below (((Below.refl _ w).alloc (Nat.le_refl _) _).alloc (by simp) _)
  obtain ⟨W2, hW2⟩ : ∃ W2, W2 = w.setCell ⟨p, 3, none⟩ (.int .i64 (T.nt + 1)) := ⟨_, rfl⟩
  have s2 : W2.heap.size = g := by rw [hW2, hg]; simp
  have h2 : StoAt W2 B p mf mt n1 n2 ⟨T.noted, T.nf, T.fs, T.nt + 1, T.ts⟩ := by rw [hW2]; exact h.set3 _
  have o2 : Out (Mine p mf mt) w W2 := by rw [hW2]; exact (Out.of_below (Below.refl _ w)).setCell ⟨p, 3, none⟩ _ (.inl rfl)
  obtain ⟨W3, hW3⟩ : ∃ W3, W3 = (W2.alloc (.cells #[.int .i64 T.nt, .int .i64 fam, .int .u8 sco, .int .i64 unt] 55)).alloc (.cells #[.int .i64 0, .int .i64 0, .int .u8 0, .int .i64 0] 55) := ⟨_, rfl⟩
  have b3 : Below W2.heap.size W2 W3 := by rw [hW3]; exact ((Below.refl _ W2).alloc (Nat.le_refl _) _).alloc (by simp) _
  have h3 := h2.below b3
  have t3 : W3.heap[g]? = some (.cells #[.int .i64 T.nt, .int .i64 fam, .int .u8 sco, .int .i64 unt] 55 (0, 0)) := by rw [hW3, ← s2, Below.heap_alloc _ _ _ (by simp)]; exact (MapKept.heap_alloc W2 _).1
  have r3 : W3.heap[g + 1]? = some (.cells #[.int .i64 0, .int .i64 0, .int .u8 0, .int .i64 0] 55 (0, 0)) := by
    have h9 := (MapKept.heap_alloc (W2.alloc (.cells #[.int .i64 T.nt, .int .i64 fam, .int .u8 sco, .int .i64 unt] 55)) (.cells #[.int .i64 0, .int .i64 0, .int .u8 0, .int .i64 0] 55)).1
    rw [World.size_alloc, s2, ← hW3] at h9
    exact h9
  have o3 : Out (Mine p mf mt) w W3 := o2.trans (Out.of_below b3) (fun _ _ e => e)
  have h3d : StoAt W3.drew B p mf mt n1 n2 ⟨T.noted, T.nf, T.fs, T.nt + 1, T.ts⟩ := h3.keep rfl rfl rfl
  obtain ⟨D, hown, hh, ha⟩ := h3d.mapt
  obtain ⟨w4, hrun, hown4, hturn⟩ := hown.store intKeyed Tryz.underlying50 (by unfold maxLen; omega) (zkey (x := T.nt) (by omega) (by omega)) (Tok.sessR_mk ⟨T.nt, fam, sco, unt⟩)
  have hrun' : (Instr.mapUpdate 50 (.map (some mt)) (.int .i64 T.nt) (.agg #[.int .i64 T.nt, .int .i64 fam, .int .u8 sco, .int .i64 unt])).run Tryz.prog W3.drew = .ok () w4 := hrun
  have hl : ∀ t, t ∈ T.ts ++ [(⟨T.nt, fam, sco, unt⟩ : Tok.Sess)] ↔ t = ⟨T.nt, fam, sco, unt⟩ ∨ (t ∈ T.ts ∧ t.id ≠ (⟨T.nt, fam, sco, unt⟩ : Tok.Sess).id) := fun t => by
    rw [List.mem_append, List.mem_singleton]
    constructor
    · rintro (h9 | h9)
      · exact .inr ⟨h9, by have := idt t h9; show t.id ≠ T.nt; omega⟩
      · exact .inl h9
    · rintro (h9 | h9)
      · exact .inr h9
      · exact .inl h9.1
  have g4 : ∀ k, k < W3.heap.size → k ≠ mt → w4.heap[k]? = W3.heap[k]? := fun k hk hne => hturn.grown.block k hk (fun e => hne (by cases e; rfl))
  have l3 := h3.lts
  have h4 : StoAt w4 B p mf mt n1 (n2 + 1) ⟨T.noted, T.nf, T.fs, T.nt + 1, T.ts ++ [⟨T.nt, fam, sco, unt⟩]⟩ :=
    ⟨(g4 p l3.1 hpne.2).trans h3.obj, h3.mapf.keep (g4 mf l3.2.1 h.ne), NMap.put hown.isMap hh ha hown4 hl, h.bp, h.bf, h.bt, h.ne⟩
  have s3 : g + 1 < W3.heap.size := (Array.getElem?_eq_some_iff.1 r3).1
  have t4 : w4.heap[g]? = some (.cells #[.int .i64 T.nt, .int .i64 fam, .int .u8 sco, .int .i64 unt] 55 (0, 0)) := (g4 g (by omega) (by omega)).trans t3
  have r4 : w4.heap[g + 1]? = some (.cells #[.int .i64 0, .int .i64 0, .int .u8 0, .int .i64 0] 55 (0, 0)) := (g4 (g + 1) s3 (by omega)).trans r3
  have o4 : Out (Mine p mf mt) w w4 := o3.trans (Out.undrew (Out.of_grown (P := Mine p mf mt) hturn.grown (.inr (.inr rfl)))) (fun _ _ e => e)
  have Hg := hid (Tok.give_any hg0.numt (by show 0 ≤ T.nt; omega) (by show T.nt ≤ 1099511627777; omega))
  have H4 := hid h4
  have O4 := hid o4
  have R4 := hid r4
  have T4 := hid t4
  have HW3 := hid hW3
  have HW2 := hid hW2
  have HG := hid hg
  have HR := hid hrun'
  have T3 := hid t3
  have H3 := hid h3
  clear h h2 h3 h3d hown hh ha hrun hrun' hown4 hturn hl g4 h4 t4 r4 o4 o3 o2 b3 s2 r3 t3 s3 l3 hW3 hW2 hg0 hg idt hnt1 hpne
  go_enter Tryz.func63, Tryz.ntmps63
  go_wp2_with (go_at_call 84; refine Hg.out.mono ?_; rintro e w9 ⟨rfl, rfl⟩)
  rw [← HW2.out, ← HW3.out, ← HG.out]
  have k4 : W3.cell? ⟨p, 4, none⟩ = some (.map (some mt)) := H3.out.numt.c1
  have k0 : W3.cell? ⟨g, 0, none⟩ = some (.int .i64 T.nt) := cell_of_row _ _ 0 _ _ _ T3.out
  have k1 : W3.cell? ⟨g, 1, none⟩ = some (.int .i64 fam) := cell_of_row _ _ 1 _ _ _ T3.out
  have k2 : W3.cell? ⟨g, 2, none⟩ = some (.int .u8 sco) := cell_of_row _ _ 2 _ _ _ T3.out
  have k3 : W3.cell? ⟨g, 3, none⟩ = some (.int .i64 unt) := cell_of_row _ _ 3 _ _ _ T3.out
  have hrun' := HR.out
  have hpg : p ≠ g := by have := HG.out; omega
  have hpg1 : p ≠ g + 1 := by have := HG.out; omega
  obtain ⟨w5, hw5⟩ : ∃ w5, w5 = w4.setCell ⟨p, 0, none⟩ (.int .i64 now) := ⟨_, rfl⟩
  have t5 : w5.heap[g]? = some (.cells #[.int .i64 T.nt, .int .i64 fam, .int .u8 sco, .int .i64 unt] 55 (0, 0)) := by rw [hw5]; exact (heap_setCell_other _ _ _ _ (Ne.symm hpg)).trans T4.out
  have r5 : w5.heap[g + 1]? = some (.cells #[.int .i64 0, .int .i64 0, .int .u8 0, .int .i64 0] 55 (0, 0)) := by rw [hw5]; exact (heap_setCell_other _ _ _ _ (Ne.symm hpg1)).trans R4.out
  have h5 := H4.out.set0 now
  rw [← hw5] at h5
  have o5 : Out (Mine p mf mt) w w5 := by rw [hw5]; exact O4.out.setCell _ _ (.inl rfl)
  have hz := H4.out.z 0
  have hx := H4.out.c0
  have y0 : w5.cell? ⟨g, 0, none⟩ = some (.int .i64 T.nt) := cell_of_row _ _ 0 _ _ _ t5
  have y1 : w5.cell? ⟨g, 1, none⟩ = some (.int .i64 fam) := cell_of_row _ _ 1 _ _ _ t5
  have y2 : w5.cell? ⟨g, 2, none⟩ = some (.int .u8 sco) := cell_of_row _ _ 2 _ _ _ t5
  have y3 : w5.cell? ⟨g, 3, none⟩ = some (.int .i64 unt) := cell_of_row _ _ 3 _ _ _ t5
  have q0 : w5.cell? ⟨g + 1, 0, none⟩ = some (.int .i64 0) := cell_of_row _ _ 0 _ _ _ r5
  have q1 : w5.cell? ⟨g + 1, 1, none⟩ = some (.int .i64 0) := cell_of_row _ _ 1 _ _ _ r5
  have q2 : w5.cell? ⟨g + 1, 2, none⟩ = some (.int .u8 0) := cell_of_row _ _ 2 _ _ _ r5
  have q3 : w5.cell? ⟨g + 1, 3, none⟩ = some (.int .i64 0) := cell_of_row _ _ 3 _ _ _ r5
  have f0 : ∀ j, w5.frozen? ⟨g + 1, j, none⟩ = false := fun j => frozen_of_row _ _ j _ _ r5
  have hd1 : g + 1 < w5.heap.size := (Array.getElem?_eq_some_iff.1 r5).1
  have H5 := hid h5
  have O5 := hid o5
  clear h5 o5 t5 r5
  rw [hw5] at y0 y1 y2 y3 q0 q1 q2 q3 f0
  have HW5 := hid hw5
  clear hw5
  have z1 := f0 1
  have z2 := f0 2
  have z3 := f0 3
  have z0 := f0 0
  go_region
  all_goals (try go_wp2)
  have e5 := HW5.out
  have eg := HG.out
  have o6 : Out (fun k => Mine p mf mt k ∨ k = g + 1) w w5 := O5.out.imp (fun i hi e => .inl e)
  refine bodyPost_ret (v := .agg #[.int .i64 T.nt, .int .i64 fam, .int .u8 sco, .int .i64 unt]) (by simp [results, Tryz.results63, go_sem, q0, q1, q2, q3]) rfl ⟨rfl, ?_, ?_⟩
  · rw [← e5]
    exact (((H5.out.other (g + 1) 0 _ (by omega) (by omega) (by omega)).other (g + 1) 1 _ (by omega) (by omega) (by omega)).other (g + 1) 2 _ (by omega) (by omega) (by omega)).other (g + 1) 3 _ (by omega) (by omega) (by omega)
  · rw [← e5]
    exact ((((o6.setCell ⟨g + 1, 0, none⟩ _ (.inr rfl)).setCell ⟨g + 1, 1, none⟩ _ (.inr rfl)).setCell ⟨g + 1, 2, none⟩ _ (.inr rfl)).setCell ⟨g + 1, 3, none⟩ _ (.inr rfl)).imp (fun i hi e => by rcases e with e | e; exact e; omega)
end Go.Proofs.YtmnhhomkglffcaaGreatDoor
