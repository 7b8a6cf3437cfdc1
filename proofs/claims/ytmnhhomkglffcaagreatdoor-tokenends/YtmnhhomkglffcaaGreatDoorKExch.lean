/- Exchange of package token, by a contract. (Printed by gen/kexch.py.) -/
import Derived.Test.YtmnhhomkglffcaaGreatDoorKBits
namespace Go.Proofs.YtmnhhomkglffcaaGreatDoor
open Go.RowKit Go.Maps Go.Sort Go.Shelf
set_option linter.unusedVariables false
set_option maxRecDepth 20000

/-- what Exchange answers, and the store behind it -/
def tExch (T : Sto) (id sco now : Int) : Tok.Sess × Int × Sto :=
  if (tAccess T id now).2 ≠ 0 then (Tok.sess0, (tAccess T id now).2, T)
  else if ¬ nar sco (tAccess T id now).1.sco then (Tok.sess0, 14, T)
  else if 1099511627777 ≤ T.nt then (Tok.sess0, 7, T)
  else (⟨T.nt, (tAccess T id now).1.fam, sco, (tAccess T id now).1.unt⟩, 0, ⟨now, T.nf, T.fs, T.nt + 1, T.ts ++ [⟨T.nt, (tAccess T id now).1.fam, sco, (tAccess T id now).1.unt⟩]⟩)
theorem tAccess_ok {T : Sto} {id now : Int} (h : (tAccess T id now).2 = 0) : timeErr now T.noted = 0 ∧ (tAccess T id now).1 ∈ T.ts ∧ (tAccess T id now).1.id = id ∧ now < (tAccess T id now).1.unt := by
  unfold tAccess at h ⊢
  by_cases e : timeErr now T.noted = 0
  · rw [if_neg (by simp [e])] at h ⊢
    by_cases e2 : (kFind T.nt T.ts id).2 = 0
    · rw [if_neg (by simp [e2])] at h ⊢
      by_cases e3 : now < (kFind T.nt T.ts id).1.unt
      · rw [if_pos e3]
        exact ⟨e, (kFind_ok e2).1, (kFind_ok e2).2, e3⟩
      · rw [if_neg e3] at h; cases h
    · rw [if_pos e2] at h; exact absurd h e2
  · rw [if_pos e] at h; exact absurd h e
theorem tAccess_err {T : Sto} {id now : Int} (h : (tAccess T id now).2 ≠ 0) : (tAccess T id now).1 = Tok.sess0 := by
  unfold tAccess at h ⊢
  split
  · rfl
  · rename_i h1
    rw [if_neg h1] at h
    split
    · rfl
    · rename_i h2
      rw [if_neg h2] at h
      split
      · rename_i h3; rw [if_pos h3] at h; exact absurd rfl h
      · rfl

theorem nar_trans {a b c : Int} (h1 : nar a b) (h2 : nar b c) : nar a c := by
  unfold nar at *
  rw [← h1, Nat.and_assoc, h2]
theorem tExch_ok {T : Sto} (ok : StoOk T) (id sco now : Int) (hs : 0 ≤ sco ∧ sco ≤ 255) : StoOk (tExch T id sco now).2.2 := by
  unfold tExch
  by_cases e1 : (tAccess T id now).2 = 0
  · rw [if_neg (by simp [e1])]
    obtain ⟨a1, a2, a3, a4⟩ := tAccess_ok e1
    by_cases e2 : nar sco (tAccess T id now).1.sco
    · rw [if_neg (by simp [e2])]
      by_cases e3 : 1099511627777 ≤ T.nt
      · rw [if_pos e3]; exact ok
      · rw [if_neg e3]
        have b2 := ok.nt
        have tt := timeErr_ok a1
        obtain ⟨x, hx⟩ : ∃ x, x = (tAccess T id now).1 := ⟨_, rfl⟩
        rw [← hx] at a2 e2 ⊢
        refine ⟨ok.upf, ok.idf, ok.nf, pw_snoc ok.upt (fun a ha => (ok.idt a ha).2), fun s h => ?_, by show 1 ≤ T.nt + 1 ∧ T.nt + 1 ≤ _; omega, ⟨tt.1, tt.2.1⟩, ok.nx, fun t h => ?_, fun t h => ?_⟩
        · rcases mem_snoc h with h | h
          · have := ok.idt s h; show 1 ≤ s.id ∧ s.id < T.nt + 1; omega
          · subst h; show 1 ≤ T.nt ∧ T.nt < T.nt + 1; omega
        · rcases mem_snoc h with h | h
          · exact ok.tk t h
          · subst h
            obtain ⟨s, h1, h2, h3⟩ := ok.tk x a2
            exact ⟨s, h1, h2, nar_trans e2 h3⟩
        · rcases mem_snoc h with h | h
          · exact ok.tu t h
          · subst h; exact ⟨(ok.tu x a2).1, hs⟩
    · rw [if_pos e2]; exact ok
  · rw [if_pos e1]; exact ok

set_option maxHeartbeats 1600000 in
theorem exch_any {w : World} {B p mf mt n1 n2 : Nat} {T : Sto} (h : StoAt w B p mf mt n1 n2 T) (ok : StoOk T) (hn : n2 ≤ 1000000000) (id sco now : Int) (hs : 0 ≤ sco ∧ sco ≤ 255) :
    Calls Tryz.prog 22 #[.pointer (some ⟨p, 0, none⟩), .int .i64 id, .int .u8 sco, .int .i64 now] w fun e w' => e = .returned (.tuple #[Tok.sessV (tExch T id sco now).1, .int .i64 (tExch T id sco now).2.1]) ∧
      (∃ n2', n2' ≤ n2 + 1 ∧ StoAt w' B p mf mt n1 n2' (tExch T id sco now).2.2) ∧ Out (Mine p mf mt) w w' := by
  have hb1 : Below w.heap.size w (w.alloc (.cells #[.int .i64 0, .int .i64 0, .int .u8 0, .int .i64 0] 55)) := (Below.refl _ w).alloc (Nat.le_refl _) _
  have h1 := h.below hb1
  have Ha := hid (access_any h1 ok id now)
  have hp := h.lts.1
  have hf := h.lts.2.1
  have ht := h.lts.2.2
  have H := hid h
  have H1 := hid h1
  have hsc : (tAccess T id now).2 = 0 → 0 ≤ (tAccess T id now).1.sco ∧ (tAccess T id now).1.sco ≤ 255 := fun e => (ok.tu _ (tAccess_ok e).2.1).2
  have hnt := ok.nt.1
  have idt := ok.idt
  obtain ⟨x, hx⟩ : ∃ x, x = tAccess T id now := ⟨_, rfl⟩
  have e1 : tExch T id sco now = if x.2 ≠ 0 then (Tok.sess0, x.2, T) else if ¬ nar sco x.1.sco then (Tok.sess0, 14, T) else if 1099511627777 ≤ T.nt then (Tok.sess0, 7, T) else (⟨T.nt, x.1.fam, sco, x.1.unt⟩, 0, ⟨now, T.nf, T.fs, T.nt + 1, T.ts ++ [⟨T.nt, x.1.fam, sco, x.1.unt⟩]⟩) := by unfold tExch; rw [hx]
  rw [e1]
  rw [← hx] at Ha hsc
  obtain ⟨⟨a, b, c, d⟩, z⟩ := x
  clear h h1 ok hx e1
  unfold Tok.sessV at Ha
  dsimp only at Ha hsc ⊢
  by_cases hz : z = 0
  · subst hz
    rw [if_neg (by simp)]
    have hc := hsc rfl
    clear hsc
    by_cases hna : nar sco c
    · rw [if_neg (by simp [hna])]
      have Hna : Hid (decide (nar sco c) = true) := decide_eq_true hna
      by_cases hfu : 1099511627777 ≤ T.nt
      · rw [if_pos hfu]
        clear hna
        go_enter Tryz.func22, Tryz.ntmps22
        go_wp2_with (first
          | (go_at_call 18; refine Ha.out.mono ?_; rintro e9 w2 ⟨rfl, hb2⟩; have f1 := own4 hb2; have t2 : (w2.alloc (.cells #[.int .i64 a, .int .i64 b, .int .u8 c, .int .i64 d] 55)).heap[w2.heap.size]? = some (.cells #[.int .i64 a, .int .i64 b, .int .u8 c, .int .i64 d] 55 (0, 0)) := (MapKept.heap_alloc w2 _).1; have q0 : w2.cell? ⟨w.heap.size, 0, none⟩ = some (.int .i64 0) := cell_of_row _ _ 0 _ _ _ f1; have v0 : w2.frozen? ⟨w.heap.size, 0, none⟩ = false := frozen_of_row _ _ 0 _ _ f1; have q1 : w2.cell? ⟨w.heap.size, 1, none⟩ = some (.int .i64 0) := cell_of_row _ _ 1 _ _ _ f1; have v1 : w2.frozen? ⟨w.heap.size, 1, none⟩ = false := frozen_of_row _ _ 1 _ _ f1; have q2 : w2.cell? ⟨w.heap.size, 2, none⟩ = some (.int .u8 0) := cell_of_row _ _ 2 _ _ _ f1; have v2 : w2.frozen? ⟨w.heap.size, 2, none⟩ = false := frozen_of_row _ _ 2 _ _ f1; have q3 : w2.cell? ⟨w.heap.size, 3, none⟩ = some (.int .i64 0) := cell_of_row _ _ 3 _ _ _ f1; have v3 : w2.frozen? ⟨w.heap.size, 3, none⟩ = false := frozen_of_row _ _ 3 _ _ f1; have hd := (Array.getElem?_eq_some_iff.1 f1).1; have F1 := hid f1; have HB2 := hid (hb1.trans (hb2.mono (by simp))); have H2 := hid (H1.out.below hb2); have b3 : Below w2.heap.size w2 (w2.alloc (.cells #[.int .i64 a, .int .i64 b, .int .u8 c, .int .i64 d] 55)) := (Below.refl _ _).alloc (Nat.le_refl _) _; have H3 := hid (H2.out.below b3); clear f1 hb2 t2 b3)
          | (go_at_call 61; refine (isNarrower_any sco c hs hc _).mono ?_; rintro e9 w3 ⟨rfl, rfl⟩; rw [Hna.out])
          | (go_at_call 62; refine (Tok.full_any H3.out.numt).mono ?_; rintro e9 w3 ⟨rfl, rfl⟩; rw [decide_eq_true hfu]))
        obtain ⟨w7, hw7⟩ : ∃ w7, w7 = set4 w2 w.heap.size (.int .i64 0) (.int .i64 0) (.int .u8 0) (.int .i64 0) := ⟨_, rfl⟩
        have f7 : w7.heap[w.heap.size]? = some (.cells #[.int .i64 0, .int .i64 0, .int .u8 0, .int .i64 0] 55 (0, 0)) := by rw [hw7]; exact set4_same F1.out
        show bodyPost _ _ _ _ _ ((set4 w2 w.heap.size (.int .i64 0) (.int .i64 0) (.int .u8 0) (.int .i64 0)).alloc (.cells #[.int .i64 a, .int .i64 b, .int .u8 c, .int .i64 d] 55))
        rw [← hw7]
        obtain ⟨c0, c1, c2, c3⟩ := row4 f7
        have l0 := World.block_lt_of_cell? _ _ c0
        have b7 : Below w.heap.size w w7 := by rw [hw7]; exact below_set4 HB2.out (Nat.le_refl _) (Nat.le_refl _) _ _ _ _
        have k7 := b7.alloc b7.size (.cells #[.int .i64 a, .int .i64 b, .int .u8 c, .int .i64 d] 55)
        exact bodyPost_ret (v := .tuple #[Tok.sessV Tok.sess0, .int .i64 7]) (by simp [results, Tryz.results22, go_sem, Tok.sessV, Tok.sess0, c0, c1, c2, c3, l0]) rfl ⟨rfl, ⟨n2, by omega, H.out.below k7⟩, Out.of_below k7⟩
      · rw [if_neg hfu]
        have Hfu : Hid (decide (1099511627777 ≤ T.nt) = false) := decide_eq_false hfu
        have Hi := hid (fun (W : World) (hW : StoAt W B p mf mt n1 n2 T) => issue_any hW idt hnt hn (by omega) 0 b sco d now)
        clear hna hfu
        go_enter Tryz.func22, Tryz.ntmps22
        go_wp2_with (first
          | (go_at_call 18; refine Ha.out.mono ?_; rintro e9 w2 ⟨rfl, hb2⟩; have f1 := own4 hb2; have t2 : (w2.alloc (.cells #[.int .i64 a, .int .i64 b, .int .u8 c, .int .i64 d] 55)).heap[w2.heap.size]? = some (.cells #[.int .i64 a, .int .i64 b, .int .u8 c, .int .i64 d] 55 (0, 0)) := (MapKept.heap_alloc w2 _).1; have q0 : w2.cell? ⟨w.heap.size, 0, none⟩ = some (.int .i64 0) := cell_of_row _ _ 0 _ _ _ f1; have v0 : w2.frozen? ⟨w.heap.size, 0, none⟩ = false := frozen_of_row _ _ 0 _ _ f1; have q1 : w2.cell? ⟨w.heap.size, 1, none⟩ = some (.int .i64 0) := cell_of_row _ _ 1 _ _ _ f1; have v1 : w2.frozen? ⟨w.heap.size, 1, none⟩ = false := frozen_of_row _ _ 1 _ _ f1; have q2 : w2.cell? ⟨w.heap.size, 2, none⟩ = some (.int .u8 0) := cell_of_row _ _ 2 _ _ _ f1; have v2 : w2.frozen? ⟨w.heap.size, 2, none⟩ = false := frozen_of_row _ _ 2 _ _ f1; have q3 : w2.cell? ⟨w.heap.size, 3, none⟩ = some (.int .i64 0) := cell_of_row _ _ 3 _ _ _ f1; have v3 : w2.frozen? ⟨w.heap.size, 3, none⟩ = false := frozen_of_row _ _ 3 _ _ f1; have hd := (Array.getElem?_eq_some_iff.1 f1).1; have F1 := hid f1; have HB2 := hid (hb1.trans (hb2.mono (by simp))); have H2 := hid (H1.out.below hb2); have b3 : Below w2.heap.size w2 (w2.alloc (.cells #[.int .i64 a, .int .i64 b, .int .u8 c, .int .i64 d] 55)) := (Below.refl _ _).alloc (Nat.le_refl _) _; have H3 := hid (H2.out.below b3); clear f1 hb2 t2 b3)
          | (go_at_call 61; refine (isNarrower_any sco c hs hc _).mono ?_; rintro e9 w3 ⟨rfl, rfl⟩; rw [Hna.out])
          | (go_at_call 62; refine (Tok.full_any H3.out.numt).mono ?_; rintro e9 w3 ⟨rfl, rfl⟩; rw [Hfu.out])
          | (go_at_call 63; refine (Hi.out _ H3.out).mono ?_; rintro e9 w5 ⟨rfl, h5, o5⟩; have f5 := (o5.block w.heap.size (by simp; omega) (by unfold Mine; omega)).trans ((Below.heap_alloc w2 _ _ hd).trans F1.out); clear q0 q1 q2 q3 v0 v1 v2 v3; have q0 : w5.cell? ⟨w.heap.size, 0, none⟩ = some (.int .i64 0) := cell_of_row _ _ 0 _ _ _ f5; have v0 : w5.frozen? ⟨w.heap.size, 0, none⟩ = false := frozen_of_row _ _ 0 _ _ f5; have q1 : w5.cell? ⟨w.heap.size, 1, none⟩ = some (.int .i64 0) := cell_of_row _ _ 1 _ _ _ f5; have v1 : w5.frozen? ⟨w.heap.size, 1, none⟩ = false := frozen_of_row _ _ 1 _ _ f5; have q2 : w5.cell? ⟨w.heap.size, 2, none⟩ = some (.int .u8 0) := cell_of_row _ _ 2 _ _ _ f5; have v2 : w5.frozen? ⟨w.heap.size, 2, none⟩ = false := frozen_of_row _ _ 2 _ _ f5; have q3 : w5.cell? ⟨w.heap.size, 3, none⟩ = some (.int .i64 0) := cell_of_row _ _ 3 _ _ _ f5; have v3 : w5.frozen? ⟨w.heap.size, 3, none⟩ = false := frozen_of_row _ _ 3 _ _ f5; have hd5 := (Array.getElem?_eq_some_iff.1 f5).1; have F5 := hid f5; have H5 := hid h5; have O5 := hid o5; clear f5 h5 o5))
        obtain ⟨w7, hw7⟩ : ∃ w7, w7 = set4 w5 w.heap.size (.int .i64 T.nt) (.int .i64 b) (.int .u8 sco) (.int .i64 d) := ⟨_, rfl⟩
        have f7 : w7.heap[w.heap.size]? = some (.cells #[.int .i64 T.nt, .int .i64 b, .int .u8 sco, .int .i64 d] 55 (0, 0)) := by rw [hw7]; exact set4_same F5.out
        have h7 := H5.out.four (g := w.heap.size) (.int .i64 T.nt) (.int .i64 b) (.int .u8 sco) (.int .i64 d) (by omega) (by omega) (by omega)
        have bb := HB2.out.alloc HB2.out.size (.cells #[.int .i64 a, .int .i64 b, .int .u8 c, .int .i64 d] 55)
        have o7 := ((Out.of_below (P := Mine p mf mt) bb).trans O5.out (fun _ _ e => e)).four (g := w.heap.size) (Nat.le_refl _) (.int .i64 T.nt) (.int .i64 b) (.int .u8 sco) (.int .i64 d)
        show bodyPost _ _ _ _ _ (set4 w5 w.heap.size (.int .i64 T.nt) (.int .i64 b) (.int .u8 sco) (.int .i64 d))
        rw [← hw7] at h7 o7 ⊢
        obtain ⟨c0, c1, c2, c3⟩ := row4 f7
        exact bodyPost_ret (v := .tuple #[Tok.sessV ⟨T.nt, b, sco, d⟩, .int .i64 0]) (by simp [results, Tryz.results22, go_sem, Tok.sessV, c0, c1, c2, c3]) rfl ⟨rfl, ⟨_, Nat.le_refl _, h7⟩, o7⟩
    · rw [if_pos hna]
      have Hna : Hid (decide (nar sco c) = false) := decide_eq_false hna
      clear hna
      go_enter Tryz.func22, Tryz.ntmps22
      go_wp2_with (first
        | (go_at_call 18; refine Ha.out.mono ?_; rintro e9 w2 ⟨rfl, hb2⟩; have f1 := own4 hb2; have t2 : (w2.alloc (.cells #[.int .i64 a, .int .i64 b, .int .u8 c, .int .i64 d] 55)).heap[w2.heap.size]? = some (.cells #[.int .i64 a, .int .i64 b, .int .u8 c, .int .i64 d] 55 (0, 0)) := (MapKept.heap_alloc w2 _).1; have q0 : w2.cell? ⟨w.heap.size, 0, none⟩ = some (.int .i64 0) := cell_of_row _ _ 0 _ _ _ f1; have v0 : w2.frozen? ⟨w.heap.size, 0, none⟩ = false := frozen_of_row _ _ 0 _ _ f1; have q1 : w2.cell? ⟨w.heap.size, 1, none⟩ = some (.int .i64 0) := cell_of_row _ _ 1 _ _ _ f1; have v1 : w2.frozen? ⟨w.heap.size, 1, none⟩ = false := frozen_of_row _ _ 1 _ _ f1; have q2 : w2.cell? ⟨w.heap.size, 2, none⟩ = some (.int .u8 0) := cell_of_row _ _ 2 _ _ _ f1; have v2 : w2.frozen? ⟨w.heap.size, 2, none⟩ = false := frozen_of_row _ _ 2 _ _ f1; have q3 : w2.cell? ⟨w.heap.size, 3, none⟩ = some (.int .i64 0) := cell_of_row _ _ 3 _ _ _ f1; have v3 : w2.frozen? ⟨w.heap.size, 3, none⟩ = false := frozen_of_row _ _ 3 _ _ f1; have hd := (Array.getElem?_eq_some_iff.1 f1).1; have F1 := hid f1; have HB2 := hid (hb1.trans (hb2.mono (by simp))); have H2 := hid (H1.out.below hb2); have b3 : Below w2.heap.size w2 (w2.alloc (.cells #[.int .i64 a, .int .i64 b, .int .u8 c, .int .i64 d] 55)) := (Below.refl _ _).alloc (Nat.le_refl _) _; have H3 := hid (H2.out.below b3); clear f1 hb2 t2 b3)
        | (go_at_call 61; refine (isNarrower_any sco c hs hc _).mono ?_; rintro e9 w3 ⟨rfl, rfl⟩; rw [Hna.out]))
      obtain ⟨w7, hw7⟩ : ∃ w7, w7 = set4 w2 w.heap.size (.int .i64 0) (.int .i64 0) (.int .u8 0) (.int .i64 0) := ⟨_, rfl⟩
      have f7 : w7.heap[w.heap.size]? = some (.cells #[.int .i64 0, .int .i64 0, .int .u8 0, .int .i64 0] 55 (0, 0)) := by rw [hw7]; exact set4_same F1.out
      show bodyPost _ _ _ _ _ ((set4 w2 w.heap.size (.int .i64 0) (.int .i64 0) (.int .u8 0) (.int .i64 0)).alloc (.cells #[.int .i64 a, .int .i64 b, .int .u8 c, .int .i64 d] 55))
      rw [← hw7]
      obtain ⟨c0, c1, c2, c3⟩ := row4 f7
      have l0 := World.block_lt_of_cell? _ _ c0
      have b7 : Below w.heap.size w w7 := by rw [hw7]; exact below_set4 HB2.out (Nat.le_refl _) (Nat.le_refl _) _ _ _ _
      have k7 := b7.alloc b7.size (.cells #[.int .i64 a, .int .i64 b, .int .u8 c, .int .i64 d] 55)
      exact bodyPost_ret (v := .tuple #[Tok.sessV Tok.sess0, .int .i64 14]) (by simp [results, Tryz.results22, go_sem, Tok.sessV, Tok.sess0, c0, c1, c2, c3, l0]) rfl ⟨rfl, ⟨n2, by omega, H.out.below k7⟩, Out.of_below k7⟩
  · rw [if_pos hz]
    have qz : (z != 0) = true := by simpa using hz
    clear hz hsc
    go_enter Tryz.func22, Tryz.ntmps22
    go_wp2_with (go_at_call 18; refine Ha.out.mono ?_; rintro e9 w2 ⟨rfl, hb2⟩; have f1 := own4 hb2; have t2 : (w2.alloc (.cells #[.int .i64 a, .int .i64 b, .int .u8 c, .int .i64 d] 55)).heap[w2.heap.size]? = some (.cells #[.int .i64 a, .int .i64 b, .int .u8 c, .int .i64 d] 55 (0, 0)) := (MapKept.heap_alloc w2 _).1; have q0 : w2.cell? ⟨w.heap.size, 0, none⟩ = some (.int .i64 0) := cell_of_row _ _ 0 _ _ _ f1; have v0 : w2.frozen? ⟨w.heap.size, 0, none⟩ = false := frozen_of_row _ _ 0 _ _ f1; have q1 : w2.cell? ⟨w.heap.size, 1, none⟩ = some (.int .i64 0) := cell_of_row _ _ 1 _ _ _ f1; have v1 : w2.frozen? ⟨w.heap.size, 1, none⟩ = false := frozen_of_row _ _ 1 _ _ f1; have q2 : w2.cell? ⟨w.heap.size, 2, none⟩ = some (.int .u8 0) := cell_of_row _ _ 2 _ _ _ f1; have v2 : w2.frozen? ⟨w.heap.size, 2, none⟩ = false := frozen_of_row _ _ 2 _ _ f1; have q3 : w2.cell? ⟨w.heap.size, 3, none⟩ = some (.int .i64 0) := cell_of_row _ _ 3 _ _ _ f1; have v3 : w2.frozen? ⟨w.heap.size, 3, none⟩ = false := frozen_of_row _ _ 3 _ _ f1; have hd := (Array.getElem?_eq_some_iff.1 f1).1; have F1 := hid f1; have HB2 := hid (hb1.trans (hb2.mono (by simp))); have H2 := hid (H1.out.below hb2); have b3 : Below w2.heap.size w2 (w2.alloc (.cells #[.int .i64 a, .int .i64 b, .int .u8 c, .int .i64 d] 55)) := (Below.refl _ _).alloc (Nat.le_refl _) _; have H3 := hid (H2.out.below b3); clear f1 hb2 t2 b3)
    obtain ⟨w7, hw7⟩ : ∃ w7, w7 = set4 w2 w.heap.size (.int .i64 0) (.int .i64 0) (.int .u8 0) (.int .i64 0) := ⟨_, rfl⟩
    have f7 : w7.heap[w.heap.size]? = some (.cells #[.int .i64 0, .int .i64 0, .int .u8 0, .int .i64 0] 55 (0, 0)) := by rw [hw7]; exact set4_same F1.out
    show bodyPost _ _ _ _ _ ((set4 w2 w.heap.size (.int .i64 0) (.int .i64 0) (.int .u8 0) (.int .i64 0)).alloc (.cells #[.int .i64 a, .int .i64 b, .int .u8 c, .int .i64 d] 55))
    rw [← hw7]
    obtain ⟨c0, c1, c2, c3⟩ := row4 f7
    have l0 := World.block_lt_of_cell? _ _ c0
    have b7 : Below w.heap.size w w7 := by rw [hw7]; exact below_set4 HB2.out (Nat.le_refl _) (Nat.le_refl _) _ _ _ _
    have k7 := b7.alloc b7.size (.cells #[.int .i64 a, .int .i64 b, .int .u8 c, .int .i64 d] 55)
    exact bodyPost_ret (v := .tuple #[Tok.sessV Tok.sess0, .int .i64 z]) (by simp [results, Tryz.results22, go_sem, Tok.sessV, Tok.sess0, c0, c1, c2, c3, l0]) rfl ⟨rfl, ⟨n2, by omega, H.out.below k7⟩, Out.of_below k7⟩

end Go.Proofs.YtmnhhomkglffcaaGreatDoor
