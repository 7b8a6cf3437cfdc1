/- Refresh of package token: a refresh token that is taken; Refresh whole. (Printed by gen/kref4.py.) -/
import Derived.Test.YtmnhhomkglffcaaGreatDoorKRef3
namespace Go.Proofs.YtmnhhomkglffcaaGreatDoor
open Go.RowKit Go.Maps Go.Sort Go.Shelf
set_option linter.unusedVariables false
set_option maxRecDepth 20000

theorem timeErr_ok {now noted : Int} (h : timeErr now noted = 0) : 0 ≤ now ∧ now ≤ 1099511627776 ∧ noted ≤ now := by
  unfold timeErr at h
  split at h
  · omega
  · split at h <;> omega
theorem putFam_mem {l : List Fam.Sess} {s s0 : Fam.Sess} (h0 : s0 ∈ l) (he : s0.id = s.id) (t : Fam.Sess) : t ∈ putFam l s ↔ t = s ∨ (t ∈ l ∧ t.id ≠ s.id) := by
  unfold putFam
  rw [List.mem_map]
  constructor
  · rintro ⟨u, hu, e⟩
    by_cases h1 : u.id = s.id
    · rw [if_pos h1] at e; exact .inl e.symm
    · rw [if_neg h1] at e; subst e; exact .inr ⟨hu, h1⟩
  · rintro (e | ⟨h1, h2⟩)
    · exact ⟨s0, h0, by rw [if_pos he, e]⟩
    · exact ⟨t, h1, by rw [if_neg h2]⟩

set_option maxHeartbeats 1600000 in
theorem refresh_ok {w : World} {B p mf mt n1 n2 : Nat} {T : Sto} (h : StoAt w B p mf mt n1 n2 T) (ok : StoOk T) (hn1 : n1 ≤ 1000000000) (hn : n2 ≤ 1000000000) (id num now : Int) (he : (fAt T id now).2 = 0) (hs2 : spendErr T (fAt T id now).1 num = 0) :
    Calls Tryz.prog 17 #[.pointer (some ⟨p, 0, none⟩), .int .i64 id, .int .i64 num, .int .i64 now] w fun e w' => e = .returned (.tuple #[Fam.sessV (spent (fAt T id now).1), Tok.sessV ⟨T.nt, (fAt T id now).1.id, (fAt T id now).1.sco, untilOf now⟩, .int .i64 0]) ∧
      StoAt w' B p mf mt (n1 + 1) (n2 + 1) ⟨now, T.nf, putFam T.fs (spent (fAt T id now).1), T.nt + 1, T.ts ++ [⟨T.nt, (fAt T id now).1.id, (fAt T id now).1.sco, untilOf now⟩]⟩ ∧ Out (Mine p mf mt) w w' := by
  have hp := h.lts.1
  have hf := h.lts.2.1
  have ht := h.lts.2.2
  have hb0 : Below w.heap.size w ((w.alloc (.cells #[.int .i64 0, .int .i64 0, .string ⟨#[]⟩, .int .u8 0, .int .i64 0] 35)).alloc (.cells #[.int .i64 0, .int .i64 0, .int .u8 0, .int .i64 0] 55)) := ((Below.refl _ w).alloc (Nat.le_refl _) _).alloc (by simp) _
  have h0 := h.below hb0
  have He := hid (familyAt_any h0 ok id now)
  obtain ⟨te0, ef⟩ := fAt_ok he
  have hin : (fAt T id now).1 ∈ T.fs := by rw [ef]; exact (fFind_ok (by rw [← ef]; exact he)).1
  have tt := timeErr_ok te0
  have idb := ok.idf _ hin
  have nfb := ok.nf
  have nxb := (ok.nx _ hin).1
  have hl := putFam_mem (s := spent (fAt T id now).1) hin rfl
  have sp2 : T.nt ≤ 1099511627776 ∧ (fAt T id now).1.nxt < 1099511627776 := by
    unfold spendErr at hs2
    split at hs2
    · cases hs2
    · split at hs2
      · cases hs2
      · split at hs2
        · cases hs2
        · omega
  have nt1 := ok.nt.1
  have idt := ok.idt
  obtain ⟨x, hx⟩ : ∃ x, x = fAt T id now := ⟨_, rfl⟩
  rw [← hx] at He he hs2 hl idb nxb sp2 ⊢
  obtain ⟨⟨a, b, c, d, e⟩, z⟩ := x
  unfold Fam.sessV at He
  unfold spent at hl ⊢
  dsimp only at He he hs2 hl idb nxb sp2 ⊢
  rw [he] at He
  have Hsp : Hid (∀ W, StoAt W B p mf mt n1 n2 T → Calls Tryz.prog 51 #[.pointer (some ⟨p, 0, none⟩), .agg #[.int .i64 a, .int .i64 b, .string c, .int .u8 d, .int .i64 e], .int .i64 num] W fun e w' => e = .returned (.int .i64 0) ∧ Below W.heap.size W w') := fun W hW => by rw [← hs2]; exact spendError_any hW ⟨a, b, c, d, e⟩ num
  have H0 := hid h0
  have HB0 := hid hb0
  obtain ⟨L, hL⟩ : ∃ L, L = putFam T.fs ⟨a, b, c, d, e + 1⟩ := ⟨_, rfl⟩
  rw [← hL] at hl ⊢
  have Hgo : Hid (∀ W, StoAt W B p mf mt n1 n2 T → Calls Tryz.prog 49 #[.pointer (some ⟨p, 0, none⟩), .agg #[.int .i64 a, .int .i64 b, .string c, .int .u8 d, .int .i64 (e + 1)], .int .i64 now] W fun e9 w' => e9 = .returned (.agg #[.int .i64 T.nt, .int .i64 a, .int .u8 d, .int .i64 (untilOf now)]) ∧
      StoAt w' B p mf mt (n1 + 1) (n2 + 1) ⟨now, T.nf, L, T.nt + 1, T.ts ++ [⟨T.nt, a, d, untilOf now⟩]⟩ ∧ Out (Mine p mf mt) W w') := fun W hW => goOn_any hW idt nt1 hn1 hn sp2.1 ⟨a, b, c, d, e + 1⟩ (by show 1 ≤ a ∧ a ≤ 1099511627776; omega) L hl now ⟨tt.1, tt.2.1⟩
  clear h ok hx he h0 hb0 hs2 hin ef te0 hl hL idt nt1 idb nfb tt hn1 hn
  go_enter Tryz.func17, Tryz.ntmps17
  go_wp2_with (first
    | (go_at_call 50; refine He.out.mono ?_; rintro e9 w1 ⟨rfl, hb1⟩; have hs1 := hb1.size; simp only [World.size_alloc] at hs1; have f1 : w1.heap[w.heap.size]? = some (.cells #[.int .i64 0, .int .i64 0, .string ⟨#[]⟩, .int .u8 0, .int .i64 0] 35 (0, 0)) := (by rw [hb1.block w.heap.size (by simp; omega), Below.heap_alloc _ _ _ (by simp)]; exact (MapKept.heap_alloc w _).1); have u1 : w1.heap[w.heap.size + 1]? = some (.cells #[.int .i64 0, .int .i64 0, .int .u8 0, .int .i64 0] 55 (0, 0)) := (by have h9 := (MapKept.heap_alloc (w.alloc (.cells #[.int .i64 0, .int .i64 0, .string ⟨#[]⟩, .int .u8 0, .int .i64 0] 35)) (.cells #[.int .i64 0, .int .i64 0, .int .u8 0, .int .i64 0] 55)).1; rw [World.size_alloc] at h9; rw [hb1.block (w.heap.size + 1) (by simp)]; exact h9); have b2 : Below w1.heap.size w1 (w1.alloc (.cells #[.int .i64 a, .int .i64 b, .string c, .int .u8 d, .int .i64 e] 35)) := (Below.refl _ _).alloc (Nat.le_refl _) _; have H2 := hid ((H0.out.below hb1).below b2); have HB2 := hid ((HB0.out.trans (hb1.mono (by simp; omega))).trans (b2.mono (by omega))); have F2 := hid ((b2.block _ (by omega)).trans f1); have U2 := hid ((b2.block _ (by omega)).trans u1); have hk1 : w.heap.size + 1 < w1.heap.size := (by omega); clear f1 u1 hb1 hs1 b2)
    | (go_at_call 51; refine (Hsp.out _ H2.out).mono ?_; rintro e9 w3 ⟨rfl, hb3⟩; have hs3 := hb3.size; simp only [World.size_alloc] at hs3; have f3 := (hb3.block w.heap.size (by simp; omega)).trans F2.out; have u3 := (hb3.block (w.heap.size + 1) (by simp; omega)).trans U2.out; have t3 : w3.heap[w1.heap.size]? = some (.cells #[.int .i64 a, .int .i64 b, .string c, .int .u8 d, .int .i64 e] 35 (0, 0)) := (hb3.block w1.heap.size (by simp)).trans (MapKept.heap_alloc w1 _).1; have F3 := hid f3; have U3 := hid u3; have T3 := hid t3; have HB3 := hid hb3; have H3 := hid (H2.out.below hb3); have y4 : w3.cell? ⟨w1.heap.size, 4, none⟩ = some (.int .i64 e) := cell_of_row _ _ 4 _ _ _ t3; have z4 : w3.frozen? ⟨w1.heap.size, 4, none⟩ = false := frozen_of_row _ _ 4 _ _ t3; have hd1 := (Array.getElem?_eq_some_iff.1 t3).1; clear f3 u3 t3 hb3 hs3))
  obtain ⟨k, hk⟩ : ∃ k, k = w1.heap.size := ⟨_, rfl⟩
  obtain ⟨g, hg⟩ : ∃ g, g = w.heap.size := ⟨_, rfl⟩
  obtain ⟨W4, hW4⟩ : ∃ W4, W4 = w3.setCell ⟨k, 4, none⟩ (.int .i64 (e + 1)) := ⟨_, rfl⟩
  have s3 := HB3.out.size
  simp only [World.size_alloc] at s3
  have t4 : W4.heap[k]? = some (.cells #[.int .i64 a, .int .i64 b, .string c, .int .u8 d, .int .i64 (e + 1)] 35 (0, 0)) := by
    have h9 := T3.out
    rw [← hk] at h9
    rw [hW4, heap_setCell_same _ _ _ _ _ _ h9]; rfl
  have f4 : W4.heap[g]? = some (.cells #[.int .i64 0, .int .i64 0, .string ⟨#[]⟩, .int .u8 0, .int .i64 0] 35 (0, 0)) := by rw [hW4, hg]; exact (heap_setCell_other _ _ _ _ (by show w.heap.size ≠ k; omega)).trans F3.out
  have u4 : W4.heap[g + 1]? = some (.cells #[.int .i64 0, .int .i64 0, .int .u8 0, .int .i64 0] 55 (0, 0)) := by rw [hW4, hg]; exact (heap_setCell_other _ _ _ _ (by show w.heap.size + 1 ≠ k; omega)).trans U3.out
  have h4 : StoAt W4.drew B p mf mt n1 n2 T := by rw [hW4]; exact (H3.out.other k 4 _ (by omega) (by omega) (by omega)).keep rfl rfl rfl
  have o4 : Out (Mine p mf mt) w W4 := by
    rw [hW4]
    have h9 : Out (fun i => i = k) w (w3.setCell ⟨k, 4, none⟩ (.int .i64 (e + 1))) := (Out.of_below (HB2.out.trans (HB3.out.mono (by simp; omega)))).setCell ⟨k, 4, none⟩ _ rfl
    exact h9.imp (fun i hi e => by omega)
  have hd3 : k < W4.heap.size := (Array.getElem?_eq_some_iff.1 t4).1
  have hdg : g < W4.heap.size := (Array.getElem?_eq_some_iff.1 f4).1
  have hdu : g + 1 < W4.heap.size := (Array.getElem?_eq_some_iff.1 u4).1
  have Hgo2 := hid (Hgo.out _ h4)
  have T4 := hid t4
  have F4 := hid f4
  have U4 := hid u4
  have O4 := hid o4
  have k0 : W4.cell? ⟨k, 0, none⟩ = some (.int .i64 a) := cell_of_row _ _ 0 _ _ _ t4
  have k1 : W4.cell? ⟨k, 1, none⟩ = some (.int .i64 b) := cell_of_row _ _ 1 _ _ _ t4
  have k2 : W4.cell? ⟨k, 2, none⟩ = some (.string c) := cell_of_row _ _ 2 _ _ _ t4
  have k3 : W4.cell? ⟨k, 3, none⟩ = some (.int .u8 d) := cell_of_row _ _ 3 _ _ _ t4
  have k4 : W4.cell? ⟨k, 4, none⟩ = some (.int .i64 (e + 1)) := cell_of_row _ _ 4 _ _ _ t4
  rw [← hk, ← hW4, ← hg]
  have hgk : g + 1 < k := by omega
  have HG := hid hg
  clear t4 f4 u4 o4 h4 hW4 s3 hk hg y4 z4 hd1 hk1 He Hsp Hgo
  go_region_with (go_at_call 49; refine Hgo2.out.mono ?_; rintro e9 w5 ⟨rfl, h5, o5⟩; have HG9 := HG.out; have r5 := (o5.block k hd3 (by unfold Mine; omega)).trans T4.out; have f5 := (o5.block g hdg (by unfold Mine; omega)).trans F4.out; have u5 := (o5.block (g + 1) hdu (by unfold Mine; omega)).trans U4.out; have y0 : w5.cell? ⟨k, 0, none⟩ = some (.int .i64 a) := cell_of_row _ _ 0 _ _ _ r5; have y1 : w5.cell? ⟨k, 1, none⟩ = some (.int .i64 b) := cell_of_row _ _ 1 _ _ _ r5; have y2 : w5.cell? ⟨k, 2, none⟩ = some (.string c) := cell_of_row _ _ 2 _ _ _ r5; have y3 : w5.cell? ⟨k, 3, none⟩ = some (.int .u8 d) := cell_of_row _ _ 3 _ _ _ r5; have y4 : w5.cell? ⟨k, 4, none⟩ = some (.int .i64 (e + 1)) := cell_of_row _ _ 4 _ _ _ r5; have q0 : w5.cell? ⟨g, 0, none⟩ = some (.int .i64 0) := cell_of_row _ _ 0 _ _ _ f5; have v0 : w5.frozen? ⟨g, 0, none⟩ = false := frozen_of_row _ _ 0 _ _ f5; have q1 : w5.cell? ⟨g, 1, none⟩ = some (.int .i64 0) := cell_of_row _ _ 1 _ _ _ f5; have v1 : w5.frozen? ⟨g, 1, none⟩ = false := frozen_of_row _ _ 1 _ _ f5; have q2 : w5.cell? ⟨g, 2, none⟩ = some (.string ⟨#[]⟩) := cell_of_row _ _ 2 _ _ _ f5; have v2 : w5.frozen? ⟨g, 2, none⟩ = false := frozen_of_row _ _ 2 _ _ f5; have q3 : w5.cell? ⟨g, 3, none⟩ = some (.int .u8 0) := cell_of_row _ _ 3 _ _ _ f5; have v3 : w5.frozen? ⟨g, 3, none⟩ = false := frozen_of_row _ _ 3 _ _ f5; have q4 : w5.cell? ⟨g, 4, none⟩ = some (.int .i64 0) := cell_of_row _ _ 4 _ _ _ f5; have v4 : w5.frozen? ⟨g, 4, none⟩ = false := frozen_of_row _ _ 4 _ _ f5; have x0 : w5.cell? ⟨g + 1, 0, none⟩ = some (.int .i64 0) := cell_of_row _ _ 0 _ _ _ u5; have j0 : w5.frozen? ⟨g + 1, 0, none⟩ = false := frozen_of_row _ _ 0 _ _ u5; have x1 : w5.cell? ⟨g + 1, 1, none⟩ = some (.int .i64 0) := cell_of_row _ _ 1 _ _ _ u5; have j1 : w5.frozen? ⟨g + 1, 1, none⟩ = false := frozen_of_row _ _ 1 _ _ u5; have x2 : w5.cell? ⟨g + 1, 2, none⟩ = some (.int .u8 0) := cell_of_row _ _ 2 _ _ _ u5; have j2 : w5.frozen? ⟨g + 1, 2, none⟩ = false := frozen_of_row _ _ 2 _ _ u5; have x3 : w5.cell? ⟨g + 1, 3, none⟩ = some (.int .i64 0) := cell_of_row _ _ 3 _ _ _ u5; have j3 : w5.frozen? ⟨g + 1, 3, none⟩ = false := frozen_of_row _ _ 3 _ _ u5; have hdk := (Array.getElem?_eq_some_iff.1 r5).1; have hdf := (Array.getElem?_eq_some_iff.1 f5).1; have hdt := (Array.getElem?_eq_some_iff.1 u5).1; have H5 := hid h5; have O5 := hid o5; have F5 := hid f5; have U5 := hid u5; clear h5 o5 r5 f5 u5 HG9)
  all_goals (try go_wp2)
  all_goals
    show bodyPost _ _ _ _ _ (set4 (set5 w5 g (.int .i64 a) (.int .i64 b) (.string c) (.int .u8 d) (.int .i64 (e + 1))) (g + 1) (.int .i64 T.nt) (.int .i64 a) (.int .u8 d) (.int .i64 (untilOf now)))
    have hg := HG.out
    obtain ⟨w7, hw7, h7, o7, ⟨c0, c1, c2, c3, c4⟩, d0, d1, d2, d3⟩ := lays2 F5.out U5.out hg H5.out (by omega) (by omega) (by omega) (O4.out.trans (Out.undrew O5.out) (fun _ _ e => e)) (.int .i64 a) (.int .i64 b) (.string c) (.int .u8 d) (.int .i64 (e + 1)) (.int .i64 T.nt) (.int .i64 a) (.int .u8 d) (.int .i64 (untilOf now))
    rw [← hw7]
    exact bodyPost_ret (v := .tuple #[Fam.sessV ⟨a, b, c, d, e + 1⟩, Tok.sessV ⟨T.nt, a, d, untilOf now⟩, .int .i64 0]) (by simp [results, Tryz.results17, go_sem, Fam.sessV, Tok.sessV, c0, c1, c2, c3, c4, d0, d1, d2, d3]) rfl ⟨rfl, h7, o7⟩

theorem refresh_any {w : World} {B p mf mt n1 n2 : Nat} {T : Sto} (h : StoAt w B p mf mt n1 n2 T) (ok : StoOk T) (hln : T.fs.length ≤ 1000000000) (hlt : T.ts.length ≤ 1000000000) (hn1 : n1 ≤ 1000000000) (hn : n2 ≤ 1000000000) (id num now : Int) :
    Calls Tryz.prog 17 #[.pointer (some ⟨p, 0, none⟩), .int .i64 id, .int .i64 num, .int .i64 now] w fun e w' => e = .returned (.tuple #[Fam.sessV (tRefresh T id num now).1, Tok.sessV (tRefresh T id num now).2.1, .int .i64 (tRefresh T id num now).2.2.1]) ∧
      (∃ n1' n2', n1' ≤ n1 + 1 ∧ n2' ≤ n2 + 1 ∧ StoAt w' B p mf mt n1' n2' (tRefresh T id num now).2.2.2) ∧ Out (Mine p mf mt) w w' := by
  by_cases e1 : (fAt T id now).2 = 0
  · by_cases e2 : spendErr T (fAt T id now).1 num = 0
    · have e3 : tRefresh T id num now = (spent (fAt T id now).1, ⟨T.nt, (fAt T id now).1.id, (fAt T id now).1.sco, untilOf now⟩, 0, ⟨now, T.nf, putFam T.fs (spent (fAt T id now).1), T.nt + 1, T.ts ++ [⟨T.nt, (fAt T id now).1.id, (fAt T id now).1.sco, untilOf now⟩]⟩) := by unfold tRefresh; rw [if_neg (by simp [e1]), if_neg (by simp [e2])]
      rw [e3]
      refine (refresh_ok h ok hn1 hn id num now e1 e2).mono ?_
      rintro e w' ⟨he, hs, ho⟩
      exact ⟨he, ⟨_, _, Nat.le_refl _, Nat.le_refl _, hs⟩, ho⟩
    · by_cases e4 : spendErr T (fAt T id now).1 num = 13
      · have e3 : tRefresh T id num now = (Fam.sess0, Tok.sess0, 13, ⟨now, (tEnd T id).nf, (tEnd T id).fs, (tEnd T id).nt, (tEnd T id).ts⟩) := by unfold tRefresh; rw [if_neg (by simp [e1]), if_pos e2, e4, if_pos rfl]
        rw [e3]
        refine (refresh_reuse h ok hln hlt id num now e1 e4).mono ?_
        rintro e w' ⟨he, hs, ho⟩
        exact ⟨he, ⟨_, _, by omega, by omega, hs⟩, ho⟩
      · have e3 : tRefresh T id num now = (Fam.sess0, Tok.sess0, spendErr T (fAt T id now).1 num, T) := by unfold tRefresh; rw [if_neg (by simp [e1]), if_pos e2, if_neg e4]
        rw [e3]
        refine (refresh_spend h ok hln hlt id num now e1 e2 e4).mono ?_
        rintro e w' ⟨he, hs, ho⟩
        exact ⟨he, ⟨_, _, by omega, by omega, hs⟩, ho⟩
  · have e3 : tRefresh T id num now = (Fam.sess0, Tok.sess0, (fAt T id now).2, T) := by unfold tRefresh; rw [if_pos e1]
    rw [e3]
    refine (refresh_err h ok id num now e1).mono ?_
    rintro e w' ⟨he, hs, ho⟩
    exact ⟨he, ⟨_, _, by omega, by omega, hs⟩, ho⟩
end Go.Proofs.YtmnhhomkglffcaaGreatDoor
