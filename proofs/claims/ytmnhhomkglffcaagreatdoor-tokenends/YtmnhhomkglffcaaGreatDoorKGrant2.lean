/- Grant of package token, by a contract. -/
import Derived.Test.YtmnhhomkglffcaaGreatDoorKGoOn
import Derived.Deep.RegionWith
namespace Go.Proofs.YtmnhhomkglffcaaGreatDoor
open Go.RowKit Go.Maps Go.Sort Go.Shelf
set_option linter.unusedVariables false
set_option maxRecDepth 20000

/-- what Grant answers, and the store behind it -/
def tGrant (T : Sto) (ses : Int) (cli : ByteArray) (sco now : Int) : Fam.Sess × Tok.Sess × Int × Sto :=
  if grantErr T ses cli now ≠ 0 then (Fam.sess0, Tok.sess0, grantErr T ses cli now, T)
  else (⟨T.nf, ses, cli, sco, 1⟩, ⟨T.nt, T.nf, sco, untilOf now⟩, 0, ⟨now, T.nf + 1, T.fs ++ [⟨T.nf, ses, cli, sco, 1⟩], T.nt + 1, T.ts ++ [⟨T.nt, T.nf, sco, untilOf now⟩]⟩)

theorem grantErr_zero {T : Sto} {ses : Int} {cli : ByteArray} {now : Int} (h : grantErr T ses cli now = 0) : 1 ≤ ses ∧ (0 ≤ now ∧ now ≤ 1099511627776) ∧ nameB cli.data.toList = true ∧ T.noted ≤ now ∧ T.nf ≤ 1099511627776 ∧ T.nt ≤ 1099511627776 ∧ (T.fs.filter (sesB ses)).length < 2 := by
  unfold grantErr at h
  split at h
  · cases h
  · rename_i h1
    split at h
    · cases h
    · rename_i h2
      split at h
      · rename_i h3; exact absurd h h3
      · rename_i h3
        split at h
        · cases h
        · rename_i h4
          split at h
          · cases h
          · rename_i h5
            refine ⟨by omega, by omega, by simpa using h2, ?_, by omega, by omega, by omega⟩
            unfold timeErr at h3
            split at h3 <;> simp_all <;> omega

set_option maxHeartbeats 1600000 in
theorem grant_any {w : World} {B p mf mt n1 n2 : Nat} {T : Sto} (h : StoAt w B p mf mt n1 n2 T) (ok : StoOk T) (hln : T.fs.length ≤ 1000000000) (hn1 : n1 ≤ 1000000000) (hn : n2 ≤ 1000000000) (ses : Int) (cli : ByteArray) (sco now : Int) (hc : cli.size ≤ maxLen) :
    Calls Tryz.prog 16 #[.pointer (some ⟨p, 0, none⟩), .int .i64 ses, .string cli, .int .u8 sco, .int .i64 now] w fun e w' => e = .returned (.tuple #[Fam.sessV (tGrant T ses cli sco now).1, Tok.sessV (tGrant T ses cli sco now).2.1, .int .i64 (tGrant T ses cli sco now).2.2.1]) ∧
      (∃ n1' n2', n1' ≤ n1 + 1 ∧ n2' ≤ n2 + 1 ∧ StoAt w' B p mf mt n1' n2' (tGrant T ses cli sco now).2.2.2) ∧ Out (Mine p mf mt) w w' := by
  have hp := h.lts.1
  have hf := h.lts.2.1
  have ht := h.lts.2.2
  have hpne := h.pne
  obtain ⟨g, hg⟩ : ∃ g, g = w.heap.size := ⟨_, rfl⟩
  have hb0 : Below w.heap.size w ((w.alloc (.cells #[.int .i64 0, .int .i64 0, .string ⟨#[]⟩, .int .u8 0, .int .i64 0] 35)).alloc (.cells #[.int .i64 0, .int .i64 0, .int .u8 0, .int .i64 0] 55)) := ((Below.refl _ w).alloc (Nat.le_refl _) _).alloc (by simp) _
  have h0 := h.below hb0
  have He := hid (grantError_any h0 ok hln ses cli now hc)
  by_cases e0 : grantErr T ses cli now = 0
  · obtain ⟨z1, z2, z3, z4, z5, z6, z7⟩ := grantErr_zero e0
    have e1 : tGrant T ses cli sco now = (⟨T.nf, ses, cli, sco, 1⟩, ⟨T.nt, T.nf, sco, untilOf now⟩, 0, ⟨now, T.nf + 1, T.fs ++ [⟨T.nf, ses, cli, sco, 1⟩], T.nt + 1, T.ts ++ [⟨T.nt, T.nf, sco, untilOf now⟩]⟩) := by unfold tGrant; rw [if_neg (by simp [e0])]
    rw [e1]
    have He' := He.out
    rw [e0] at He'
    have HE := hid He'
    have hg0 : ∀ w1, Below ((w.alloc (.cells #[.int .i64 0, .int .i64 0, .string ⟨#[]⟩, .int .u8 0, .int .i64 0] 35)).alloc (.cells #[.int .i64 0, .int .i64 0, .int .u8 0, .int .i64 0] 55)).heap.size ((w.alloc (.cells #[.int .i64 0, .int .i64 0, .string ⟨#[]⟩, .int .u8 0, .int .i64 0] 35)).alloc (.cells #[.int .i64 0, .int .i64 0, .int .u8 0, .int .i64 0] 55)) w1 → StoAt w1 B p mf mt n1 n2 T := fun w1 hb => h0.below hb
    have HG0 := hid hg0
    have nf1 := ok.nf
    clear He He' hg0 e1 e0
    go_enter Tryz.func16, Tryz.ntmps16
    go_wp2_with (first
      | (go_at_call 47; refine HE.out.mono ?_; rintro e w1 ⟨rfl, hb1⟩; have h1 := HG0.out w1 hb1)
      | (go_at_call 48; refine (Fam.give_any h1.numf (by omega) (by omega)).mono ?_; rintro e w2 ⟨rfl, rfl⟩))
    obtain ⟨k, hk⟩ : ∃ k, k = w1.heap.size := ⟨_, rfl⟩
    have hs1 := hb1.size
    simp only [World.size_alloc] at hs1
    have f1 : w1.heap[g]? = some (.cells #[.int .i64 0, .int .i64 0, .string ⟨#[]⟩, .int .u8 0, .int .i64 0] 35 (0, 0)) := by
      rw [hb1.block g (by simp; omega), hg, Below.heap_alloc _ _ _ (by simp)]; exact (MapKept.heap_alloc w _).1
    have u1 : w1.heap[g + 1]? = some (.cells #[.int .i64 0, .int .i64 0, .int .u8 0, .int .i64 0] 55 (0, 0)) := by
      have h9 := (MapKept.heap_alloc (w.alloc (.cells #[.int .i64 0, .int .i64 0, .string ⟨#[]⟩, .int .u8 0, .int .i64 0] 35)) (.cells #[.int .i64 0, .int .i64 0, .int .u8 0, .int .i64 0] 55)).1
      rw [World.size_alloc] at h9
      rw [hb1.block (g + 1) (by simp; omega), hg]
      exact h9
    obtain ⟨W2, hW2⟩ : ∃ W2, W2 = w1.setCell ⟨p, 1, none⟩ (.int .i64 (T.nf + 1)) := ⟨_, rfl⟩
    have s2 : W2.heap.size = k := by rw [hW2, hk]; simp
    have h2 : StoAt W2 B p mf mt n1 n2 ⟨T.noted, T.nf + 1, T.fs, T.nt, T.ts⟩ := by rw [hW2]; exact h1.set1 _
    have o2 : Out (Mine p mf mt) w W2 := by rw [hW2]; exact (Out.of_below (hb0.trans (hb1.mono (by simp; omega)))).setCell ⟨p, 1, none⟩ _ (.inl rfl)
    have f2 : W2.heap[g]? = some (.cells #[.int .i64 0, .int .i64 0, .string ⟨#[]⟩, .int .u8 0, .int .i64 0] 35 (0, 0)) := by rw [hW2]; exact (heap_setCell_other _ _ _ _ (by show g ≠ p; omega)).trans f1
    have u2 : W2.heap[g + 1]? = some (.cells #[.int .i64 0, .int .i64 0, .int .u8 0, .int .i64 0] 55 (0, 0)) := by rw [hW2]; exact (heap_setCell_other _ _ _ _ (by show g + 1 ≠ p; omega)).trans u1
    obtain ⟨W3, hW3⟩ : ∃ W3, W3 = W2.alloc (.cells #[.int .i64 T.nf, .int .i64 ses, .string cli, .int .u8 sco, .int .i64 1] 35) := ⟨_, rfl⟩
    have b3 : Below W2.heap.size W2 W3 := by rw [hW3]; exact (Below.refl _ W2).alloc (Nat.le_refl _) _
    have h3 := h2.below b3
    have h3d : StoAt W3.drew B p mf mt n1 n2 ⟨T.noted, T.nf + 1, T.fs, T.nt, T.ts⟩ := h3.keep rfl rfl rfl
    have t3 : W3.heap[k]? = some (.cells #[.int .i64 T.nf, .int .i64 ses, .string cli, .int .u8 sco, .int .i64 1] 35 (0, 0)) := by rw [hW3, ← s2]; exact (MapKept.heap_alloc W2 _).1
    have f3 : W3.heap[g]? = some (.cells #[.int .i64 0, .int .i64 0, .string ⟨#[]⟩, .int .u8 0, .int .i64 0] 35 (0, 0)) := (b3.block g (by omega)).trans f2
    have u3 : W3.heap[g + 1]? = some (.cells #[.int .i64 0, .int .i64 0, .int .u8 0, .int .i64 0] 55 (0, 0)) := (b3.block (g + 1) (by omega)).trans u2
    have hd3 : k < W3.heap.size := (Array.getElem?_eq_some_iff.1 t3).1
    have hdg : g < W3.heap.size := (Array.getElem?_eq_some_iff.1 f3).1
    have hdu : g + 1 < W3.heap.size := (Array.getElem?_eq_some_iff.1 u3).1
    have o3 : Out (Mine p mf mt) w W3 := o2.trans (Out.of_below b3) (fun _ _ e => e)
    have hl : ∀ t, t ∈ T.fs ++ [(⟨T.nf, ses, cli, sco, 1⟩ : Fam.Sess)] ↔ t = ⟨T.nf, ses, cli, sco, 1⟩ ∨ (t ∈ T.fs ∧ t.id ≠ (⟨T.nf, ses, cli, sco, 1⟩ : Fam.Sess).id) := fun t => by
      rw [List.mem_append, List.mem_singleton]
      constructor
      · rintro (h9 | h9)
        · exact .inr ⟨h9, by have := ok.idf t h9; show t.id ≠ T.nf; omega⟩
        · exact .inl h9
      · rintro (h9 | h9)
        · exact .inr h9
        · exact .inl h9.1
    have Hgo := hid (goOn_any h3d (by exact ok.idt) (by exact ok.nt.1) hn1 hn (by exact z6) ⟨T.nf, ses, cli, sco, 1⟩ (by show 1 ≤ T.nf ∧ T.nf ≤ 1099511627776; omega) _ hl now z2)
    have T3 := hid t3
    have F3 := hid f3
    have U3 := hid u3
    have O3 := hid o3
    have k0 : W3.cell? ⟨k, 0, none⟩ = some (.int .i64 T.nf) := cell_of_row _ _ 0 _ _ _ t3
    have k1 : W3.cell? ⟨k, 1, none⟩ = some (.int .i64 ses) := cell_of_row _ _ 1 _ _ _ t3
    have k2 : W3.cell? ⟨k, 2, none⟩ = some (.string cli) := cell_of_row _ _ 2 _ _ _ t3
    have k3 : W3.cell? ⟨k, 3, none⟩ = some (.int .u8 sco) := cell_of_row _ _ 3 _ _ _ t3
    have k4 : W3.cell? ⟨k, 4, none⟩ = some (.int .i64 1) := cell_of_row _ _ 4 _ _ _ t3
    rw [← hW2, ← hW3, ← hk, ← hg]
    have hgk : g + 1 < k := by omega
    have HG := hid hg
    clear hl t3 f3 u3 o3 h3d h3 b3 hW3 u2 f2 o2 h2 s2 hW2 u1 f1 hs1 hk hb1 h1 HE HG0 h0 hb0 h ok hg hpne nf1
    go_region_with (go_at_call 49; refine Hgo.out.mono ?_; rintro e w5 ⟨rfl, h5, o5⟩; have HG9 := HG.out; have r5 := (o5.block k hd3 (by unfold Mine; omega)).trans T3.out; have f5 := (o5.block g hdg (by unfold Mine; omega)).trans F3.out; have u5 := (o5.block (g + 1) hdu (by unfold Mine; omega)).trans U3.out; have y0 : w5.cell? ⟨k, 0, none⟩ = some (.int .i64 T.nf) := cell_of_row _ _ 0 _ _ _ r5; have y1 : w5.cell? ⟨k, 1, none⟩ = some (.int .i64 ses) := cell_of_row _ _ 1 _ _ _ r5; have y2 : w5.cell? ⟨k, 2, none⟩ = some (.string cli) := cell_of_row _ _ 2 _ _ _ r5; have y3 : w5.cell? ⟨k, 3, none⟩ = some (.int .u8 sco) := cell_of_row _ _ 3 _ _ _ r5; have y4 : w5.cell? ⟨k, 4, none⟩ = some (.int .i64 1) := cell_of_row _ _ 4 _ _ _ r5; have q0 : w5.cell? ⟨g, 0, none⟩ = some (.int .i64 0) := cell_of_row _ _ 0 _ _ _ f5; have v0 : w5.frozen? ⟨g, 0, none⟩ = false := frozen_of_row _ _ 0 _ _ f5; have q1 : w5.cell? ⟨g, 1, none⟩ = some (.int .i64 0) := cell_of_row _ _ 1 _ _ _ f5; have v1 : w5.frozen? ⟨g, 1, none⟩ = false := frozen_of_row _ _ 1 _ _ f5; have q2 : w5.cell? ⟨g, 2, none⟩ = some (.string ⟨#[]⟩) := cell_of_row _ _ 2 _ _ _ f5; have v2 : w5.frozen? ⟨g, 2, none⟩ = false := frozen_of_row _ _ 2 _ _ f5; have q3 : w5.cell? ⟨g, 3, none⟩ = some (.int .u8 0) := cell_of_row _ _ 3 _ _ _ f5; have v3 : w5.frozen? ⟨g, 3, none⟩ = false := frozen_of_row _ _ 3 _ _ f5; have q4 : w5.cell? ⟨g, 4, none⟩ = some (.int .i64 0) := cell_of_row _ _ 4 _ _ _ f5; have v4 : w5.frozen? ⟨g, 4, none⟩ = false := frozen_of_row _ _ 4 _ _ f5; have x0 : w5.cell? ⟨g + 1, 0, none⟩ = some (.int .i64 0) := cell_of_row _ _ 0 _ _ _ u5; have j0 : w5.frozen? ⟨g + 1, 0, none⟩ = false := frozen_of_row _ _ 0 _ _ u5; have x1 : w5.cell? ⟨g + 1, 1, none⟩ = some (.int .i64 0) := cell_of_row _ _ 1 _ _ _ u5; have j1 : w5.frozen? ⟨g + 1, 1, none⟩ = false := frozen_of_row _ _ 1 _ _ u5; have x2 : w5.cell? ⟨g + 1, 2, none⟩ = some (.int .u8 0) := cell_of_row _ _ 2 _ _ _ u5; have j2 : w5.frozen? ⟨g + 1, 2, none⟩ = false := frozen_of_row _ _ 2 _ _ u5; have x3 : w5.cell? ⟨g + 1, 3, none⟩ = some (.int .i64 0) := cell_of_row _ _ 3 _ _ _ u5; have j3 : w5.frozen? ⟨g + 1, 3, none⟩ = false := frozen_of_row _ _ 3 _ _ u5; have hdk := (Array.getElem?_eq_some_iff.1 r5).1; have hdf := (Array.getElem?_eq_some_iff.1 f5).1; have hdt := (Array.getElem?_eq_some_iff.1 u5).1; have H5 := hid h5; have O5 := hid o5; have F5 := hid f5; have U5 := hid u5; clear h5 o5 r5 f5 u5 HG9)
    all_goals (try go_wp2)
    all_goals
      show bodyPost _ _ _ _ _ (set4 (set5 w5 g (.int .i64 T.nf) (.int .i64 ses) (.string cli) (.int .u8 sco) (.int .i64 1)) (g + 1) (.int .i64 T.nt) (.int .i64 T.nf) (.int .u8 sco) (.int .i64 (untilOf now)))
      have hg := HG.out
      obtain ⟨w7, hw7, h7, o7, ⟨c0, c1, c2, c3, c4⟩, d0, d1, d2, d3⟩ := lays2 F5.out U5.out hg H5.out (by omega) (by omega) (by omega) (O3.out.trans (Out.undrew O5.out) (fun _ _ e => e)) (.int .i64 T.nf) (.int .i64 ses) (.string cli) (.int .u8 sco) (.int .i64 1) (.int .i64 T.nt) (.int .i64 T.nf) (.int .u8 sco) (.int .i64 (untilOf now))
      rw [← hw7]
      exact bodyPost_ret (v := .tuple #[Fam.sessV ⟨T.nf, ses, cli, sco, 1⟩, Tok.sessV ⟨T.nt, T.nf, sco, untilOf now⟩, .int .i64 0]) (by simp [results, Tryz.results16, go_sem, Fam.sessV, Tok.sessV, c0, c1, c2, c3, c4, d0, d1, d2, d3]) rfl ⟨rfl, ⟨_, _, Nat.le_refl _, Nat.le_refl _, h7⟩, o7⟩
  · obtain ⟨te, hte⟩ : ∃ te, te = grantErr T ses cli now := ⟨_, rfl⟩
    have e1 : tGrant T ses cli sco now = (Fam.sess0, Tok.sess0, te, T) := by unfold tGrant; rw [if_pos e0, hte]
    rw [e1]
    have He' := He.out
    rw [← hte] at He' e0
    have HE := hid He'
    have H0 := hid h0
    have HB0 := hid hb0
    have HG := hid hg
    have q4 : (te != 0) = true := by simpa using e0
    clear He He' e1 hte h0 h ok hb0 hg e0 hpne
    go_enter Tryz.func16, Tryz.ntmps16
    go_wp2_with (go_at_call 47; refine HE.out.mono ?_; rintro e w1 ⟨rfl, hb1⟩; have hs1 := hb1.size; simp only [World.size_alloc] at hs1; have HG9 := HG.out; have f1 : w1.heap[g]? = some (.cells #[.int .i64 0, .int .i64 0, .string ⟨#[]⟩, .int .u8 0, .int .i64 0] 35 (0, 0)) := (by rw [hb1.block g (by simp; omega), HG9, Below.heap_alloc _ _ _ (by simp)]; exact (MapKept.heap_alloc w _).1); have u1 : w1.heap[g + 1]? = some (.cells #[.int .i64 0, .int .i64 0, .int .u8 0, .int .i64 0] 55 (0, 0)) := (by have h9 := (MapKept.heap_alloc (w.alloc (.cells #[.int .i64 0, .int .i64 0, .string ⟨#[]⟩, .int .u8 0, .int .i64 0] 35)) (.cells #[.int .i64 0, .int .i64 0, .int .u8 0, .int .i64 0] 55)).1; rw [World.size_alloc] at h9; rw [hb1.block (g + 1) (by simp; omega), HG9]; exact h9); have F1 := hid f1; have U1 := hid u1; have HB1 := hid hb1; have q0 : w1.cell? ⟨w.heap.size, 0, none⟩ = some (.int .i64 0) := cell_of_row _ _ 0 _ _ _ (HG9 ▸ f1); have v0 : w1.frozen? ⟨w.heap.size, 0, none⟩ = false := frozen_of_row _ _ 0 _ _ (HG9 ▸ f1); have q1 : w1.cell? ⟨w.heap.size, 1, none⟩ = some (.int .i64 0) := cell_of_row _ _ 1 _ _ _ (HG9 ▸ f1); have v1 : w1.frozen? ⟨w.heap.size, 1, none⟩ = false := frozen_of_row _ _ 1 _ _ (HG9 ▸ f1); have q2 : w1.cell? ⟨w.heap.size, 2, none⟩ = some (.string ⟨#[]⟩) := cell_of_row _ _ 2 _ _ _ (HG9 ▸ f1); have v2 : w1.frozen? ⟨w.heap.size, 2, none⟩ = false := frozen_of_row _ _ 2 _ _ (HG9 ▸ f1); have q3 : w1.cell? ⟨w.heap.size, 3, none⟩ = some (.int .u8 0) := cell_of_row _ _ 3 _ _ _ (HG9 ▸ f1); have v3 : w1.frozen? ⟨w.heap.size, 3, none⟩ = false := frozen_of_row _ _ 3 _ _ (HG9 ▸ f1); have q4 : w1.cell? ⟨w.heap.size, 4, none⟩ = some (.int .i64 0) := cell_of_row _ _ 4 _ _ _ (HG9 ▸ f1); have v4 : w1.frozen? ⟨w.heap.size, 4, none⟩ = false := frozen_of_row _ _ 4 _ _ (HG9 ▸ f1); have x0 : w1.cell? ⟨w.heap.size + 1, 0, none⟩ = some (.int .i64 0) := cell_of_row _ _ 0 _ _ _ (HG9 ▸ u1); have j0 : w1.frozen? ⟨w.heap.size + 1, 0, none⟩ = false := frozen_of_row _ _ 0 _ _ (HG9 ▸ u1); have x1 : w1.cell? ⟨w.heap.size + 1, 1, none⟩ = some (.int .i64 0) := cell_of_row _ _ 1 _ _ _ (HG9 ▸ u1); have j1 : w1.frozen? ⟨w.heap.size + 1, 1, none⟩ = false := frozen_of_row _ _ 1 _ _ (HG9 ▸ u1); have x2 : w1.cell? ⟨w.heap.size + 1, 2, none⟩ = some (.int .u8 0) := cell_of_row _ _ 2 _ _ _ (HG9 ▸ u1); have j2 : w1.frozen? ⟨w.heap.size + 1, 2, none⟩ = false := frozen_of_row _ _ 2 _ _ (HG9 ▸ u1); have x3 : w1.cell? ⟨w.heap.size + 1, 3, none⟩ = some (.int .i64 0) := cell_of_row _ _ 3 _ _ _ (HG9 ▸ u1); have j3 : w1.frozen? ⟨w.heap.size + 1, 3, none⟩ = false := frozen_of_row _ _ 3 _ _ (HG9 ▸ u1); have hd1 := (Array.getElem?_eq_some_iff.1 f1).1; have hd2 := (Array.getElem?_eq_some_iff.1 u1).1; rw [HG9] at hd1 hd2; clear HG9 f1 u1 hb1 hs1)
    have hg := HG.out
    rw [← hg]
    show bodyPost _ _ _ _ _ (set4 (set5 w1 g (.int .i64 0) (.int .i64 0) (.string ⟨#[]⟩) (.int .u8 0) (.int .i64 0)) (g + 1) (.int .i64 0) (.int .i64 0) (.int .u8 0) (.int .i64 0))
    obtain ⟨w7, hw7, h7, o7, ⟨c0, c1, c2, c3, c4⟩, d0, d1, d2, d3⟩ := lays2 (P := Mine p mf mt) F1.out U1.out hg (H0.out.below HB1.out) (by omega) (by omega) (by omega) (Out.of_below (HB0.out.trans (HB1.out.mono (by simp; omega)))) (.int .i64 0) (.int .i64 0) (.string ⟨#[]⟩) (.int .u8 0) (.int .i64 0) (.int .i64 0) (.int .i64 0) (.int .u8 0) (.int .i64 0)
    rw [← hw7]
    exact bodyPost_ret (v := .tuple #[Fam.sessV Fam.sess0, Tok.sessV Tok.sess0, .int .i64 te]) (by simp [results, Tryz.results16, go_sem, Fam.sessV, Tok.sessV, Fam.sess0, Tok.sess0, c0, c1, c2, c3, c4, d0, d1, d2, d3]) rfl ⟨rfl, ⟨n1, n2, by omega, by omega, h7⟩, o7⟩
end Go.Proofs.YtmnhhomkglffcaaGreatDoor
