/- Fork of numbered things, and of a store of tokens, by contracts. (Printed by gen/kfork.py.) -/
import Derived.Test.YtmnhhomkglffcaaGreatDoorKD3
import Derived.Shelf.SlMaps.Clone
namespace Go.Proofs.YtmnhhomkglffcaaGreatDoor.Fam
open Go.RowKit Go.Maps Go.Sort Go.Shelf
set_option linter.unusedVariables false
set_option maxRecDepth 20000
set_option maxHeartbeats 800000 in
theorem clone_any {w : World} {mb : Nat} {es : Array MapEntry} {clock : Nat} (hb : w.heap[mb]? = some (.map es clock)) :
    Calls Tryz.prog 69 #[.map (some mb)] w fun e w' => e = .returned (.map (some w.heap.size)) ∧ w' = w.alloc (.map es clock) := by
  have hq := fun w => run_eql_map_nil_sl (P := Tryz.prog) w 46 _ _ (some mb) Tryz.underlying46
  go_enter Tryz.func69, Tryz.ntmps69
  go_wp2
  rw [run_callFunc_extern Tryz.func86 (by kernel_rfl) (by kernel_rfl) (by kernel_rfl) (e := Extern.MapsClone.clone) (by kernel_rfl), run_maps_clone_sl w 46 hb]
  simp only [Result.andThen]
  rw [Oper.upon_value]
  go_wp2
  rw [run_typeAssert_map_sl _ 46 _ _ _ _ Tryz.underlying46]
  simp only [Result.andThen]
  rw [Oper.upon_value]
  go_wp2
  go_ret
  exact ⟨rfl, rfl⟩
theorem clone_map {w : World} {mb n : Nat} {l : List Sess} (h : SMap w mb n l) : Calls Tryz.prog 69 #[.map (some mb)] w fun e w' => e = .returned (.map (some w.heap.size)) ∧ SMap w' w.heap.size n l ∧ Below w.heap.size w w' ∧ w.heap.size < w'.heap.size := by
  obtain ⟨D, ⟨es, clock, hb, r⟩, h1, h2⟩ := h
  refine (clone_any hb).mono ?_
  rintro e w' ⟨rfl, rfl⟩
  exact ⟨rfl, ⟨D, ⟨es, clock, (MapKept.heap_alloc w _).1, r⟩, h1, h2⟩, (Below.refl _ w).alloc (Nat.le_refl _) _, by simp⟩
set_option maxHeartbeats 1600000 in
theorem fork_any {w : World} {p o mb n : Nat} {next : Int} {l : List Sess} (h : NumAt w p o mb n next l) :
    Calls Tryz.prog 32 #[.pointer (some ⟨p, o, none⟩)] w fun e w' => ∃ mb2, e = .returned (.agg #[.int .i64 next, .map (some mb2)]) ∧ SMap w' mb2 n l ∧ w.heap.size ≤ mb2 ∧ Below w.heap.size w w' := by
  have hp := h.lts.1
  obtain ⟨W, hW⟩ : ∃ W, W = w.alloc (.cells #[.int .i64 0, .map none] 48) := ⟨_, rfl⟩
  have hb1 : Below w.heap.size w W := by rw [hW]; exact (Below.refl _ w).alloc (Nat.le_refl _) _
  have t0 : W.heap[w.heap.size]? = some (.cells #[.int .i64 0, .map none] 48 (0, 0)) := by rw [hW]; exact (MapKept.heap_alloc w _).1
  have d0 := (Array.getElem?_eq_some_iff.1 t0).1
  have h1 := h.below hb1
  have c0 := h1.c0
  have c1 := h1.c1
  have hpW := h1.lts.1
  have q0 : W.cell? ⟨w.heap.size, 0, none⟩ = some (.int .i64 0) := cell_of_row _ _ 0 _ _ _ t0
  have q1 : W.cell? ⟨w.heap.size, 1, none⟩ = some (.map none) := cell_of_row _ _ 1 _ _ _ t0
  have Hc := hid (clone_map (w := W.drew) (h1.map.keep rfl))
  have HW := hid hW
  have HB := hid hb1
  have T0 := hid t0
  have H1 := hid h1
  have SW : Hid (W.heap.size = w.heap.size + 1) := by show _ = _; rw [hW]; simp
  obtain ⟨g, hg⟩ : ∃ g, g = w.heap.size := ⟨_, rfl⟩
  have HG := hid hg
  rw [← hg] at t0 q0 q1 d0 hb1
  have hpg : p ≠ g := by omega
  have hgp : g ≠ p := by omega
  clear h h1 hW t0 hb1
  go_enter Tryz.func32, Tryz.ntmps32
  go_wp2
  rw [← HW.out, ← HG.out]
  clear hg
  go_region_with (go_at_call 69; refine Hc.out.mono ?_; rintro e wC ⟨rfl, hmC, hbC, hlC⟩; have hg9 := HG.out; have tC := (hbC.block g d0).trans (hg9 ▸ T0.out); have z0 : wC.cell? ⟨g, 0, none⟩ = some (.int .i64 0) := cell_of_row _ _ 0 _ _ _ tC; have z1 : wC.cell? ⟨g, 1, none⟩ = some (.map none) := cell_of_row _ _ 1 _ _ _ tC; have y0 : wC.frozen? ⟨g, 0, none⟩ = false := frozen_of_row _ _ 0 _ _ tC; have y1 : wC.frozen? ⟨g, 1, none⟩ = false := frozen_of_row _ _ 1 _ _ tC; have k0 := (hbC.cell (p := ⟨p, o, none⟩) hpW).trans c0; have k1 := (hbC.cell (p := ⟨p, o + 1, none⟩) hpW).trans c1; have dC := (Array.getElem?_eq_some_iff.1 tC).1; have dpC : p < wC.heap.size := Nat.lt_of_lt_of_le hpW hbC.size; have TC := hid tC; have MC := hid hmC; have BC := hid hbC; have LC := hid hlC; clear tC hmC hbC hlC hg9)
  all_goals (try go_wp2)
  all_goals
    obtain ⟨w7, hw7⟩ : ∃ w7, w7 = (wC.setCell ⟨g, 0, none⟩ (.int .i64 next)).setCell ⟨g, 1, none⟩ (.map (some W.drew.heap.size)) := ⟨_, rfl⟩
    have a1 := heap_setCell_same wC g 0 _ _ (.int .i64 next) TC.out
    have a2 := heap_setCell_same _ g 1 _ _ (.map (some W.drew.heap.size)) a1
    rw [← hw7] at a2
    have f7 : w7.heap[g]? = some (.cells #[.int .i64 next, .map (some W.drew.heap.size)] 48 (0, 0)) := a2
    have k7 : w7.cell? ⟨g, 0, none⟩ = some (.int .i64 next) := cell_of_row _ _ 0 _ _ _ f7
    have k8 : w7.cell? ⟨g, 1, none⟩ = some (.map (some W.drew.heap.size)) := cell_of_row _ _ 1 _ _ _ f7
    show bodyPost _ _ _ _ _ ((wC.setCell ⟨g, 0, none⟩ (.int .i64 next)).setCell ⟨g, 1, none⟩ (.map (some W.drew.heap.size)))
    rw [← hw7]
    have hgw := HG.out
    have sw := SW.out
    have s8 : W.drew.heap.size = W.heap.size := rfl
    have bb : Below w.heap.size w wC := HB.out.trans (undrew1 (BC.out.mono (by omega)))
    refine bodyPost_ret (v := .agg #[.int .i64 next, .map (some W.drew.heap.size)]) (by simp [results, Tryz.results32, go_sem, k7, k8]) rfl ⟨W.drew.heap.size, rfl, ?_, by omega, ?_⟩
    · exact MC.out.keep (by rw [hw7]; exact (heap_setCell_other _ _ _ _ (by show W.drew.heap.size ≠ g; omega)).trans (heap_setCell_other _ _ _ _ (by show W.drew.heap.size ≠ g; omega)))
    · rw [hw7]
      exact Out.below (P := fun k => w.heap.size ≤ k) (((out_of_below bb).setCell ⟨g, 0, none⟩ _ (Nat.le_of_eq hgw.symm)).setCell ⟨g, 1, none⟩ _ (Nat.le_of_eq hgw.symm)) (Nat.le_refl _) (fun k hk => hk)
end Go.Proofs.YtmnhhomkglffcaaGreatDoor.Fam
namespace Go.Proofs.YtmnhhomkglffcaaGreatDoor.Tok
open Go.RowKit Go.Maps Go.Sort Go.Shelf
set_option linter.unusedVariables false
set_option maxRecDepth 20000
set_option maxHeartbeats 800000 in
theorem clone_any {w : World} {mb : Nat} {es : Array MapEntry} {clock : Nat} (hb : w.heap[mb]? = some (.map es clock)) :
    Calls Tryz.prog 70 #[.map (some mb)] w fun e w' => e = .returned (.map (some w.heap.size)) ∧ w' = w.alloc (.map es clock) := by
  have hq := fun w => run_eql_map_nil_sl (P := Tryz.prog) w 50 _ _ (some mb) Tryz.underlying50
  go_enter Tryz.func70, Tryz.ntmps70
  go_wp2
  rw [run_callFunc_extern Tryz.func86 (by kernel_rfl) (by kernel_rfl) (by kernel_rfl) (e := Extern.MapsClone.clone) (by kernel_rfl), run_maps_clone_sl w 50 hb]
  simp only [Result.andThen]
  rw [Oper.upon_value]
  go_wp2
  rw [run_typeAssert_map_sl _ 50 _ _ _ _ Tryz.underlying50]
  simp only [Result.andThen]
  rw [Oper.upon_value]
  go_wp2
  go_ret
  exact ⟨rfl, rfl⟩
theorem clone_map {w : World} {mb n : Nat} {l : List Sess} (h : SMap w mb n l) : Calls Tryz.prog 70 #[.map (some mb)] w fun e w' => e = .returned (.map (some w.heap.size)) ∧ SMap w' w.heap.size n l ∧ Below w.heap.size w w' ∧ w.heap.size < w'.heap.size := by
  obtain ⟨D, ⟨es, clock, hb, r⟩, h1, h2⟩ := h
  refine (clone_any hb).mono ?_
  rintro e w' ⟨rfl, rfl⟩
  exact ⟨rfl, ⟨D, ⟨es, clock, (MapKept.heap_alloc w _).1, r⟩, h1, h2⟩, (Below.refl _ w).alloc (Nat.le_refl _) _, by simp⟩
set_option maxHeartbeats 1600000 in
theorem fork_any {w : World} {p o mb n : Nat} {next : Int} {l : List Sess} (h : NumAt w p o mb n next l) :
    Calls Tryz.prog 33 #[.pointer (some ⟨p, o, none⟩)] w fun e w' => ∃ mb2, e = .returned (.agg #[.int .i64 next, .map (some mb2)]) ∧ SMap w' mb2 n l ∧ w.heap.size ≤ mb2 ∧ Below w.heap.size w w' := by
  have hp := h.lts.1
  obtain ⟨W, hW⟩ : ∃ W, W = w.alloc (.cells #[.int .i64 0, .map none] 52) := ⟨_, rfl⟩
  have hb1 : Below w.heap.size w W := by rw [hW]; exact (Below.refl _ w).alloc (Nat.le_refl _) _
  have t0 : W.heap[w.heap.size]? = some (.cells #[.int .i64 0, .map none] 52 (0, 0)) := by rw [hW]; exact (MapKept.heap_alloc w _).1
  have d0 := (Array.getElem?_eq_some_iff.1 t0).1
  have h1 := h.below hb1
  have c0 := h1.c0
  have c1 := h1.c1
  have hpW := h1.lts.1
  have q0 : W.cell? ⟨w.heap.size, 0, none⟩ = some (.int .i64 0) := cell_of_row _ _ 0 _ _ _ t0
  have q1 : W.cell? ⟨w.heap.size, 1, none⟩ = some (.map none) := cell_of_row _ _ 1 _ _ _ t0
  have Hc := hid (clone_map (w := W.drew) (h1.map.keep rfl))
  have HW := hid hW
  have HB := hid hb1
  have T0 := hid t0
  have H1 := hid h1
  have SW : Hid (W.heap.size = w.heap.size + 1) := by show _ = _; rw [hW]; simp
  obtain ⟨g, hg⟩ : ∃ g, g = w.heap.size := ⟨_, rfl⟩
  have HG := hid hg
  rw [← hg] at t0 q0 q1 d0 hb1
  have hpg : p ≠ g := by omega
  have hgp : g ≠ p := by omega
  clear h h1 hW t0 hb1
  go_enter Tryz.func33, Tryz.ntmps33
  go_wp2
  rw [← HW.out, ← HG.out]
  clear hg
  go_region_with (go_at_call 70; refine Hc.out.mono ?_; rintro e wC ⟨rfl, hmC, hbC, hlC⟩; have hg9 := HG.out; have tC := (hbC.block g d0).trans (hg9 ▸ T0.out); have z0 : wC.cell? ⟨g, 0, none⟩ = some (.int .i64 0) := cell_of_row _ _ 0 _ _ _ tC; have z1 : wC.cell? ⟨g, 1, none⟩ = some (.map none) := cell_of_row _ _ 1 _ _ _ tC; have y0 : wC.frozen? ⟨g, 0, none⟩ = false := frozen_of_row _ _ 0 _ _ tC; have y1 : wC.frozen? ⟨g, 1, none⟩ = false := frozen_of_row _ _ 1 _ _ tC; have k0 := (hbC.cell (p := ⟨p, o, none⟩) hpW).trans c0; have k1 := (hbC.cell (p := ⟨p, o + 1, none⟩) hpW).trans c1; have dC := (Array.getElem?_eq_some_iff.1 tC).1; have dpC : p < wC.heap.size := Nat.lt_of_lt_of_le hpW hbC.size; have TC := hid tC; have MC := hid hmC; have BC := hid hbC; have LC := hid hlC; clear tC hmC hbC hlC hg9)
  all_goals (try go_wp2)
  all_goals
    obtain ⟨w7, hw7⟩ : ∃ w7, w7 = (wC.setCell ⟨g, 0, none⟩ (.int .i64 next)).setCell ⟨g, 1, none⟩ (.map (some W.drew.heap.size)) := ⟨_, rfl⟩
    have a1 := heap_setCell_same wC g 0 _ _ (.int .i64 next) TC.out
    have a2 := heap_setCell_same _ g 1 _ _ (.map (some W.drew.heap.size)) a1
    rw [← hw7] at a2
    have f7 : w7.heap[g]? = some (.cells #[.int .i64 next, .map (some W.drew.heap.size)] 52 (0, 0)) := a2
    have k7 : w7.cell? ⟨g, 0, none⟩ = some (.int .i64 next) := cell_of_row _ _ 0 _ _ _ f7
    have k8 : w7.cell? ⟨g, 1, none⟩ = some (.map (some W.drew.heap.size)) := cell_of_row _ _ 1 _ _ _ f7
    show bodyPost _ _ _ _ _ ((wC.setCell ⟨g, 0, none⟩ (.int .i64 next)).setCell ⟨g, 1, none⟩ (.map (some W.drew.heap.size)))
    rw [← hw7]
    have hgw := HG.out
    have sw := SW.out
    have s8 : W.drew.heap.size = W.heap.size := rfl
    have bb : Below w.heap.size w wC := HB.out.trans (undrew1 (BC.out.mono (by omega)))
    refine bodyPost_ret (v := .agg #[.int .i64 next, .map (some W.drew.heap.size)]) (by simp [results, Tryz.results33, go_sem, k7, k8]) rfl ⟨W.drew.heap.size, rfl, ?_, by omega, ?_⟩
    · exact MC.out.keep (by rw [hw7]; exact (heap_setCell_other _ _ _ _ (by show W.drew.heap.size ≠ g; omega)).trans (heap_setCell_other _ _ _ _ (by show W.drew.heap.size ≠ g; omega)))
    · rw [hw7]
      exact Out.below (P := fun k => w.heap.size ≤ k) (((out_of_below bb).setCell ⟨g, 0, none⟩ _ (Nat.le_of_eq hgw.symm)).setCell ⟨g, 1, none⟩ _ (Nat.le_of_eq hgw.symm)) (Nat.le_refl _) (fun k hk => hk)
end Go.Proofs.YtmnhhomkglffcaaGreatDoor.Tok
namespace Go.Proofs.YtmnhhomkglffcaaGreatDoor
open Go.RowKit Go.Maps Go.Sort Go.Shelf
set_option linter.unusedVariables false
set_option maxRecDepth 20000
def ForkPost (w : World) (n1 n2 : Nat) (T : Sto) (e : Ending) (w' : World) : Prop := ∃ p2 mf2 mt2, e = .returned (.pointer (some ⟨p2, 0, none⟩)) ∧ StoAt w' w.heap.size p2 mf2 mt2 n1 n2 T ∧ Below w.heap.size w w'
theorem fork_end {w w1 w2 : World} {mf2 mt2 n1 n2 : Nat} {T : Sto} (b1 : Below w.heap.size w w1) (b2 : Below w1.heap.size w1 w2) (hf : Fam.SMap w2 mf2 n1 T.fs) (ht : Tok.SMap w2 mt2 n2 T.ts) (g1 : w.heap.size ≤ mf2) (g2 : w.heap.size ≤ mt2) (hne : mf2 ≠ mt2) :
    ForkPost w n1 n2 T (.returned (.pointer (some ⟨w2.heap.size, 0, none⟩))) (w2.alloc (.cells #[.int .i64 T.noted, .int .i64 T.nf, .map (some mf2), .int .i64 T.nt, .map (some mt2)] 59)) := by
  have b12 := b1.trans (b2.mono b1.size)
  exact ⟨_, mf2, mt2, rfl, ⟨(MapKept.heap_alloc w2 _).1, hf.keep ((MapKept.heap_alloc w2 _).2 mf2 hf.lt), ht.keep ((MapKept.heap_alloc w2 _).2 mt2 ht.lt), b12.size, g1, g2, hne⟩, b12.alloc b12.size _⟩
set_option maxHeartbeats 3200000 in
theorem fork_any {w : World} {B p mf mt n1 n2 : Nat} {T : Sto} (h : StoAt w B p mf mt n1 n2 T) :
    Calls Tryz.prog 8 #[.pointer (some ⟨p, 0, none⟩)] w (ForkPost w n1 n2 T) := by
  have hp := h.lts.1
  have c0 := h.c0
  have H := hid h
  clear h
  go_enter Tryz.func8, Tryz.ntmps8
  go_wp2
  go_region_with (first
    | (go_at_call 32; refine (Fam.fork_any (H.out.below hbT).numf).mono ?_; rintro e wF2 ⟨mf2, rfl, hF2, hmF2, hbF2⟩; have k0 := ((hbF2.cell (p := ⟨p, 0, none⟩) (Nat.lt_of_lt_of_le hp hbT.size)).trans ((hbT.cell (p := ⟨p, 0, none⟩) hp).trans c0)); have dp2 : p < wF2.heap.size := Nat.lt_of_lt_of_le hp (Nat.le_trans hbT.size hbF2.size))
    | (go_at_call 33; refine (Tok.fork_any (H.out.below hbF).numt).mono ?_; rintro e wT2 ⟨mt2, rfl, hT2, hmT2, hbT2⟩; have k0 := ((hbT2.cell (p := ⟨p, 0, none⟩) (Nat.lt_of_lt_of_le hp hbF.size)).trans ((hbF.cell (p := ⟨p, 0, none⟩) hp).trans c0)); have dp2 : p < wT2.heap.size := Nat.lt_of_lt_of_le hp (Nat.le_trans hbF.size hbT2.size))
    | (go_at_call 32; refine (Fam.fork_any (H.out.below (below_drewN _ _ 1)).numf).mono ?_; rintro e wF ⟨mf2, rfl, hF, hmF, hbF0⟩; have hbF : Below w.heap.size w wF := undrew1 hbF0; have j0 := (hbF.cell (p := ⟨p, 0, none⟩) hp).trans c0; have dp1 : p < wF.heap.size := Nat.lt_of_lt_of_le hp hbF.size)
    | (go_at_call 33; refine (Tok.fork_any (H.out.below (below_drewN _ _ 1)).numt).mono ?_; rintro e wT ⟨mt2, rfl, hT, hmT, hbT0⟩; have hbT : Below w.heap.size w wT := undrew1 hbT0; have j0 := (hbT.cell (p := ⟨p, 0, none⟩) hp).trans c0; have dp1 : p < wT.heap.size := Nat.lt_of_lt_of_le hp hbT.size))
  all_goals (try go_wp2)
  all_goals go_ret
  all_goals first
    | exact fork_end hbF hbT2 (hF.keep (hbT2.block mf2 hF.lt)) hT2 hmF (Nat.le_trans hbF.size hmT2) (by have := hF.lt; omega)
    | exact fork_end hbT hbF2 hF2 (hT.keep (hbF2.block mt2 hT.lt)) (Nat.le_trans hbT.size hmF2) hmT (by have := hT.lt; omega)
end Go.Proofs.YtmnhhomkglffcaaGreatDoor
