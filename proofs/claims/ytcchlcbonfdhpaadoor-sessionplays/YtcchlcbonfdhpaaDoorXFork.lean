/- Forks of both tables of sessions. -/
import Derived.Test.YtcchlcbonfdhpaaDoorSSame
import Derived.Shelf.SlMaps.Clone
namespace Go.Proofs.YtcchlcbonfdhpaaDoor
open Go.RowKit Go.Maps Go.Sort Go.Shelf
set_option linter.unusedVariables false
set_option maxRecDepth 20000
theorem out_of_below {w w' : World} {B : Nat} (h : Below B w w') : Out (fun k => B ≤ k) w w' := ⟨h.os, h.tape, h.output, h.size, fun k hk hp => h.block k (by omega)⟩
set_option maxHeartbeats 800000 in
theorem clone_any {w : World} {mb : Nat} {es : Array MapEntry} {clock : Nat} (hb : w.heap[mb]? = some (.map es clock)) :
    Calls Tryd.prog 41 #[.map (some mb)] w fun e w' => e = .returned (.map (some w.heap.size)) ∧ w' = w.alloc (.map es clock) := by
  have hq := fun w => run_eql_map_nil_sl (P := Tryd.prog) w 37 _ _ (some mb) Tryd.underlying37
  go_enter Tryd.func41, Tryd.ntmps41
  go_wp2
  rw [run_callFunc_extern Tryd.func61 (by kernel_rfl) (by kernel_rfl) (by kernel_rfl) (e := Extern.MapsClone.clone) (by kernel_rfl), run_maps_clone_sl w 37 hb]
  simp only [Result.andThen]
  rw [Oper.upon_value]
  go_wp2
  rw [run_typeAssert_map_sl _ 37 _ _ _ _ Tryd.underlying37]
  simp only [Result.andThen]
  rw [Oper.upon_value]
  go_wp2
  go_ret
  exact ⟨rfl, rfl⟩
theorem clone_map {w : World} {mb n : Nat} {l : List Sess} (h : SMap w mb n l) : Calls Tryd.prog 41 #[.map (some mb)] w fun e w' => e = .returned (.map (some w.heap.size)) ∧ SMap w' w.heap.size n l ∧ Below w.heap.size w w' ∧ w.heap.size < w'.heap.size := by
  obtain ⟨D, ⟨es, clock, hb, r⟩, h1, h2⟩ := h
  refine (clone_any hb).mono ?_
  rintro e w' ⟨rfl, rfl⟩
  exact ⟨rfl, ⟨D, ⟨es, clock, (MapKept.heap_alloc w _).1, r⟩, h1, h2⟩, (Below.refl _ w).alloc (Nat.le_refl _) _, by simp⟩
set_option maxHeartbeats 1600000 in
theorem nFork_any {w : World} {p o mb n : Nat} {next : Int} {l : List Sess} (h : NumAt w p o mb n next l) :
    Calls Tryd.prog 17 #[.pointer (some ⟨p, o, none⟩)] w fun e w' => ∃ mb2, e = .returned (.agg #[.int .i64 next, .map (some mb2)]) ∧ SMap w' mb2 n l ∧ w.heap.size ≤ mb2 ∧ Below w.heap.size w w' := by
  have hp := h.lts.1
  obtain ⟨W, hW⟩ : ∃ W, W = w.alloc (.cells #[.int .i64 0, .map none] 39) := ⟨_, rfl⟩
  have hb1 : Below w.heap.size w W := by rw [hW]; exact (Below.refl _ w).alloc (Nat.le_refl _) _
  have t0 : W.heap[w.heap.size]? = some (.cells #[.int .i64 0, .map none] 39 (0, 0)) := by rw [hW]; exact (MapKept.heap_alloc w _).1
  have d0 := (Array.getElem?_eq_some_iff.1 t0).1
  have h1 := h.below hb1
  have c0 := h1.c0
  have c1 := h1.c1
  have hpW := h1.lts.1
  have q0 : W.cell? ⟨w.heap.size, 0, none⟩ = some (.int .i64 0) := cell_of_row _ _ 0 _ _ _ t0
  have q1 : W.cell? ⟨w.heap.size, 1, none⟩ = some (.map none) := cell_of_row _ _ 1 _ _ _ t0
  have Hc := hid (clone_map (w := W.drew) (h1.map.keep rfl))
  have HW := hid hW
  have HB := hid hb1
  have T0 := hid t0
  have H1 := hid h1
  have SW : Hid (W.heap.size = w.heap.size + 1) := by show _ = _; rw [hW]; simp
  obtain ⟨g, hg⟩ : ∃ g, g = w.heap.size := ⟨_, rfl⟩
  have HG := hid hg
  rw [← hg] at t0 q0 q1 d0 hb1
  have hpg : p ≠ g := by omega
  have hgp : g ≠ p := by omega
  clear h h1 hW t0 hb1
  go_enter Tryd.func17, Tryd.ntmps17
  go_wp2
  rw [← HW.out, ← HG.out]
  clear hg
  go_region_with (go_at_call 41; refine Hc.out.mono ?_; rintro e wC ⟨rfl, hmC, hbC, hlC⟩; have hg9 := HG.out; have tC := (hbC.block g d0).trans (hg9 ▸ T0.out); have z0 : wC.cell? ⟨g, 0, none⟩ = some (.int .i64 0) := cell_of_row _ _ 0 _ _ _ tC; have z1 : wC.cell? ⟨g, 1, none⟩ = some (.map none) := cell_of_row _ _ 1 _ _ _ tC; have y0 : wC.frozen? ⟨g, 0, none⟩ = false := frozen_of_row _ _ 0 _ _ tC; have y1 : wC.frozen? ⟨g, 1, none⟩ = false := frozen_of_row _ _ 1 _ _ tC; have k0 := (hbC.cell (p := ⟨p, o, none⟩) hpW).trans c0; have k1 := (hbC.cell (p := ⟨p, o + 1, none⟩) hpW).trans c1; have dC := (Array.getElem?_eq_some_iff.1 tC).1; have dpC : p < wC.heap.size := Nat.lt_of_lt_of_le hpW hbC.size; have TC := hid tC; have MC := hid hmC; have BC := hid hbC; have LC := hid hlC; clear tC hmC hbC hlC hg9)
  all_goals (try go_wp2)
  all_goals
    obtain ⟨w7, hw7⟩ : ∃ w7, w7 = (wC.setCell ⟨g, 0, none⟩ (.int .i64 next)).setCell ⟨g, 1, none⟩ (.map (some W.drew.heap.size)) := ⟨_, rfl⟩
    have a1 := heap_setCell_same wC g 0 _ _ (.int .i64 next) TC.out
    have a2 := heap_setCell_same _ g 1 _ _ (.map (some W.drew.heap.size)) a1
    rw [← hw7] at a2
    have f7 : w7.heap[g]? = some (.cells #[.int .i64 next, .map (some W.drew.heap.size)] 39 (0, 0)) := a2
    have k7 : w7.cell? ⟨g, 0, none⟩ = some (.int .i64 next) := cell_of_row _ _ 0 _ _ _ f7
    have k8 : w7.cell? ⟨g, 1, none⟩ = some (.map (some W.drew.heap.size)) := cell_of_row _ _ 1 _ _ _ f7
    show bodyPost _ _ _ _ _ ((wC.setCell ⟨g, 0, none⟩ (.int .i64 next)).setCell ⟨g, 1, none⟩ (.map (some W.drew.heap.size)))
    rw [← hw7]
    have hgw := HG.out
    have sw := SW.out
    have s8 : W.drew.heap.size = W.heap.size := rfl
    have bb : Below w.heap.size w wC := HB.out.trans (undrew1 (BC.out.mono (by omega)))
    refine bodyPost_ret (v := .agg #[.int .i64 next, .map (some W.drew.heap.size)]) (by simp [results, Tryd.results17, go_sem, k7, k8]) rfl ⟨W.drew.heap.size, rfl, ?_, by omega, ?_⟩
    · exact MC.out.keep (by rw [hw7]; exact (heap_setCell_other _ _ _ _ (by show W.drew.heap.size ≠ g; omega)).trans (heap_setCell_other _ _ _ _ (by show W.drew.heap.size ≠ g; omega)))
    · rw [hw7]
      exact Out.below (P := fun k => w.heap.size ≤ k) (((out_of_below bb).setCell ⟨g, 0, none⟩ _ (Nat.le_of_eq hgw.symm)).setCell ⟨g, 1, none⟩ _ (Nat.le_of_eq hgw.symm)) (Nat.le_refl _) (fun k hk => hk)

def ForkPost (w : World) (n : Nat) (T : Tab) (e : Ending) (w' : World) : Prop := ∃ p2 mb2, e = .returned (.pointer (some ⟨p2, 0, none⟩)) ∧ TabAt w' w.heap.size p2 mb2 n T ∧ Below w.heap.size w w'
theorem fork_end {w w1 : World} {mb2 n : Nat} {T : Tab} (b1 : Below w.heap.size w w1) (hf : SMap w1 mb2 n T.l) (g1 : w.heap.size ≤ mb2) :
    ForkPost w n T (.returned (.pointer (some ⟨w1.heap.size, 0, none⟩))) (w1.alloc (.cells #[.int .i64 T.noted, .int .i64 T.next, .map (some mb2)] 46)) :=
  ⟨_, mb2, rfl, ⟨(MapKept.heap_alloc w1 _).1, hf.keep ((MapKept.heap_alloc w1 _).2 mb2 hf.lt), b1.size, g1⟩, b1.alloc b1.size _⟩
set_option maxHeartbeats 3200000 in
theorem fork_any {w : World} {B p mb n : Nat} {T : Tab} (h : TabAt w B p mb n T) :
    Calls Tryd.prog 7 #[.pointer (some ⟨p, 0, none⟩)] w (ForkPost w n T) := by
  have hp := h.lts.1
  have c0 := h.c0
  have H := hid h
  clear h
  go_enter Tryd.func7, Tryd.ntmps7
  go_wp2
  go_region_with (go_at_call 17; refine (nFork_any (H.out.below (below_drewN _ _ 1)).num).mono ?_; rintro e wF ⟨mf2, rfl, hF, hmF, hbF0⟩; have hbF : Below w.heap.size w wF := undrew1 hbF0; have j0 := (hbF.cell (p := ⟨p, 0, none⟩) hp).trans c0; have dp1 : p < wF.heap.size := Nat.lt_of_lt_of_le hp hbF.size)
  all_goals (try go_wp2)
  all_goals go_ret
  all_goals exact fork_end hbF hF hmF
def RForkPost (w : World) (a : Option Addr) (cap : Nat) (B : Nat) (T : Tab) (e : Ending) (w' : World) : Prop := ∃ r2, e = .returned (.pointer (some ⟨r2, 0, none⟩)) ∧ w.heap.size ≤ r2 ∧ RTab w' B r2 a cap T ∧ Below w.heap.size w w'
set_option maxHeartbeats 3200000 in
theorem rFork_any {w : World} {B r : Nat} {a : Option Addr} {cap : Nat} {T : Tab} (h : RTab w B r a cap T) (hB : B ≤ w.heap.size) :
    Calls Tryd.prog 8 #[.pointer (some ⟨r, 0, none⟩)] w (RForkPost w a cap B T) := by
  have c0 := h.c0
  have c1 := h.c1
  have c2 := h.c2
  have H := hid h
  clear h
  go_enter Tryd.func8, Tryd.ntmps8
  go_wp2
  go_region_held3 (fun w9 => w9.cell? ⟨r, 0, none⟩ = some (.int .i64 T.next) ∧ w9.cell? ⟨r, 1, none⟩ = some (.int .i64 T.noted) ∧ w9.cell? ⟨r, 2, none⟩ = some (.slice a T.l.length cap))
    (first
      | exact ⟨c0, c1, c2⟩
      | exact ⟨(World.cell?_alloc_some _ _ _ (by rw [c0]; rfl)).trans c0, (World.cell?_alloc_some _ _ _ (by rw [c1]; rfl)).trans c1, (World.cell?_alloc_some _ _ _ (by rw [c2]; rfl)).trans c2⟩)
    (fail)
  go_wp2
  go_ret
  have hb : Below w.heap.size w (w.drew.alloc (.cells #[.int .i64 T.next, .int .i64 T.noted, .slice a T.l.length cap] 49)) := undrew1 ((Below.refl _ w.drew).alloc (Nat.le_refl _) _)
  have h := H.out
  have hrow : (w.drew.alloc (.cells #[.int .i64 T.next, .int .i64 T.noted, .slice a T.l.length cap] 49)).ownsRow B 42 5 (.slice a T.l.length cap) T.l.length (sCells T.l) := h.row.alloc _
  refine ⟨w.drew.heap.size, rfl, Nat.le_refl _, ⟨(MapKept.heap_alloc w.drew _).1, hrow, hB, ?_⟩, hb⟩
  intro e
  rcases h.row.2 with ⟨e0, _⟩ | ⟨g, cap', cur, e0, _, hg, _⟩
  · rw [e0] at e
    cases e
  · rw [e0] at e
    have e1 : g = w.drew.heap.size := by simpa [Value.ownBlock] using e
    have e2 : g < w.heap.size := (Array.getElem?_eq_some_iff.1 hg).1
    have e3 : w.drew.heap.size = w.heap.size := rfl
    omega
end Go.Proofs.YtcchlcbonfdhpaaDoor
