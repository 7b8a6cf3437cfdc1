/- Grants: the reference's Client, Consent, Fork. -/
import Derived.Test.YtlkbojgemcjilaaGreatDoorUR1
import Derived.Deep.RegionHeld3
namespace Go.Proofs.YtlkbojgemcjilaaGreatDoor
open Go.RowKit Go.Maps Go.Shelf Go.Sort Go.Lib
set_option linter.unusedVariables false
set_option maxRecDepth 20000
section
variable {w : World} {B g : Nat} {s : GS}
set_option maxHeartbeats 4000000 in
theorem rClientP_any (h : RG w B g s) (hl : s.cs.length ≤ 100000) (t n : ByteArray) :
    Calls Tryz.prog 34 #[.pointer (some ⟨g, 0, none⟩), .string t, .string n] w fun e w' => e = .returned (.tuple #[.agg (((findC s t n).map clC).getD clC0), .int .i64 (noneE (findC s t n).isSome)]) ∧ Below w.heap.size w w' := by
  obtain ⟨W, hW⟩ : ∃ W, W = w.alloc (.cells #[.string ⟨#[]⟩, .string ⟨#[]⟩, .string ⟨#[]⟩, .int .u8 0] 56) := ⟨_, rfl⟩
  have b0 : Below w.heap.size w W := by rw [hW]; exact (Below.refl _ w).alloc (Nat.le_refl _) _
  have x0 : W.heap[w.heap.size]? = some (.cells #[.string ⟨#[]⟩, .string ⟨#[]⟩, .string ⟨#[]⟩, .int .u8 0] 56 (0, 0)) := by rw [hW]; exact heap_allocN w _
  have h0 := h.below b0
  have HF := hid (rclient_any h0 (by omega) t n)
  have HW := hid hW.symm
  have B0 := hid b0
  have X0 := hid x0
  have y0 : W.cell? ⟨w.heap.size, 0, none⟩ = some (.string ⟨#[]⟩) := (cell_of_rowU _ _ 0 _ _ _ x0).trans rfl
  have y1 : W.cell? ⟨w.heap.size, 1, none⟩ = some (.string ⟨#[]⟩) := (cell_of_rowU _ _ 1 _ _ _ x0).trans rfl
  have y2 : W.cell? ⟨w.heap.size, 2, none⟩ = some (.string ⟨#[]⟩) := (cell_of_rowU _ _ 2 _ _ _ x0).trans rfl
  have y3 : W.cell? ⟨w.heap.size, 3, none⟩ = some (.int .u8 0) := (cell_of_rowU _ _ 3 _ _ _ x0).trans rfl
  have z0 : W.frozen? ⟨w.heap.size, 0, none⟩ = false := frozen_of_row _ _ _ _ _ x0
  have z1 : W.frozen? ⟨w.heap.size, 1, none⟩ = false := frozen_of_row _ _ _ _ _ x0
  have z2 : W.frozen? ⟨w.heap.size, 2, none⟩ = false := frozen_of_row _ _ _ _ _ x0
  have z3 : W.frozen? ⟨w.heap.size, 3, none⟩ = false := frozen_of_row _ _ _ _ _ x0
  obtain ⟨cv, av, hr⟩ := h0
  cases hf : findC s t n with
  | none =>
    have HI := hid (fun (i : Int) (hi : IxC s t n i) => (show i = -1 from by
      rcases hi with ⟨h1, _⟩ | ⟨k, hk, _, h2⟩
      · exact h1
      · rw [hf] at h2
        cases h2))
    clear h hW b0 x0 hf hr
    go_enter Tryz.func34, Tryz.ntmps34
    go_wp2_with (go_at_call 59; rw [HW.out]; refine HF.out.mono ?_; rintro _ w1 ⟨i, rfl, hi, e1⟩; subst w1; have hi2 := HI.out i hi; subst hi2; clear hi)
    refine bodyPost_ret (results_row_tmp rfl _ _ w.heap.size 56 clC0 (0, 0) _ rfl (set4U X0.out) Tryz.underlying56 rfl size_cl) rfl ?_
    exact ⟨rfl, below4U B0.out (Nat.le_refl _)⟩
  | some c =>
    have hne : ∀ cs T fr, T = 53 → W.heap[w.heap.size]? ≠ some (.cells cs T fr) := fun cs T fr e h9 => by
      rw [x0] at h9
      injection h9 with h9
      injection h9 with _ h9
      rw [← h9] at e
      exact absurd e (by decide)
    obtain ⟨a, cap, rfl, hx⟩ := clAt hr.cs
    have c0 := hr.c0
    have HI := hid (fun (i : Int) (hi : IxC s t n i) => (show ∃ (k : Nat) (bb : Nat), i = (k : Int) ∧ (k : Int) < (s.cs.length : Int) ∧ a = some ⟨bb, 0, none⟩ ∧ W.cell? ⟨bb, k * 4, none⟩ = some (.string c.t) ∧ W.cell? ⟨bb, k * 4 + 1, none⟩ = some (.string c.n) ∧ W.cell? ⟨bb, k * 4 + 2, none⟩ = some (.string c.r) ∧ W.cell? ⟨bb, k * 4 + 3, none⟩ = some (.int .u8 (c.sc : Int)) from by
      rcases hi with ⟨_, h2⟩ | ⟨k, hk, h1, h2⟩
      · rw [hf] at h2
        cases h2
      · rw [hf] at h2
        obtain ⟨bb, e1, d0, d1, d2, d3⟩ := hx k hk
        have h2 := Option.some.inj h2
        rw [← h2] at d0 d1 d2 d3
        exact ⟨k, bb, h1, by omega, e1, d0, d1, d2, d3⟩))
    obtain ⟨m, hm⟩ : ∃ m, m = s.cs.length := ⟨_, rfl⟩
    rw [← hm] at c0 HI hl
    have hlt0 : Hid (g < W.heap.size) := heap_lt hr.obj
    clear h hW b0 x0 hf hr hx hne hm
    go_enter Tryz.func34, Tryz.ntmps34
    go_wp2_with (go_at_call 59; rw [HW.out]; refine HF.out.mono ?_; rintro _ w1 ⟨i, rfl, hi, e1⟩; subst w1; obtain ⟨k, bb, rfl, hk, rfl, d0, d1, d2, d3⟩ := HI.out i hi; clear hi)
    refine bodyPost_ret (results_row_tmp rfl _ _ w.heap.size 56 (clC c) (0, 0) _ rfl (set4U X0.out) Tryz.underlying56 rfl size_cl) rfl ?_
    exact ⟨rfl, below4U B0.out (Nat.le_refl _)⟩
set_option maxHeartbeats 4000000 in
theorem rConsentP_any (h : RG w B g s) (hl : s.al.length ≤ 100000) (t u n : ByteArray) :
    Calls Tryz.prog 36 #[.pointer (some ⟨g, 0, none⟩), .agg #[.string t, .string u], .string n] w fun e w' => e = .returned (.tuple #[.agg (((fA s t u n).map coC).getD clC0), .int .i64 (noneE (fA s t u n).isSome)]) ∧ Below w.heap.size w w' := by
  obtain ⟨W1, hW1⟩ : ∃ W1, W1 = w.alloc (.cells #[.string t, .string u] 30) := ⟨_, rfl⟩
  have b1 : Below w.heap.size w W1 := by rw [hW1]; exact (Below.refl _ w).alloc (Nat.le_refl _) _
  have q0 : W1.heap[w.heap.size]? = some (.cells #[.string t, .string u] 30 (0, 0)) := by rw [hW1]; exact heap_allocN w _
  obtain ⟨W, hW⟩ : ∃ W, W = W1.alloc (.cells #[.string ⟨#[]⟩, .string ⟨#[]⟩, .string ⟨#[]⟩, .int .u8 0] 59) := ⟨_, rfl⟩
  have hsz : W1.heap.size = w.heap.size + 1 := by rw [hW1]; simp
  have b2 : Below W1.heap.size W1 W := by rw [hW]; exact (Below.refl _ W1).alloc (Nat.le_refl _) _
  have b0 : Below w.heap.size w W := Below.on' b1 b2
  have x0 : W.heap[w.heap.size + 1]? = some (.cells #[.string ⟨#[]⟩, .string ⟨#[]⟩, .string ⟨#[]⟩, .int .u8 0] 59 (0, 0)) := by rw [hW, ← hsz]; exact heap_allocN W1 _
  have q1 : W.heap[w.heap.size]? = some (.cells #[.string t, .string u] 30 (0, 0)) := (b2.block _ (heap_lt q0)).trans q0
  have o0 : W.cell? ⟨w.heap.size, 0, none⟩ = some (.string t) := (cell_of_rowU _ _ 0 _ _ _ q1).trans rfl
  have o1 : W.cell? ⟨w.heap.size, 1, none⟩ = some (.string u) := (cell_of_rowU _ _ 1 _ _ _ q1).trans rfl
  have h0 := h.below b0
  have HF := hid (rconsent_any h0 (by omega) t u n)
  have HW : Hid ((w.alloc (.cells #[.string t, .string u] 30)).alloc (.cells #[.string ⟨#[]⟩, .string ⟨#[]⟩, .string ⟨#[]⟩, .int .u8 0] 59) = W) := by rw [Hid, hW, hW1]
  have B0 := hid b0
  have HX := hid (fun (V : World) (hV : Below W.heap.size W V) => (hV.block _ (heap_lt x0)).trans x0)
  have HZ := hid (fun (V : World) (hV : V.heap[w.heap.size + 1]? = some (.cells #[.string ⟨#[]⟩, .string ⟨#[]⟩, .string ⟨#[]⟩, .int .u8 0] 59 (0, 0))) => (show V.cell? ⟨w.heap.size + 1, 0, none⟩ = some (.string ⟨#[]⟩) ∧ V.cell? ⟨w.heap.size + 1, 1, none⟩ = some (.string ⟨#[]⟩) ∧ V.cell? ⟨w.heap.size + 1, 2, none⟩ = some (.string ⟨#[]⟩) ∧ V.cell? ⟨w.heap.size + 1, 3, none⟩ = some (.int .u8 0) ∧ V.frozen? ⟨w.heap.size + 1, 0, none⟩ = false ∧ V.frozen? ⟨w.heap.size + 1, 1, none⟩ = false ∧ V.frozen? ⟨w.heap.size + 1, 2, none⟩ = false ∧ V.frozen? ⟨w.heap.size + 1, 3, none⟩ = false from
    ⟨(cell_of_rowU _ _ 0 _ _ _ hV).trans rfl, (cell_of_rowU _ _ 1 _ _ _ hV).trans rfl, (cell_of_rowU _ _ 2 _ _ _ hV).trans rfl, (cell_of_rowU _ _ 3 _ _ _ hV).trans rfl, frozen_of_row _ _ _ _ _ hV, frozen_of_row _ _ _ _ _ hV, frozen_of_row _ _ _ _ _ hV, frozen_of_row _ _ _ _ _ hV⟩))
  obtain ⟨cv, av, hr⟩ := h0
  cases hf : fA s t u n with
  | none =>
    have HI := hid (fun (i : Int) (hi : IxA s t u n i) => (show i = -1 from by
      rcases hi with ⟨h1, _⟩ | ⟨k, hk, _, h2⟩
      · exact h1
      · rw [hf] at h2
        cases h2))
    clear h hW hW1 b0 b1 b2 x0 q0 q1 hf hsz hr
    go_enter Tryz.func36, Tryz.ntmps36
    go_wp2_with (go_at_call 61; rw [HW.out]; refine HF.out.mono ?_; rintro _ w1 ⟨i, rfl, hi, b1⟩; have B1 := hid (Below.on' B0.out b1); have X1 := hid (HX.out w1 b1); obtain ⟨y0, y1, y2, y3, z0, z1, z2, z3⟩ := HZ.out w1 X1.out; have hi2 := HI.out i hi; subst hi2; clear hi b1)
    refine bodyPost_ret (results_row_tmp rfl _ _ (w.heap.size + 1) 59 clC0 (0, 0) _ rfl (set4U X1.out) Tryz.underlying59 rfl size_co) rfl ?_
    exact ⟨rfl, below4U B1.out (by omega)⟩
  | some c =>
    have hra := hid (fun (V : World) (hV : Below W.heap.size W V) => hr.below hV)
    obtain ⟨a, cap, rfl, hx⟩ := coAt hr.al
    obtain ⟨m, hm⟩ : ∃ m, m = s.al.length := ⟨_, rfl⟩
    have HC := hid (fun (V : World) (hV : Below W.heap.size W V) => (show V.cell? ⟨g, 1, none⟩ = some (.slice a m cap) from by rw [hm]; exact (hr.below hV).c1))
    have HI := hid (fun (V : World) (hV : Below W.heap.size W V) (i : Int) (hi : IxA s t u n i) => (show ∃ (k : Nat) (bb : Nat), i = (k : Int) ∧ (k : Int) < (m : Int) ∧ a = some ⟨bb, 0, none⟩ ∧ V.cell? ⟨bb, k * 4, none⟩ = some (.string c.t) ∧ V.cell? ⟨bb, k * 4 + 1, none⟩ = some (.string c.u) ∧ V.cell? ⟨bb, k * 4 + 2, none⟩ = some (.string c.n) ∧ V.cell? ⟨bb, k * 4 + 3, none⟩ = some (.int .u8 (c.sc : Int)) from by
      rcases hi with ⟨_, h2⟩ | ⟨k, hk, h1, h2⟩
      · rw [hf] at h2
        cases h2
      · rw [hf] at h2
        obtain ⟨bb, e1, d0, d1, d2, d3⟩ := hx k hk
        have h2 := Option.some.inj h2
        rw [← h2] at d0 d1 d2 d3
        have f : ∀ {a : Addr} {v : Value}, W.cell? a = some v → V.cell? a = some v := fun hc => (hV.cell (World.block_lt_of_cell? _ _ hc)).trans hc
        exact ⟨k, bb, h1, by omega, e1, f d0, f d1, f d2, f d3⟩))
    have hl9 : m ≤ 100000 := by omega
    clear h hW hW1 b0 b1 b2 x0 q0 q1 hf hsz hr hx hm hl
    go_enter Tryz.func36, Tryz.ntmps36
    go_wp2_with (go_at_call 61; rw [HW.out]; refine HF.out.mono ?_; rintro _ w1 ⟨i, rfl, hi, b1⟩; have B1 := hid (Below.on' B0.out b1); have X1 := hid (HX.out w1 b1); obtain ⟨y0, y1, y2, y3, z0, z1, z2, z3⟩ := HZ.out w1 X1.out; have c1 := HC.out w1 b1; obtain ⟨k, bb, rfl, hk, rfl, d0, d1, d2, d3⟩ := HI.out w1 b1 i hi; clear hi b1)
    refine bodyPost_ret (results_row_tmp rfl _ _ (w.heap.size + 1) 59 (coC c) (0, 0) _ rfl (set4U X1.out) Tryz.underlying59 rfl size_co) rfl ?_
    exact ⟨rfl, below4U B1.out (by omega)⟩
set_option maxHeartbeats 2000000 in
theorem rFork_any (h : RG w B g s) (hB : B ≤ w.heap.size) :
    Calls Tryz.prog 10 #[.pointer (some ⟨g, 0, none⟩)] w fun e w' => ∃ g2, e = .returned (.pointer (some ⟨g2, 0, none⟩)) ∧ Below w.heap.size w w' ∧ RG w' B g2 s ∧ w.heap.size ≤ g2 ∧ g2 < w'.heap.size := by
  obtain ⟨cv, av, hr⟩ := h
  obtain ⟨ca, ccap, rfl, _⟩ := clAt hr.cs
  obtain ⟨aa, acap, rfl, _⟩ := coAt hr.al
  have c0 := hr.c0
  have c1 := hr.c1
  have H := hid hr
  obtain ⟨m, hm⟩ : ∃ m, m = s.cs.length := ⟨_, rfl⟩
  obtain ⟨m2, hm2⟩ : ∃ m2, m2 = s.al.length := ⟨_, rfl⟩
  rw [← hm] at c0
  rw [← hm2] at c1
  have HM := hid (And.intro hm hm2)
  have z : Hid (w.drew.cell? ⟨g, 0, none⟩ = some (.slice ca m ccap) ∧ w.drew.cell? ⟨g, 1, none⟩ = some (.slice aa m2 acap)) := ⟨c0, c1⟩
  have z2 : Hid ((w.drew.alloc (.cells #[.slice ca m ccap, .slice aa m2 acap] 53)).cell? ⟨g, 0, none⟩ = some (.slice ca m ccap) ∧ (w.drew.alloc (.cells #[.slice ca m ccap, .slice aa m2 acap] 53)).cell? ⟨g, 1, none⟩ = some (.slice aa m2 acap)) := ⟨(World.cell?_alloc_some _ _ _ (by rw [z.out.1]; rfl)).trans z.out.1, (World.cell?_alloc_some _ _ _ (by rw [z.out.2]; rfl)).trans z.out.2⟩
  have HB := hid hB
  clear hr hm hm2 hB c0 c1
  go_enter Tryz.func10, Tryz.ntmps10
  go_wp2
  go_region_held3 (fun w9 => w9.cell? ⟨g, 0, none⟩ = some (.slice ca m ccap) ∧ w9.cell? ⟨g, 1, none⟩ = some (.slice aa m2 acap))
    (first
      | exact z.out
      | exact z2.out)
    (fail)
  go_wp2
  go_ret
  have b9 : Below w.heap.size w (w.drew.alloc (.cells #[.slice ca m ccap, .slice aa m2 acap] 53)) := (below_dN w.heap.size w 1).alloc (Nat.le_refl _) _
  have r9 := H.out.below b9
  refine ⟨w.heap.size, rfl, b9, ⟨_, _, ?_, r9.cs, r9.al, HB.out⟩, Nat.le_refl _, by simp⟩
  rw [← HM.out.1, ← HM.out.2]
  exact heap_allocN w.drew _
end
end Go.Proofs.YtlkbojgemcjilaaGreatDoor
