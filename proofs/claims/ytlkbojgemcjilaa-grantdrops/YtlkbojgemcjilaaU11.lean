/- Grants: Withdraw, the walk. -/
import Derived.Test.YtlkbojgemcjilaaU10
namespace Go.Proofs.Ytlkbojgemcjilaa
open Go.RowKit Go.Maps
set_option linter.unusedVariables false
set_option maxRecDepth 20000
section
variable {w : World} {B g mc d : Nat} {L : List Reg} {s : GS}
set_option maxHeartbeats 4000000 in
theorem withdraw_any (h : SAt w B g mc L s d) (t u n : ByteArray) (ht : t.size ≤ maxLen) (hu : u.size ≤ maxLen) (hn : n.size ≤ maxLen) :
    Calls Try.prog 24 #[.pointer (some ⟨g, 0, none⟩), .agg #[.string t, .string u], .string n] w fun e w' => e = .returned (.int .i64 (noneE (fB L s t u n).isSome)) ∧ OutJ (MineU g mc L) w w' ∧ SAt w' B g mc L (s.dropA t u n) d := by
  obtain ⟨W, hW⟩ : ∃ W, W = w.alloc (.cells #[.string t, .string u] 24) := ⟨_, rfl⟩
  have b0 : Below w.heap.size w W := by rw [hW]; exact (Below.refl _ w).alloc (Nat.le_refl _) _
  have x0 : W.heap[w.heap.size]? = some (.cells #[.string t, .string u] 24 (0, 0)) := by rw [hW]; exact heap_allocN w _
  have o0 : W.cell? ⟨w.heap.size, 0, none⟩ = some (.string t) := (cell_of_rowU _ _ 0 _ _ _ x0).trans rfl
  have o1 : W.cell? ⟨w.heap.size, 1, none⟩ = some (.string u) := (cell_of_rowU _ _ 1 _ _ _ x0).trans rfl
  have h0 := h.below b0
  have HF := hid (findConsent_any h0 t u n ht hu hn)
  have HW := hid hW.symm
  have B0 := hid b0
  cases hf : fB L s t u n with
  | none =>
    rw [hf] at HF
    have e1 := dropA_none h hf
    rw [e1]
    have H := hid h
    clear h h0 hW b0 x0 hf e1
    go_enter Try.func24, Try.ntmps24
    go_wp2_with (go_at_call 28; rw [HW.out]; refine HF.out.mono ?_; rintro _ w1 ⟨rfl, b1⟩; have B1 := hid (Below.on' B0.out b1); clear b1; unfold noneE; simp only [Option.isSome_none, Bool.false_eq_true, if_false])
    go_ret
    exact ⟨rfl, OutJ.of_below B1.out, H.out.below B1.out⟩
  | some q =>
    rw [hf] at HF
    obtain ⟨hp, rfl, rfl, _, _, rfl, _⟩ := fB_some hf
    obtain ⟨p, co⟩ := q
    simp only [Option.map_some, Option.getD_some, Option.isSome_some] at HF hp ht hn ⊢
    have H0 := hid h0
    have Hp := hid hp
    have HU := hid (fun (V : World) (hV : Below W.heap.size W V) => (hV.block _ (heap_lt x0)).trans x0)
    have Hkl := hid (Go.WideMaps.keyOf_string_mk Try.underlying9 (s := co.u) hu)
    clear h h0 hW b0 x0 hf hp
    go_enter Try.func24, Try.ntmps24
    go_wp2_with (go_at_call 28; rw [HW.out]; refine HF.out.mono ?_; rintro _ w1 ⟨rfl, b1⟩; have B1 := hid (Below.on' B0.out b1); have BW := hid b1; clear b1; unfold noneE; simp only [if_true])
    have H1 := hid ((H0.out.below BW.out).below (below_dN w1.heap.size w1 1))
    have x1 := HU.out _ BW.out
    have q1 : w1.cell? ⟨w.heap.size, 1, none⟩ = some (.string co.u) := (cell_of_rowU _ _ 1 _ _ _ x1).trans rfl
    obtain ⟨r0, r1, r2⟩ := ((H0.out.below BW.out).regs p Hp.out).c
    obtain ⟨_, _, _, k, D, hm, hk, hD⟩ := H1.out.regs p Hp.out
    obtain ⟨w2, hrun, hown2, ht2⟩ := hm.drop lawStr Try.underlying69 Hkl.out 0
    have hg2 := ht2.grown
    have q2 : w2.cell? ⟨w.heap.size, 1, none⟩ = some (.string co.u) := (cell_of_rowU _ _ 1 _ _ _ ((hg2.block w.heap.size (heap_lt x1) (fun e => cells_ne_map hm x1 (Option.some.inj e))).trans x1)).trans rfl
    have hS := H1.out.dropA Hp.out co.u k D hk hD hown2 hg2
    have r3 := (hS.regs p Hp.out).c.2.2
    have H2 := hid hS
    have O2 := hid (OutJ.of_grown (P := MineU g mc L) hg2 (.inr (.inr ⟨p, Hp.out, .inr rfl⟩)))
    have hrun' : (Builtin.delete_ #[69, 9] 0 #[Value.map (some p.m), Value.string co.u]).run Try.prog w1.drew = .ok (.tuple #[]) w2 := hrun
    clear r0 r1 hm hk hD hg2 ht2 hown2 hrun x1 hS
    go_region_held3 (fun w9 => w9.cell? ⟨w.heap.size, 1, none⟩ = some (.string co.u) ∧ w9.cell? ⟨p.r, 2, none⟩ = some (.map (some p.m)))
      (first
        | exact ⟨q1, r2⟩
        | exact ⟨q2, r3⟩)
      (fail)
    go_wp2
    go_ret
    exact ⟨rfl, (OutJ.of_below (B1.out.trans (below_dN _ _ 1))).trans O2.out, H2.out⟩
end
end Go.Proofs.Ytlkbojgemcjilaa
