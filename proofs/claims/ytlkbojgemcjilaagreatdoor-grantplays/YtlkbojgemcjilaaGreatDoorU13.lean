/- Grants: New, Register. -/
import Derived.Test.YtlkbojgemcjilaaGreatDoorU12
namespace Go.Proofs.YtlkbojgemcjilaaGreatDoor
open Go.RowKit Go.Maps
set_option linter.unusedVariables false
set_option maxRecDepth 20000
theorem empty_ok : (⟨[], []⟩ : GS).Ok := ⟨(fun _ h => nomatch h), List.Pairwise.nil, (fun _ h => nomatch h), List.Pairwise.nil⟩
theorem new_made (w : World) (B : Nat) (hB : B ≤ w.heap.size) : SAt ((w.alloc (.map #[] 0)).alloc (.cells #[.map (some w.heap.size)] 49)) B (w.heap.size + 1) w.heap.size [] ⟨[], []⟩ 0 := by
  have hsz : (w.alloc (.map #[] 0)).heap.size = w.heap.size + 1 := by simp
  refine ⟨empty_ok, rfl, ?_, ⟨0, .map [], (World.ownsMap_made w Tryz.prog 62 RV).alloc _, Nat.le_refl _, ⟨tidy_empty, fun _ _ _ _ => rfl, (fun p hp => nomatch hp), rfl⟩⟩, (fun p hp => nomatch hp), List.nodup_nil, by simp, by omega, hB⟩
  rw [← hsz]
  exact heap_allocN _ _
theorem new_any (w : World) (B : Nat) (hB : B ≤ w.heap.size) :
    Calls Tryz.prog 6 #[] w fun e w' => ∃ g mc, e = .returned (.pointer (some ⟨g, 0, none⟩)) ∧ w.heap.size ≤ g ∧ w.heap.size ≤ mc ∧ Below w.heap.size w w' ∧ SAt w' B g mc [] ⟨[], []⟩ 0 := by
  have hmm := @run_makeMap Tryz.prog
  go_enter Tryz.func6, Tryz.ntmps6
  go_wp2
  go_ret
  exact ⟨_, _, rfl, by simp, Nat.le_refl _, ((Below.refl _ w).alloc (Nat.le_refl _) _).alloc (by simp) _, by have := new_made w B hB; simpa using this⟩
section
variable {w : World} {B g mc d : Nat} {L : List Reg} {s : GS}
theorem RegIn.mono {p : Reg} {al : List Co} {d' : Nat} (h : RegIn w B p al d) (hd : d ≤ d') : RegIn w B p al d' := by
  obtain ⟨h1, h2, h3, n, D, h4, h5, h6⟩ := h
  exact ⟨h1, h2, h3, n, D, h4, Nat.le_trans h5 hd, h6⟩
theorem SAt.mono {d' : Nat} (h : SAt w B g mc L s d) (hd : d ≤ d') : SAt w B g mc L s d' := by
  obtain ⟨n, V, h1, h2, h3⟩ := h.cm
  exact ⟨h.ok, h.cs, h.obj, ⟨n, V, h1, Nat.le_trans h2 hd, h3⟩, fun p hp => (h.regs p hp).mono hd, h.ndr, h.ndm, h.bg, h.bm⟩
def regS (L : List Reg) (s : GS) (c : Cl) : GS := if regE L c = 0 then s.addC c else s
theorem regE_zero {c : Cl} (h : regE L c = 0) : okN c.t = true ∧ okN c.n = true ∧ c.r.size ≤ 24 ∧ fC L c.t c.n = none := by
  unfold regE at h
  by_cases h1 : (okN c.t && okN c.n) = false
  · rw [if_pos h1] at h; cases h
  · rw [if_neg h1] at h
    by_cases h2 : 24 < c.r.size
    · rw [if_pos h2] at h; cases h
    · rw [if_neg h2] at h
      by_cases h3 : (fC L c.t c.n).isSome = true
      · rw [if_pos h3] at h; cases h
      · simp at h1 h3
        exact ⟨h1.1, h1.2, by omega, h3⟩
set_option maxHeartbeats 4000000 in
theorem register_any (h : SAt w B g mc L s d) (hd : d ≤ 17592186044415) (hl9 : L.length ≤ 100000) (hB : B ≤ w.heap.size) (c : Cl) (hc : ClIn c) :
    Calls Tryz.prog 19 #[.pointer (some ⟨g, 0, none⟩), .agg (clC c)] w fun e w' => ∃ L', e = .returned (.int .i64 (regE L c : Nat)) ∧ OutJ (MineU g mc L) w w' ∧ SAt w' B g mc L' (regS L s c) (d + 1) ∧ (∀ k, MineU g mc L' k → MineU g mc L k ∨ w.heap.size ≤ k) := by
  have hmm := @run_makeMap Tryz.prog
  obtain ⟨W, hW⟩ : ∃ W, W = w.alloc (.cells (clC c) 56) := ⟨_, rfl⟩
  have b0 : Below w.heap.size w W := by rw [hW]; exact (Below.refl _ w).alloc (Nat.le_refl _) _
  have x0 : W.heap[w.heap.size]? = some (.cells (clC c) 56 (0, 0)) := by rw [hW]; exact heap_allocN w _
  have h0 := h.below b0
  have HF := hid (registerError_any h0 (by omega) hl9 c hc)
  have HW := hid hW.symm
  have B0 := hid b0
  have H := hid h
  have H0 := hid h0
  have X0 := hid x0
  have y0 : W.cell? ⟨w.heap.size, 0, none⟩ = some (.string c.t) := (cell_of_rowU _ _ 0 _ _ _ x0).trans rfl
  have y1 : W.cell? ⟨w.heap.size, 1, none⟩ = some (.string c.n) := (cell_of_rowU _ _ 1 _ _ _ x0).trans rfl
  have y2 : W.cell? ⟨w.heap.size, 2, none⟩ = some (.string c.r) := (cell_of_rowU _ _ 2 _ _ _ x0).trans rfl
  have y3 : W.cell? ⟨w.heap.size, 3, none⟩ = some (.int .u8 (c.sc : Int)) := (cell_of_rowU _ _ 3 _ _ _ x0).trans rfl
  have HL := hid (And.intro hd (And.intro hB hc))
  unfold regS
  cases hE : regE L c with
  | succ e9 =>
    rw [hE] at HF
    have d1 : (((e9 + 1 : Nat) : Int) == 0) = false := by simp; omega
    obtain ⟨E, hEE⟩ : ∃ E : Int, E = ((e9 + 1 : Nat) : Int) := ⟨_, rfl⟩
    rw [← hEE] at HF d1 ⊢
    rw [if_neg (by omega)]
    clear h h0 hW b0 x0 hE hc hd hB hl9 hEE
    unfold clC at HW HF ⊢
    rw [← HW.out] at y0 y1 y2 y3
    go_enter Tryz.func19, Tryz.ntmps19
    go_wp2_with (go_at_call 53; rw [HW.out]; refine HF.out.mono ?_; rintro _ w1 ⟨rfl, b1⟩; have B1 := hid (Below.on' B0.out b1); clear b1)
    go_ret
    exact ⟨L, rfl, OutJ.of_below B1.out, ((H.out.below B1.out).mono (Nat.le_succ d)), fun k hk => .inl hk⟩
  | zero =>
    rw [hE] at HF
    rw [if_pos rfl]
    obtain ⟨z1, z2, z3, z4⟩ := regE_zero hE
    have HZ := hid (And.intro z1 (And.intro z2 (And.intro z3 z4)))
    have HX := hid (fun (V : World) (hV : Below W.heap.size W V) => (hV.block _ (heap_lt x0)).trans x0)
    have HP := hid (fun (V : World) (hV : V.heap[w.heap.size]? = some (.cells (clC c) 56 (0, 0))) => (show V.cell? ⟨w.heap.size, 0, none⟩ = some (.string c.t) ∧ V.cell? ⟨w.heap.size, 1, none⟩ = some (.string c.n) ∧ V.cell? ⟨w.heap.size, 2, none⟩ = some (.string c.r) ∧ V.cell? ⟨w.heap.size, 3, none⟩ = some (.int .u8 (c.sc : Int)) from
      ⟨(cell_of_rowU _ _ 0 _ _ _ hV).trans rfl, (cell_of_rowU _ _ 1 _ _ _ hV).trans rfl, (cell_of_rowU _ _ 2 _ _ _ hV).trans rfl, (cell_of_rowU _ _ 3 _ _ _ hV).trans rfl⟩))
    clear h h0 hW b0 x0 hE hc hd hB hl9 z1 z2 z3 z4
    unfold clC at HW HF ⊢
    rw [← HW.out] at y0 y1 y2 y3
    go_enter Tryz.func19, Tryz.ntmps19
    go_wp2_with (go_at_call 53; rw [HW.out]; refine HF.out.mono ?_; rintro _ w1 ⟨rfl, b1⟩; have BW := hid b1; have B1 := hid (Below.on' B0.out b1); clear b1)
    clear y0 y1 y2 y3
    obtain ⟨M, hM⟩ : ∃ M, M = w1.drew.alloc (.map #[] 0) := ⟨_, rfl⟩
    obtain ⟨N, hN⟩ : ∃ N, N = M.alloc (.cells #[.string c.r, .int .u8 (c.sc : Int), .map (some w1.drew.heap.size)] 66) := ⟨_, rfl⟩
    have sM : M.heap.size = w1.drew.heap.size + 1 := by rw [hM]; simp
    have s1 : w1.drew.heap.size = w1.heap.size := rfl
    have bA : Below W.heap.size W w1.drew := Below.on' BW.out (below_dN w1.heap.size w1 1)
    have bM : Below w1.drew.heap.size w1.drew M := by rw [hM]; exact (Below.refl _ _).alloc (Nat.le_refl _) _
    have bN : Below M.heap.size M N := by rw [hN]; exact (Below.refl _ _).alloc (Nat.le_refl _) _
    have bM' := Below.on' bA bM
    have bN' := Below.on' bM' bN
    have hmM : M.ownsMap Tryz.prog 9 (plainElem Tryz.prog 31) w1.drew.heap.size 0 (.map [] : DataW Unit) := by rw [hM]; exact World.ownsMap_made w1.drew Tryz.prog 9 _
    have hmN : N.ownsMap Tryz.prog 9 (plainElem Tryz.prog 31) w1.drew.heap.size 0 (.map [] : DataW Unit) := by rw [hN]; exact hmM.alloc _
    have hrN : N.heap[M.heap.size]? = some (.cells #[.string c.r, .int .u8 (c.sc : Int), .map (some w1.drew.heap.size)] 66 (0, 0)) := by rw [hN]; exact heap_allocN _ _
    have HNs := H0.out.below bN'
    obtain ⟨k, V, hm, hk, hV⟩ := HNs.cm
    have hsz := HL.out.2.2
    obtain ⟨w2, hrun, hown2, ht2⟩ := hm.store (key := .agg #[.string c.t, .string c.n]) (val := .pointer (some ⟨M.heap.size, 0, none⟩)) (d := .held (.pointer (some ⟨M.heap.size, 0, none⟩))) (ps := []) lawPlace Tryz.underlying47 (by have := HL.out.1; unfold maxLen; omega) (keyOf_place c.t c.n (by have := hsz.t; unfold maxLen; omega) (by have := hsz.n; unfold maxLen; omega)) rfl
    have hg2 := ht2.grown
    have hS := H0.out.addC c (H0.out.ok.addC c HZ.out.1 HZ.out.2.1 HZ.out.2.2.1 hsz.sc (fC_none_cs H0.out HZ.out.2.2.2)) HZ.out.2.2.2 M.heap.size w1.drew.heap.size k V (by omega) hV bN' hm hown2 hg2 hrN hmN (by have := bM'.size; omega) (by have := bA.size; omega) (by have := B0.out.size; have := HL.out.2.1; omega)
    have xN := HX.out N bN'
    have x2 := (hg2.block w.heap.size (heap_lt xN) (fun e => cells_ne_map hm xN (Option.some.inj e))).trans xN
    obtain ⟨a0, a1, a2, a3⟩ := HP.out _ (HX.out _ bA)
    obtain ⟨m0, m1, m2, m3⟩ := HP.out _ (HX.out _ bM')
    obtain ⟨n0, n1, n2, n3⟩ := HP.out _ xN
    obtain ⟨p0, p1, p2, p3⟩ := HP.out _ x2
    have a4 := (H0.out.below bA).c0
    have m4 := (H0.out.below bM').c0
    have n4 := HNs.c0
    have p4 := hS.c0
    have H2 := hid hS
    have O2 := hid ((OutJ.of_below (P := MineU g mc L) (Below.on' B0.out bN')).trans (OutJ.of_grown (P := MineU g mc L) hg2 (.inr (.inl rfl))))
    have HM9 : Hid (w.heap.size ≤ M.heap.size ∧ w.heap.size ≤ w1.drew.heap.size) := ⟨by have := bM'.size; have := B0.out.size; omega, by have := bA.size; have := B0.out.size; omega⟩
    rw [hN] at hrun n0 n1 n2 n3 n4
    rw [sM] at hrun
    rw [hM] at hrun n0 n1 n2 n3 n4 m0 m1 m2 m3 m4
    have hrun' : (Instr.mapUpdate 47 (.map (some mc)) (.agg #[.string c.t, .string c.n]) (.pointer (some ⟨w1.heap.size + 1, 0, none⟩))).run Tryz.prog ((w1.alloc (.map #[] 0)).alloc (.cells #[.string c.r, .int .u8 (c.sc : Int), .map (some w1.heap.size)] 66)).drew = .ok () w2 := hrun
    clear hrun
    clear sM s1 bA bM bN bM' bN' hmM hmN hrN HNs hm hk hV hsz hown2 ht2 hg2 hS xN x2
    go_region_held3 (fun w9 => w9.cell? ⟨w.heap.size, 0, none⟩ = some (.string c.t) ∧ w9.cell? ⟨w.heap.size, 1, none⟩ = some (.string c.n) ∧ w9.cell? ⟨w.heap.size, 2, none⟩ = some (.string c.r) ∧ w9.cell? ⟨w.heap.size, 3, none⟩ = some (.int .u8 (c.sc : Int)) ∧ w9.cell? ⟨g, 0, none⟩ = some (.map (some mc)))
      (first
        | exact ⟨a0, a1, a2, a3, a4⟩
        | exact ⟨m0, m1, m2, m3, m4⟩
        | exact ⟨n0, n1, n2, n3, n4⟩
        | exact ⟨p0, p1, p2, p3, p4⟩)
      (fail)
    go_wp2
    go_ret
    refine ⟨_, rfl, O2.out, H2.out, ?_⟩
    rintro k9 (h9 | h9 | ⟨p, hp, h9⟩)
    · exact .inl (.inl h9)
    · exact .inl (.inr (.inl h9))
    · rcases List.mem_append.1 hp with hp | hp
      · exact .inl (.inr (.inr ⟨p, hp, h9⟩))
      · obtain rfl := List.mem_singleton.1 hp
        rcases h9 with rfl | rfl
        · exact .inr HM9.out.1
        · exact .inr HM9.out.2
end
end Go.Proofs.YtlkbojgemcjilaaGreatDoor
