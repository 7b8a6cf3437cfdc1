/- goOn of package token, by a contract. -/
import Derived.Test.YtmnhhomkglffcaaGreatDoorKGrant
namespace Go.Proofs.YtmnhhomkglffcaaGreatDoor
open Go.RowKit Go.Maps Go.Sort Go.Shelf
set_option linter.unusedVariables false
set_option maxRecDepth 20000

/-- until when a token lasts that is let have now -/
def untilOf (now : Int) : Int := min (now + 50) 1099511627776

set_option maxHeartbeats 1600000 in
theorem goOn_any {w : World} {B p mf mt n1 n2 : Nat} {T : Sto} (h : StoAt w B p mf mt n1 n2 T) (idt : ∀ s ∈ T.ts, 1 ≤ s.id ∧ s.id < T.nt) (hnt1 : 1 ≤ T.nt) (hn1 : n1 ≤ 1000000000) (hn : n2 ≤ 1000000000) (hnt : T.nt ≤ 1099511627776)
    (s : Fam.Sess) (hs : 1 ≤ s.id ∧ s.id ≤ 1099511627776) (l' : List Fam.Sess) (hl : ∀ t, t ∈ l' ↔ t = s ∨ (t ∈ T.fs ∧ t.id ≠ s.id)) (now : Int) (hnow : 0 ≤ now ∧ now ≤ 1099511627776) :
    Calls Tryz.prog 49 #[.pointer (some ⟨p, 0, none⟩), .agg #[.int .i64 s.id, .int .i64 s.ses, .string s.cli, .int .u8 s.sco, .int .i64 s.nxt], .int .i64 now] w fun e w' => e = .returned (.agg #[.int .i64 T.nt, .int .i64 s.id, .int .u8 s.sco, .int .i64 (untilOf now)]) ∧
      StoAt w' B p mf mt (n1 + 1) (n2 + 1) ⟨now, T.nf, l', T.nt + 1, T.ts ++ [⟨T.nt, s.id, s.sco, untilOf now⟩]⟩ ∧ Out (Mine p mf mt) w w' := by
  have hp := h.lts.1
  have hf := h.lts.2.1
  have ht := h.lts.2.2
  have hpne := h.pne
  obtain ⟨g, hg⟩ : ∃ g, g = w.heap.size := ⟨_, rfl⟩
  obtain ⟨W3, hW3⟩ : ∃ W3, W3 = (w.alloc (.cells #[.int .i64 s.id, .int .i64 s.ses, .string s.cli, .int .u8 s.sco, .int .i64 s.nxt] 35)).alloc (.cells #[.int .i64 0, .int .i64 0, .int .u8 0, .int .i64 0] 55) := ⟨_, rfl⟩
  have b3 : Below w.heap.size w W3 := by rw [hW3]; exact ((Below.refl _ w).alloc (Nat.le_refl _) _).alloc (by simp) _
  have h3 := h.below b3
  have t3 : W3.heap[g]? = some (.cells #[.int .i64 s.id, .int .i64 s.ses, .string s.cli, .int .u8 s.sco, .int .i64 s.nxt] 35 (0, 0)) := by rw [hW3, hg, Below.heap_alloc _ _ _ (by simp)]; exact (MapKept.heap_alloc w _).1
  have r3 : W3.heap[g + 1]? = some (.cells #[.int .i64 0, .int .i64 0, .int .u8 0, .int .i64 0] 55 (0, 0)) := by
    have h9 := (MapKept.heap_alloc (w.alloc (.cells #[.int .i64 s.id, .int .i64 s.ses, .string s.cli, .int .u8 s.sco, .int .i64 s.nxt] 35)) (.cells #[.int .i64 0, .int .i64 0, .int .u8 0, .int .i64 0] 55)).1
    rw [World.size_alloc, ← hg, ← hW3] at h9
    exact h9
  have o3 : Out (Mine p mf mt) w W3 := Out.of_below b3
  have h3d : StoAt W3.drew B p mf mt n1 n2 T := h3.keep rfl rfl rfl
  obtain ⟨D, hown, hh, ha⟩ := h3d.mapf
  obtain ⟨w4, hrun, hown4, hturn⟩ := hown.store intKeyed Tryz.underlying46 (by unfold maxLen; omega) (zkey (x := s.id) (by omega) (by omega)) (Fam.sessR_mk s)
  have hrun' : (Instr.mapUpdate 46 (.map (some mf)) (.int .i64 s.id) (.agg #[.int .i64 s.id, .int .i64 s.ses, .string s.cli, .int .u8 s.sco, .int .i64 s.nxt])).run Tryz.prog W3.drew = .ok () w4 := hrun
  have g4 : ∀ k, k < W3.heap.size → k ≠ mf → w4.heap[k]? = W3.heap[k]? := fun k hk hne => hturn.grown.block k hk (fun e => hne (by cases e; rfl))
  have l3 := h3.lts
  have h4 : StoAt w4 B p mf mt (n1 + 1) n2 ⟨T.noted, T.nf, l', T.nt, T.ts⟩ :=
    ⟨(g4 p l3.1 hpne.1).trans h3.obj, NMap.put hown.isMap hh ha hown4 hl, h3.mapt.keep (g4 mt l3.2.2 (Ne.symm h.ne)), h.bp, h.bf, h.bt, h.ne⟩
  have s3 : g + 1 < W3.heap.size := (Array.getElem?_eq_some_iff.1 r3).1
  have t4 : w4.heap[g]? = some (.cells #[.int .i64 s.id, .int .i64 s.ses, .string s.cli, .int .u8 s.sco, .int .i64 s.nxt] 35 (0, 0)) := (g4 g (by omega) (by omega)).trans t3
  have r4 : w4.heap[g + 1]? = some (.cells #[.int .i64 0, .int .i64 0, .int .u8 0, .int .i64 0] 55 (0, 0)) := (g4 (g + 1) s3 (by omega)).trans r3
  have o4 : Out (Mine p mf mt) w w4 := o3.trans (Out.undrew (Out.of_grown (P := Mine p mf mt) hturn.grown (.inr (.inl rfl)))) (fun _ _ e => e)
  have hd4 : g + 1 < w4.heap.size := (Array.getElem?_eq_some_iff.1 r4).1
  have Hi := hid (issue_any h4 (by exact idt) (by exact hnt1) hn (by exact hnt) 0 s.id s.sco (untilOf now) now)
  have O4 := hid o4
  have R4 := hid r4
  have T4 := hid t4
  have HW3 := hid hW3
  have HG := hid hg
  have HR := hid hrun'
  have T3 := hid t3
  have H3 := hid h3
  clear h h3 h3d hown hh ha hrun hrun' hown4 hturn hl g4 h4 t4 r4 o4 o3 b3 r3 t3 s3 l3 hW3 hg hnt1 hpne hnt idt
  go_enter Tryz.func49, Tryz.ntmps49
  go_wp2
  rw [← HW3.out, ← HG.out]
  have k4 : W3.cell? ⟨p, 2, none⟩ = some (.map (some mf)) := H3.out.numf.c1
  have k0 : W3.cell? ⟨g, 0, none⟩ = some (.int .i64 s.id) := cell_of_row _ _ 0 _ _ _ T3.out
  have k1 : W3.cell? ⟨g, 1, none⟩ = some (.int .i64 s.ses) := cell_of_row _ _ 1 _ _ _ T3.out
  have k2 : W3.cell? ⟨g, 2, none⟩ = some (.string s.cli) := cell_of_row _ _ 2 _ _ _ T3.out
  have k3 : W3.cell? ⟨g, 3, none⟩ = some (.int .u8 s.sco) := cell_of_row _ _ 3 _ _ _ T3.out
  have k5 : W3.cell? ⟨g, 4, none⟩ = some (.int .i64 s.nxt) := cell_of_row _ _ 4 _ _ _ T3.out
  have hrun' := HR.out
  have y0 : w4.cell? ⟨g, 0, none⟩ = some (.int .i64 s.id) := cell_of_row _ _ 0 _ _ _ T4.out
  have y3 : w4.cell? ⟨g, 3, none⟩ = some (.int .u8 s.sco) := cell_of_row _ _ 3 _ _ _ T4.out
  go_region
  all_goals (try go_wp2_with (go_at_call 63; refine Hi.out.mono ?_; rintro e w5 ⟨rfl, h5, o5⟩; have r5 := (o5.block (g + 1) hd4 (by unfold Mine; have := HG.out; omega)).trans R4.out; have q0 : w5.cell? ⟨g + 1, 0, none⟩ = some (.int .i64 0) := cell_of_row _ _ 0 _ _ _ r5; have q1 : w5.cell? ⟨g + 1, 1, none⟩ = some (.int .i64 0) := cell_of_row _ _ 1 _ _ _ r5; have q2 : w5.cell? ⟨g + 1, 2, none⟩ = some (.int .u8 0) := cell_of_row _ _ 2 _ _ _ r5; have q3 : w5.cell? ⟨g + 1, 3, none⟩ = some (.int .i64 0) := cell_of_row _ _ 3 _ _ _ r5; have z0 : w5.frozen? ⟨g + 1, 0, none⟩ = false := frozen_of_row _ _ 0 _ _ r5; have z1 : w5.frozen? ⟨g + 1, 1, none⟩ = false := frozen_of_row _ _ 1 _ _ r5; have z2 : w5.frozen? ⟨g + 1, 2, none⟩ = false := frozen_of_row _ _ 2 _ _ r5; have z3 : w5.frozen? ⟨g + 1, 3, none⟩ = false := frozen_of_row _ _ 3 _ _ r5; have hd5 := (Array.getElem?_eq_some_iff.1 r5).1; have H5 := hid h5; have O5 := hid o5; clear h5 o5 r5))
  have eg := HG.out
  refine bodyPost_ret (v := .agg #[.int .i64 T.nt, .int .i64 s.id, .int .u8 s.sco, .int .i64 (untilOf now)]) (by simp [results, Tryz.results49, go_sem, q0, q1, q2, q3]) rfl ⟨rfl, ?_, ?_⟩
  · exact H5.out.four _ _ _ _ (by omega) (by omega) (by omega)
  · exact (O4.out.trans O5.out (fun _ _ e => e)).four (by omega) _ _ _ _
end Go.Proofs.YtmnhhomkglffcaaGreatDoor
