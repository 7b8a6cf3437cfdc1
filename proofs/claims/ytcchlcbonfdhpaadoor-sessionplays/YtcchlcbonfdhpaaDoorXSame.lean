/- The reference's SameRows on rows that are the same. -/
import Derived.Test.YtcchlcbonfdhpaaDoorXRow
namespace Go.Proofs.YtcchlcbonfdhpaaDoor
open Go.RowKit Go.Maps Go.Sort Go.Shelf
set_option linter.unusedVariables false
set_option maxRecDepth 20000
theorem rows_at {w : World} {B : Nat} {v : Value} {rs : List RC} (h : w.ownsRow B 67 2 v rs.length (rcCells rs)) (k : Nat) (hk : k < rs.length) : ∃ g cap, v = .slice (some ⟨g, 0, none⟩) rs.length cap ∧ w.cell? ⟨g, k * 2, none⟩ = some (.string rs[k].key) ∧ w.cell? ⟨g, k * 2 + 1, none⟩ = some (.slice rs[k].ad rs[k].len rs[k].cap) := by
  rcases h.2 with ⟨_, h0⟩ | ⟨g, cap, cur, rfl, _⟩
  · omega
  · refine ⟨g, cap, rfl, ?_, ?_⟩
    · rw [World.ownsRow.cellAt h (k * 2) (by omega)]
      exact (rcCells_get rs k hk).1
    · rw [World.ownsRow.cellAt h (k * 2 + 1) (by omega)]
      exact (rcCells_get rs k hk).2
set_option maxHeartbeats 6400000 in
theorem sameRows_any {w : World} {B1 B2 : Nat} {v1 v2 : Value} {r1 r2 : List RC} {m : List Rw} (h1 : w.ownsRow B1 67 2 v1 r1.length (rcCells r1)) (h2 : w.ownsRow B2 67 2 v2 r2.length (rcCells r2)) (i1 : RowsIs w r1 m) (i2 : RowsIs w r2 m) (hm : m.length ≤ 1000000000) (hc : ∀ x ∈ m, x.cols.length ≤ 1000) :
    Calls Tryd.prog 10 #[v1, v2] w fun e w' => e = .returned (.bool true) ∧ Below w.heap.size w w' := by
  have H1 := hid h1
  have H2 := hid h2
  have I1 := hid i1
  have I2 := hid i2
  have Hc := hid hc
  obtain ⟨a1, c1, e1⟩ := slice_of_own h1
  obtain ⟨a2, c2, e2⟩ := slice_of_own h2
  obtain ⟨N, hN⟩ : ∃ N, N = m.length := ⟨_, rfl⟩
  rw [← hN] at hm
  have L1 : r1.length = N := by rw [hN]; exact i1.length
  have L2 : r2.length = N := by rw [hN]; exact i2.length
  rw [L1] at e1
  rw [L2] at e2
  have HL1 := hid L1
  have HL2 := hid L2
  have HN := hid hN
  have E1 := hid e1
  have E2 := hid e2
  rw [e1, e2]
  clear h1 h2 i1 i2 hc L1 L2 hN e1 e2
  go_enter Tryd.func10, Tryd.ntmps10
  go_wp2
  go_loopw [5] (fun i wr => ∃ k : Nat, k ≤ N ∧ i = .int .i64 k ∧ Below w.heap.size w wr) (fun i _ => N - (intOf i).toNat)
  case atStart => exact ⟨0, Nat.zero_le _, rfl, Below.refl _ _⟩
  case round =>
    obtain ⟨k, hk, rfl, hb⟩ := hrel
    have HB := hid hb
    clear hb
    by_cases hlt : k < N
    · have g1 : (k : Int) < (N : Int) := by omega
      have g0 : (0 : Int) ≤ (k : Int) := by omega
      obtain ⟨g, cap, ev1, ka, kb⟩ := rows_at (own_onW H1.out HB.out) k (by rw [HL1.out]; exact hlt)
      obtain ⟨g', cap', ev2, la, lb⟩ := rows_at (own_onW H2.out HB.out) k (by rw [HL2.out]; exact hlt)
      have R1 := I1.out.get k (by rw [HL1.out]; exact hlt) (by rw [← HN.out]; exact hlt)
      have R2 := I2.out.get k (by rw [HL2.out]; exact hlt) (by rw [← HN.out]; exact hlt)
      have hcl := Hc.out _ (List.getElem_mem (by rw [← HN.out]; exact hlt : k < m.length))
      rw [E1.out] at ev1
      rw [E2.out] at ev2
      injection ev1 with x1 x2 x3
      injection ev2 with y1 y2 y3
      subst x1 y1
      generalize m[k]'(by rw [← HN.out]; exact hlt) = x at *
      generalize r1[k]'(by rw [HL1.out]; exact hlt) = q1 at *
      generalize r2[k]'(by rw [HL2.out]; exact hlt) = q2 at *
      obtain ⟨k1, ad1, n1, cp1⟩ := q1
      obtain ⟨k2, ad2, n2, cp2⟩ := q2
      obtain ⟨kx, cx⟩ := x
      obtain ⟨e1, e2, e3⟩ := R1
      obtain ⟨e4, e5, e6⟩ := R2
      dsimp only at e1 e2 e3 e4 e5 e6 ka kb la lb hcl
      subst e1 e4 e2 e5
      have T1 := hid (e3.below HB.out)
      have T2 := hid (e6.below HB.out)
      have HS := hid (fun (V : World) (hb : Below wr.heap.size wr V) => show Calls Tryd.prog 32 #[.slice ad1 cx.length cp1, .slice ad2 cx.length cp2] V (fun e w' => e = .returned (.bool true) ∧ Below V.heap.size V w') from (sameTexts_any cx cx ad1 ad2 cp1 cp2 V (T1.out.below hb).texts (T2.out.below hb).texts (by omega) (by omega)).mono (fun e w' h => ⟨h.1.trans (by rw [decide_eq_true (rfl : cx = cx)]), h.2⟩))
      have Z : Hid (wr.drew.cell? ⟨g, k * 2, none⟩ = some (.string k2) ∧ wr.drew.cell? ⟨g, k * 2 + 1, none⟩ = some (.slice ad1 cx.length cp1) ∧ wr.drew.cell? ⟨g', k * 2, none⟩ = some (.string k2) ∧ wr.drew.cell? ⟨g', k * 2 + 1, none⟩ = some (.slice ad2 cx.length cp2)) := ⟨ka, kb, la, lb⟩
      have bd : Below wr.heap.size wr wr.drew := below_drewN _ _ 1
      have BD := hid bd
      clear e3 e6 x2 x3 y2 y3 ka kb la lb bd hcl
      go_wp2_with fail
      go_region_held3 (fun w9 => w9.cell? ⟨g, k * 2, none⟩ = some (.string k2) ∧ w9.cell? ⟨g, k * 2 + 1, none⟩ = some (.slice ad1 cx.length cp1) ∧ w9.cell? ⟨g', k * 2, none⟩ = some (.string k2) ∧ w9.cell? ⟨g', k * 2 + 1, none⟩ = some (.slice ad2 cx.length cp2))
        (exact Z.out)
        ((go_at_call 32; refine (HS.out _ BD.out).mono ?_; rintro e w1 ⟨rfl, hb1⟩; have Z := hid (And.intro (cell_on hb1 Z.out.1) (And.intro (cell_on hb1 Z.out.2.1) (And.intro (cell_on hb1 Z.out.2.2.1) (cell_on hb1 Z.out.2.2.2)))); have B1 := hid (Below.on' HB.out (undrew1 hb1)); clear hb1))
      go_wp2
      go_roundw
      case rel => exact ⟨k + 1, by omega, by go_num, B1.out⟩
      case measure => simp [intOf]; omega
    · have e : k = N := by omega
      subst e
      go_wp2
      go_ret
      exact ⟨rfl, HB.out⟩
end Go.Proofs.YtcchlcbonfdhpaaDoor
