/- The reference's SameRows of rows of the call's own, and rows that were handed in. -/
import Derived.Test.YtlkbojgemcjilaaGreatDoorGLM
import Derived.Deep.RegionHeld3
namespace Go.Proofs.YtlkbojgemcjilaaGreatDoor.Xr
open Go.RowKit
set_option linter.unusedVariables false
set_option maxRecDepth 20000
set_option maxHeartbeats 6400000 in
theorem sameRows_in {w : World} {B1 : Nat} {v1 : Value} {r1 : List RC} {m : List Rw} (h1 : w.ownsRow B1 79 2 v1 r1.length (rcCells r1)) (a2 : Option Addr) (N c2 : Nat) (hN : N = m.length) (h2 : RIn w a2 m) (i1 : RowsIs w r1 m) (hm : m.length ≤ 1000000000) (hc : ∀ x ∈ m, x.cols.length ≤ 1000) :
    Calls Tryz.prog 13 #[v1, .slice a2 N c2] w fun e w' => e = .returned (.bool true) ∧ Below w.heap.size w w' := by
  have H1 := hid h1
  have H2 := hid h2
  have I1 := hid i1
  have Hc := hid hc
  obtain ⟨a1, c1, e1⟩ := slice_of_own h1
  rw [← hN] at hm
  have L1 : r1.length = N := by rw [hN]; exact i1.length
  rw [L1] at e1
  have HL1 := hid L1
  have HN := hid hN
  have E1 := hid e1
  rw [e1]
  clear h1 h2 i1 hc L1 hN e1
  go_enter Tryz.func13, Tryz.ntmps13
  go_wp2
  go_loopw [5] (fun i wr => ∃ k : Nat, k ≤ N ∧ i = .int .i64 k ∧ Below w.heap.size w wr) (fun i _ => N - (intOf i).toNat)
  case atStart => exact ⟨0, Nat.zero_le _, rfl, Below.refl _ _⟩
  case round =>
    obtain ⟨k, hk, rfl, hb⟩ := hrel
    have HB := hid hb
    clear hb
    by_cases hlt : k < N
    · have g1 : (k : Int) < (N : Int) := by omega
      have g0 : (0 : Int) ≤ (k : Int) := by omega
      obtain ⟨g, cap, ev1, ka, kb⟩ := rows_at (own_onW H1.out HB.out) k (by rw [HL1.out]; exact hlt)
      obtain ⟨g', o', ad2, cp2, ev2, la, lb, lt2⟩ := H2.out.below HB.out k (by rw [← HN.out]; exact hlt)
      have R1 := I1.out.get k (by rw [HL1.out]; exact hlt) (by rw [← HN.out]; exact hlt)
      have hcl := Hc.out _ (List.getElem_mem (by rw [← HN.out]; exact hlt : k < m.length))
      rw [E1.out] at ev1
      injection ev1 with x1 x2 x3
      subst x1 ev2
      generalize m[k]'(by rw [← HN.out]; exact hlt) = x at *
      generalize r1[k]'(by rw [HL1.out]; exact hlt) = q1 at *
      obtain ⟨k1, ad1, n1, cp1⟩ := q1
      obtain ⟨kx, cx⟩ := x
      obtain ⟨e1, e2, e3⟩ := R1
      dsimp only at e1 e2 e3 ka kb la lb lt2 hcl
      subst e1 e2
      have T1 := hid (e3.below HB.out)
      have T2 := hid lt2
      have HS := hid (fun (V : World) (hb : Below wr.heap.size wr V) => show Calls Tryz.prog 41 #[.slice ad1 cx.length cp1, .slice ad2 cx.length cp2] V (fun e w' => e = .returned (.bool true) ∧ Below V.heap.size V w') from (sameTexts_any cx cx ad1 ad2 cp1 cp2 V (T1.out.below hb).texts (T2.out.below hb) (by omega) (by omega)).mono (fun e w' h => ⟨h.1.trans (by rw [decide_eq_true (rfl : cx = cx)]), h.2⟩))
      have Z : Hid (wr.drew.cell? ⟨g, k * 2, none⟩ = some (.string k1) ∧ wr.drew.cell? ⟨g, k * 2 + 1, none⟩ = some (.slice ad1 cx.length cp1) ∧ wr.drew.cell? ⟨g', o' + k * 2, none⟩ = some (.string k1) ∧ wr.drew.cell? ⟨g', o' + k * 2 + 1, none⟩ = some (.slice ad2 cx.length cp2)) := ⟨ka, kb, la, lb⟩
      have bd : Below wr.heap.size wr wr.drew := below_drewN _ _ 1
      have BD := hid bd
      clear e3 x2 x3 ka kb la lb bd hcl lt2
      go_wp2_with fail
      go_region_held3 (fun w9 => w9.cell? ⟨g, k * 2, none⟩ = some (.string k1) ∧ w9.cell? ⟨g, k * 2 + 1, none⟩ = some (.slice ad1 cx.length cp1) ∧ w9.cell? ⟨g', o' + k * 2, none⟩ = some (.string k1) ∧ w9.cell? ⟨g', o' + k * 2 + 1, none⟩ = some (.slice ad2 cx.length cp2))
        (exact Z.out)
        ((go_at_call 41; refine (HS.out _ BD.out).mono ?_; rintro e w1 ⟨rfl, hb1⟩; have Z := hid (And.intro (cell_on hb1 Z.out.1) (And.intro (cell_on hb1 Z.out.2.1) (And.intro (cell_on hb1 Z.out.2.2.1) (cell_on hb1 Z.out.2.2.2)))); have B1 := hid (Below.on' HB.out (undrew1 hb1)); clear hb1))
      go_wp2
      go_roundw
      case rel => exact ⟨k + 1, by omega, by go_num, B1.out⟩
      case measure => simp [intOf]; omega
    · have e : k = N := by omega
      subst e
      go_wp2
      go_ret
      exact ⟨rfl, HB.out⟩
end Go.Proofs.YtlkbojgemcjilaaGreatDoor.Xr
