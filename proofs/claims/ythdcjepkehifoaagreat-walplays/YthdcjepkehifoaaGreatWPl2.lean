/- do of law 3 on nil logs; open that gives none. -/
import Derived.Test.YthdcjepkehifoaaGreatWPl1
namespace Go.Proofs.YthdcjepkehifoaaGreat
open Go.RowKit Go.Maps
set_option linter.unusedVariables false
set_option maxRecDepth 20000
set_option maxHeartbeats 3200000 in
theorem do_nil {w : World} (ck sh : Bool) (a : Option Addr) (q : List Int) (c : Nat) (y : UInt8) (hq : IntsAt w a q) :
    Calls Tryz.prog 16 #[.pointer none, .pointer none, .agg #[.bool ck, .bool sh, .slice a q.length c, .int .u8 (y.toNat : Int)]] w fun e w' => e = .returned (.bool true) ∧ Below w.heap.size w w' := by
  have Hb0 := hid ((Below.refl _ w).alloc (Nat.le_refl _) (.cells #[.bool ck, .bool sh, .slice a q.length c, .int .u8 (y.toNat : Int)] 32))
  have hd0 := heap_alloc_new w (.cells #[.bool ck, .bool sh, .slice a q.length c, .int .u8 (y.toNat : Int)] 32)
  have hs0 := World.size_alloc w (.cells #[.bool ck, .bool sh, .slice a q.length c, .int .u8 (y.toNat : Int)] 32)
  have Hq := hid hq
  have k0 := cell_of_row _ _ 0 _ _ _ hd0
  have k1 := cell_of_row _ _ 1 _ _ _ hd0
  have k2 := cell_of_row _ _ 2 _ _ _ hd0
  have k3 := cell_of_row _ _ 3 _ _ _ hd0
  clear hq hd0
  go_enter Tryz.func16, Tryz.ntmps16
  cases ck with
  | true =>
    go_wp2_with (first | (go_at_call 50; refine (checkNil' _).mono ?_; rintro e u ⟨rfl, hu⟩; subst u) | (go_at_call 74; refine (rcheck_nil _).mono ?_; rintro e u ⟨rfl, hu⟩; subst u))
    go_ret
    exact ⟨rfl, Hb0.out⟩
  | false =>
    go_wp2_with (fail)
    generalize w.alloc (.cells #[.bool false, .bool sh, .slice a q.length c, .int .u8 (y.toNat : Int)] 32) = W0 at *
    refine (pages_deed false sh a q c y W0 (Hq.out.below Hb0.out)).mono ?_
    rintro e u1 ⟨vp, lp, rfl, hlen, hdp, hrow, hap, hb1⟩
    obtain ⟨va, vc, rfl, hpg⟩ := pg_form hrow
    have Hor := hid (fun (u' : World) => orel_start (w := W0) (u := u1) (u' := u') rfl hdp hrow hap)
    have hl102 : lp.length ≤ 102 := by omega
    have hs1 := hb1.size
    have Hb1 := hid (Hb0.out.trans (hb1.mono (by omega)))
    have c0 := (hb1.cell (World.block_lt_of_cell? _ _ k0)).trans k0
    have c1 := (hb1.cell (World.block_lt_of_cell? _ _ k1)).trans k1
    have c2 := (hb1.cell (World.block_lt_of_cell? _ _ k2)).trans k2
    have c3 := (hb1.cell (World.block_lt_of_cell? _ _ k3)).trans k3
    clear k0 k1 k2 k3 hdp hrow hap hpg hb1 hlen
    go_wp2
    go_region_held3 (fun w9 => w9.cell? ⟨w.heap.size, 0, none⟩ = some (.bool false) ∧ w9.cell? ⟨w.heap.size, 1, none⟩ = some (.bool sh) ∧ w9.cell? ⟨w.heap.size, 2, none⟩ = some (.slice a q.length c) ∧ w9.cell? ⟨w.heap.size, 3, none⟩ = some (.int .u8 (y.toNat : Int))) (first | exact ⟨c0, c1, c2, c3⟩ | exact q2.out)
      (first
        | ((go_at_call 75; refine (rcommit_nil _ _ _ _).mono ?_; rintro e u ⟨rfl, hu⟩; subst u))
        | ((go_at_call 47; refine (pages_deed false sh a q c y _ ((Hq.out.below Hb1.out).below (w' := u1.drew) ⟨rfl, rfl, rfl, Nat.le_refl _, fun _ _ => rfl⟩)).mono ?_; rintro e u3 ⟨vp2, lp2, rfl, hlen2, hdp2, hrow2, _, hb3'⟩; obtain ⟨va2, vc2, rfl, hpg2⟩ := pg_form hrow2; have hb3 := undrew1 hb3'; have hs3 := hb3.size; have q2 := hid (And.intro ((hb3.cell (World.block_lt_of_cell? _ _ c0)).trans c0) (And.intro ((hb3.cell (World.block_lt_of_cell? _ _ c1)).trans c1) (And.intro ((hb3.cell (World.block_lt_of_cell? _ _ c2)).trans c2) ((hb3.cell (World.block_lt_of_cell? _ _ c3)).trans c3)))); have Hb3 := hid hb3; clear hdp2 hrow2 hpg2 hb3 hb3' hlen2))
        | ((go_at_call 48; refine (commit_nil _ _ _ _).mono ?_; rintro e u ⟨rfl, hu⟩; subst u)))
    clear c0 c1 c2 c3 q2
    have HO4 : Hid (ORel W0.heap.size u1.heap.size u3 va lp u3) := Hor.out u3 (Out.of_below Hb3.out)
    have Hb4 := hid (Hb1.out.trans (Hb3.out.mono (by show w.heap.size ≤ u1.heap.size; omega)))
    clear Hor
    go_wp2
    go_loopw [9] (fun i wr => ∃ n : Nat, n ≤ lp.length ∧ i = .int .i64 n ∧ ORel W0.heap.size u1.heap.size u3 va lp wr) (fun i _ => lp.length - (intOf i).toNat)
    case atStart => exact ⟨0, Nat.zero_le _, rfl, HO4.out⟩
    case round =>
      obtain ⟨n, hn, rfl, hO⟩ := hrel
      have HO := hid hO
      clear hO HO4
      by_cases hlt : n < lp.length
      · have g1 : (n : Int) < (lp.length : Int) := by omega
        have g0 : (0 : Int) ≤ (n : Int) := by omega
        go_wp2
        go_loopw [10] (fun i wr => ∃ z : Nat, z ≤ lp[n].2.2.1 ∧ i = .int .i64 z ∧ ORel W0.heap.size u1.heap.size u3 va lp wr) (fun i _ => lp[n].2.2.1 - (intOf i).toNat)
        case atStart => exact ⟨0, Nat.zero_le _, rfl, HO.out⟩
        case round =>
          obtain ⟨z, hz, rfl, hO⟩ := hrel
          have HO2 := hid hO
          clear hO HO
          obtain ⟨g, b, x, rfl, hgb, hpg, hb, hl, hx, hbU, how⟩ := HO2.out.1 n hlt
          have c1 := (hpg n hlt).2
          rw [Nat.zero_add, hb] at c1
          have Hst := hid (HO2.out.step n hlt b hb z)
          generalize lp[n].2.2.1 = ln at *
          generalize lp[n].2.2.2 = lc at *
          by_cases hzl : z < ln
          · have g2 : (z : Int) < (ln : Int) := by omega
            have g3 : (0 : Int) ≤ (z : Int) := by omega
            have c2 := (how.cellAt z (by omega)).trans (cellsOf_get x z (by omega))
            have z2 := how.frozenAt z
            generalize (x[z]'(by omega)).toNat = xz at c2
            clear how hb hgb hpg hx
            go_wp2
            go_roundw
            case rel => exact ⟨z + 1, by omega, by go_num, Hst.out⟩
            case measure => simp [intOf]; omega
          · obtain rfl : z = ln := by omega
            have g2 : ¬ (z : Int) < (z : Int) := by omega
            clear how hb hgb hpg hx Hst
            go_wp2
            go_roundw
            case rel => exact ⟨n + 1, by omega, by go_num, HO2.out⟩
            case measure => simp [intOf]; omega
      · obtain rfl : n = lp.length := by omega
        have g1 : ¬ (lp.length : Int) < (lp.length : Int) := by omega
        go_wp2
        go_ret
        exact ⟨rfl, Hb4.out.trans (HO.out.2.below (by have := Hb4.out.size; omega) (fun j hj => by omega))⟩
/-- open that gives none -/
def OpenNil (w : World) (e : Ending) (w' : World) : Prop := e = .returned (.tuple #[.pointer none, .pointer none, .bool true]) ∧ Below w.heap.size w w'
set_option maxHeartbeats 800000 in
theorem lawOpen_far (n S : Int) (w : World) (h : n < 1 ∨ 1024 < n) : Calls Tryz.prog 13 #[.int .i64 n, .int .i64 S] w (OpenNil w) := by
  unfold OpenNil
  go_enter Tryz.func13, Tryz.ntmps13
  go_wp2_with (fail)
  refine (new_bad n w h).mono ?_
  rintro e u ⟨rfl, hu⟩
  subst u
  go_wp2_with (fail)
  refine (refNew_bad n w h).mono ?_
  rintro e u ⟨rfl, hu⟩
  subst u
  go_wp2_with (fail)
  refine (open_nil S w).mono ?_
  rintro e u ⟨rfl, hu⟩
  subst u
  go_wp2_with (fail)
  refine (refOpen_nil S w).mono ?_
  rintro e u ⟨rfl, hu⟩
  subst u
  go_wp2
  go_ret3
  exact ⟨by simp, Below.refl _ _⟩
set_option maxHeartbeats 800000 in
theorem lawOpen_bad (n : Nat) (S : Int) (w : World) (h1 : 1 ≤ n) (h2 : n ≤ 1024) (h64 : S ≤ 9223372036854775807) (hS : S < 2 ∨ (n : Int) - 2 < S) : Calls Tryz.prog 13 #[.int .i64 (n : Int), .int .i64 S] w (OpenNil w) := by
  unfold OpenNil
  go_enter Tryz.func13, Tryz.ntmps13
  go_wp2_with (fail)
  refine (new_ok n w h1 h2).mono ?_
  rintro e w1 ⟨d0, g0, cap0, rfl, hD, hb1⟩
  have HD := hid hD
  have Hb1 := hid hb1
  clear hD hb1
  go_wp2_with (fail)
  refine (refNew_ok n w1 h1 h2).mono ?_
  rintro e w2 ⟨r, F, vs, rfl, hR, hb2⟩
  have HR := hid hR
  have HD2 := hid (HD.out.below hb2)
  have Hb2 := hid (Hb1.out.trans (hb2.mono Hb1.out.size))
  clear hR hb2 HD Hb1
  have Hn : Hid ((List.replicate n zpage).length = n) := List.length_replicate
  have Ho := hid (open_range HD2.out (by rw [Hn.out]; exact h2) S h64 (by rw [Hn.out]; omega))
  go_wp2_with (fail)
  refine Ho.out.mono ?_
  rintro e w3 ⟨rfl, hb3⟩
  have Hro := hid (refOpen_range (HR.out.below hb3) (by rw [Hn.out]; exact h2) S (by rw [Hn.out]; omega))
  have Hb3 := hid (Hb2.out.trans (hb3.mono Hb2.out.size))
  clear hb3 Ho Hb2 HR HD2
  go_wp2_with (fail)
  refine Hro.out.mono ?_
  rintro e w4 ⟨rfl, hb4⟩
  have Hb4 := hid (Hb3.out.trans (hb4.mono Hb3.out.size))
  clear hb4 Hro
  go_wp2
  go_ret3
  exact ⟨by simp, Hb4.out⟩
set_option maxHeartbeats 400000 in
theorem small_any (n : Int) (w : World) : Calls Tryz.prog 14 #[.int .i64 n] w fun e w' => e = .returned (.int .i64 (if 30 < n ∧ n ≤ 1024 then n % 30 + 1 else n)) ∧ w' = w := by
  rcases (show ¬ 30 < n ∨ (30 < n ∧ ¬ n ≤ 1024) ∨ (30 < n ∧ n ≤ 1024) by omega) with h | ⟨h1, h2⟩ | ⟨h1, h2⟩
  · go_enter Tryz.func14, Tryz.ntmps14
    go_wp2
    go_ret
    exact ⟨rfl, rfl⟩
  · go_enter Tryz.func14, Tryz.ntmps14
    go_wp2
    go_ret
    exact ⟨rfl, rfl⟩
  · go_enter Tryz.func14, Tryz.ntmps14
    go_wp2
    go_ret
    exact ⟨rfl, rfl⟩
end Go.Proofs.YthdcjepkehifoaaGreat
