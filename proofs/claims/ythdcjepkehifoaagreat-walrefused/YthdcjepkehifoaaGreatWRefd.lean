/- WalRefused's walk. -/
import Derived.Test.YthdcjepkehifoaaGreatWLaw
namespace Go.Proofs.YthdcjepkehifoaaGreat
open Go.RowKit Go.Maps
set_option linter.unusedVariables false
set_option maxRecDepth 20000

set_option maxHeartbeats 3200000 in
theorem walRefused_walk (z : Nat) (hz : z < 256) (a : Option Addr) (l : List Dd) (c : Nat) (xk xs : Bool) (xa : Option Addr) (xq : List Int) (xc : Nat) (xy : UInt8) (w : World) (hl : DdsAt w a l) (hxq : IntsAt w xa xq) :
    Calls Tryz.prog 7 #[.int .u8 (z : Int), .slice a l.length c, .agg #[.bool xk, .bool xs, .slice xa xq.length xc, .int .u8 (xy.toNat : Int)]] w fun e w' => e = .returned (.bool true) ∧ Below w.heap.size w w' := by
  have Hxq := hid hxq
  clear hxq
  have Hl := hid hl
  clear hl
  go_enter Tryz.func7, Tryz.ntmps7
  go_wp2_with (fail)
  have HbW := hid ((Below.refl _ w).alloc (Nat.le_refl _) (.cells #[.bool xk, .bool xs, .slice xa xq.length xc, .int .u8 (xy.toNat : Int)] 32))
  have hd0 := heap_alloc_new w (.cells #[.bool xk, .bool xs, .slice xa xq.length xc, .int .u8 (xy.toNat : Int)] 32)
  have hsW := World.size_alloc w (.cells #[.bool xk, .bool xs, .slice xa xq.length xc, .int .u8 (xy.toNat : Int)] 32)
  generalize w.alloc (.cells #[.bool xk, .bool xs, .slice xa xq.length xc, .int .u8 (xy.toNat : Int)] 32) = W0 at *
  have Hk0 := hid (cell_of_row _ _ 0 _ _ _ hd0)
  have Hk1 := hid (cell_of_row _ _ 1 _ _ _ hd0)
  have Hk2 := hid (cell_of_row _ _ 2 _ _ _ hd0)
  have Hk3 := hid (cell_of_row _ _ 3 _ _ _ hd0)
  have Hl := hid (Hl.out.keep (w' := W0) (fun j hj => HbW.out.block j hj))
  have Hxq := hid (Hxq.out.below HbW.out)
  clear hd0
  generalize hn : (z : Int) % 20 + 2 = n
  obtain ⟨S, rfl, hS2, hS3⟩ : ∃ S : Nat, n = (S : Int) ∧ 2 ≤ S ∧ S ≤ 21 := ⟨n.toNat, by omega, by omega, by omega⟩
  clear hn
  have Ho : Calls Tryz.prog 13 #[.int .i64 ((S : Int) + 10), .int .i64 (S : Int)] W0 (OpenTwo S 9 W0) := by
    have h := lawOpen_two W0 S 9 hS2 (by omega) (by omega)
    rw [show ((S + 1 + 9 : Nat) : Int) = (S : Int) + 10 by omega] at h
    exact h
  have f4 : IntKind.i64.wrap ((S : Int) + 10) = (S : Int) + 10 := by rw [IntKind.wrap_i64]; omega
  refine Ho.mono ?_
  rintro e w1 ⟨la, m, rfl, hD, hb1⟩
  have HT1 := hid hD
  have Hb1 := hid hb1
  clear hD hb1 Ho
  go_wp2_with (fail)
  refine (walLive_any w1).mono ?_
  rintro e w3 ⟨rfl, hb3⟩
  have HR3 : Hid (VRel W0 S la m 0 w3) := ⟨0, [], [], HT1.out.below hb3, Hb1.out.trans (hb3.mono Hb1.out.size)⟩
  clear hb3 HT1 Hb1
  go_wp2
  go_loopw [11] (fun i wr => ∃ k : Nat, k ≤ l.length ∧ k ≤ 20 ∧ i = .int .i64 k ∧ VRel W0 S la m k wr) (fun i _ => 20 - (intOf i).toNat)
  case atStart => exact ⟨0, Nat.zero_le _, Nat.zero_le _, rfl, HR3.out⟩
  case round =>
    obtain ⟨k, hk, hk2, rfl, G, gs, ls, hT, hB⟩ := hrel
    have HT := hid hT
    have HB := hid hB
    clear hT hB HR3
    by_cases hend : k < l.length ∧ k < 20
    · obtain ⟨hkl, hk20⟩ := hend
      have d1 : (k : Int) < (l.length : Int) := by omega
      have d2 : (k : Int) < 20 := by omega
      have d0 : (0 : Int) ≤ (k : Int) := by omega
      obtain ⟨b, o, rfl, c0, c1, c2, c3, hq⟩ := deed_at Hl.out HB.out k hkl
      have Hdo := hid (do_any HT.out (by omega) (by omega) HB.out.size l[k].ck l[k].sh l[k].a l[k].q l[k].c l[k].y hq)
      clear hq
      generalize l[k].ck = yk at *
      generalize l[k].sh = ys at *
      generalize l[k].a = ya at *
      generalize l[k].q = yq at *
      generalize l[k].c = yc at *
      generalize l[k].y = yy at *
      go_wp2_with (fail)
      refine Hdo.out.mono ?_
      rintro e u1 ⟨rfl, ⟨G', gs', ls', hD, _⟩, hb⟩
      have HR : Hid (VRel W0 S la m (k + 1) u1) := ⟨G', gs', ls', hD, HB.out.trans hb⟩
      clear hD hb Hdo c0 c1 c2 c3
      go_wp2
      go_roundw
      case rel => exact ⟨k + 1, by omega, by omega, by go_num, HR.out⟩
      case measure => simp [intOf]; omega
    · clear Hl
      obtain ⟨V, rfl⟩ : ∃ V, V = wr := ⟨_, rfl⟩
      rcases (show (¬ (k : Int) < (l.length : Int)) ∨ ((k : Int) < (l.length : Int) ∧ ¬ (k : Int) < 20) by omega) with g1 | ⟨g1, g2⟩
      all_goals
        clear hend
        obtain ⟨Q, R, hL, _, _, hQ4, _⟩ := HT.out
        have HL := hid hL
        have HQ4 := hid hQ4
        have hgr : G ≤ k := by obtain ⟨_, _, _, _, _, _, h⟩ := hL.at; exact h.gr
        have Hinv : Hid (LogInv (psOf (fresh S 9) ls) S G gs 9) := by obtain ⟨_, _, _, _, _, _, h⟩ := hL.at; exact h.inv
        have hlsl : ls.length ≤ 102 * k := by obtain ⟨_, _, _, _, _, _, h⟩ := hL.at; exact h.lsl
        have hgs : usedOf gs ≤ 21 := by have := Hinv.out.used; omega
        clear hL hQ4 HT
        go_wp2_with (fail)
        refine (one_disk HL.out.at (by omega)).mono ?_
        rintro e w1 ⟨d1, g1, cap1, v1, rfl, hD1, hb1⟩
        have HD1 := hid hD1
        have HL1 := hid (HL.out.below hb1)
        have HB1 := hid (HB.out.trans (hb1.mono HB.out.size))
        have hs1 := hb1.size
        have hs0 := HB.out.size
        clear hD1 hb1 HL
        go_wp2_with (fail)
        refine (a_used HL1.out.at).mono ?_
        rintro e u ⟨rfl, hu⟩
        subst u
        go_wp2_with (fail)
        refine (a_groups HL1.out.at (by omega)).mono ?_
        rintro e u ⟨rfl, hu⟩
        subst u
        have c0 := (HB1.out.cell (World.block_lt_of_cell? _ _ Hk0.out)).trans Hk0.out
        have c1 := (HB1.out.cell (World.block_lt_of_cell? _ _ Hk1.out)).trans Hk1.out
        have c2 := (HB1.out.cell (World.block_lt_of_cell? _ _ Hk2.out)).trans Hk2.out
        have c3 := (HB1.out.cell (World.block_lt_of_cell? _ _ Hk3.out)).trans Hk3.out
        go_wp2_with (fail)
        refine (pages_deed xk xs xa xq xc xy w1 (Hxq.out.below HB1.out)).mono ?_
        rintro e u3 ⟨vp, lp, rfl, hlen, hdp, hrow, _, hb3⟩
        obtain ⟨va, vc, rfl, hpg⟩ := pg_form hrow
        have HL3 := hid (HL1.out.below hb3)
        have HD3 := hid (HD1.out.below hb3)
        have HB3 := hid (HB1.out.trans (hb3.mono HB1.out.size))
        have hs3 := hb3.size
        have Hcm := hid (q_commit HL3.out (H := w1.heap.size) (fun j hj => by have := (HQ4.out j hj).2; omega) (by omega) (by omega) hdp va vc hpg)
        have hl102 : lp.length ≤ 102 := by omega
        clear c0 c1 c2 c3 hlen hdp hrow hpg hb3 HL1 HD1
        go_wp2_with (fail)
        refine Hcm.out.mono ?_
        intro e w4 hc
        obtain ⟨cc, rfl, ho4, hdo⟩ := cmq_one hc
        have HD4 := hid (HD3.out.keepB (w' := w4) fun j h1 h2 => ho4.block j h2 (fun hq => by have := (HQ4.out j hq).2; omega))
        have HB4 := hid (HB3.out.trans (ho4.below (by omega) (fun j hj => (HQ4.out j hj).1)))
        clear hc ho4 Hcm HD3 HL3 HB3
        rcases hdo with ⟨hce, hL4⟩ | ⟨rfl, hcok, Q', _, hL4⟩
        · have HL4 := hid hL4.at
          have Hce : (cc == 0) = false ∨ ((cc == 0) = true ∧ ¬ (0 : Int) < (lp.length : Int)) := by
            rcases hce with ⟨rfl, h⟩ | ⟨rfl, _⟩ | ⟨_, _, (⟨rfl, _⟩ | ⟨rfl, _⟩ | ⟨rfl, _⟩)⟩
            · exact .inr ⟨rfl, by omega⟩
            all_goals exact .inl rfl
          clear hce hL4
          rcases Hce with f1 | ⟨f1, f2⟩
          all_goals
            go_wp2_with (fail)
            refine (one_disk HL4.out (by omega)).mono ?_
            rintro e w5 ⟨d5, g5, cap5, v5, rfl, hD5, hb5⟩
            have Hsm := hid (same_any (HD4.out.below hb5) hD5 rfl)
            rw [decide_eq_true (rfl : psOf (fresh S 9) ls = psOf (fresh S 9) ls)] at Hsm
            have HD5 := hid (HD4.out.below hb5)
            have HL5 := hid (HL4.out.below hb5)
            have HB5 := hid (HB4.out.trans (hb5.mono HB4.out.size))
            clear hD5 hb5 HD4 HL4 HB4
            go_wp2_with (fail)
            refine Hsm.out.mono ?_
            rintro e w6 ⟨rfl, hb6⟩
            have HD6 := hid (HD5.out.below hb6)
            have HL6 := hid (HL5.out.below hb6)
            have HB6 := hid (HB5.out.trans (hb6.mono HB5.out.size))
            clear hb6 Hsm HD5 HL5 HB5
            go_wp2_with (fail)
            refine (one_disk HL6.out (by omega)).mono ?_
            rintro e w7 ⟨d7, g7, cap7, v7, rfl, hD7, hb7⟩
            have HD7 := hid (HD6.out.below hb7)
            have HE7 := hid hD7
            have HL7 := hid (HL6.out.below hb7)
            have HB7 := hid (HB6.out.trans (hb7.mono HB6.out.size))
            clear hD7 hb7 HD6 HL6 HB6
            go_wp2_with (fail)
            refine (count_any HE7.out).mono ?_
            rintro e u ⟨rfl, hu⟩
            subst u
            go_wp2_with (fail)
            refine (count_any HD7.out).mono ?_
            rintro e u ⟨rfl, hu⟩
            subst u
            go_wp2_with (fail)
            refine (a_used HL7.out).mono ?_
            rintro e u ⟨rfl, hu⟩
            subst u
            go_wp2_with (fail)
            refine (a_groups HL7.out (by omega)).mono ?_
            rintro e u ⟨rfl, hu⟩
            subst u
            go_wp2
            go_ret
            exact ⟨ret_bool (by simp), HbW.out.trans (HB7.out.mono (by omega))⟩
        · have HL4 := hid hL4.at
          have f2 : (0 : Int) < (lp.length : Int) := by have := hcok.1; omega
          have Hns := hid hcok.nums.2
          have f3 : IntKind.i64.wrap ((G : Int) + 1) = (G : Int) + 1 := by rw [IntKind.wrap_i64]; omega
          have f5 : IntKind.i64.wrap ((usedOf gs : Int) + ((lp.length : Int) + 1)) = (usedOf gs : Int) + ((lp.length : Int) + 1) := by rw [IntKind.wrap_i64]; omega
          have Hnd : Hid (needOf (lp.length : Int) = (lp.length : Int) + 1) := by unfold needOf; rw [if_neg (by have := hcok.2.1; omega)]; exact rfl
          have hus : ((usedOf (gs ++ [numsP (selN lp 9)]) : Nat) : Int) = (usedOf gs : Int) + ((lp.length : Int) + 1) := by rw [usedOf_snoc, Hns.out]; omega
          have Hus := hid hus
          clear hus
          clear hcok hL4
          go_wp2_with (fail)
          refine (a_groups HL4.out (by omega)).mono ?_
          rintro e u ⟨rfl, hu⟩
          subst u
          go_wp2_with (fail)
          refine (a_used HL4.out).mono ?_
          rintro e u ⟨rfl, hu⟩
          subst u
          rw [Hus.out]
          go_wp2_with (fail)
          refine (need_any _ _).mono ?_
          rintro e u ⟨rfl, hu⟩
          subst u
          rw [Hnd.out]
          go_wp2
          go_ret
          exact ⟨ret_bool (by simp), HbW.out.trans (HB4.out.mono (by omega))⟩
end Go.Proofs.YthdcjepkehifoaaGreat
