/- WalOpens' walk. -/
import Derived.Test.YthdcjepkehifoaaGreatWLaw
namespace Go.Proofs.YthdcjepkehifoaaGreat
open Go.RowKit Go.Maps
set_option linter.unusedVariables false
set_option maxRecDepth 20000

set_option maxHeartbeats 3200000 in
theorem walOpens_walk (z : Nat) (hz : z < 256) (a : Option Addr) (l : List Dd) (c : Nat) (w : World) (hl : DdsAt w a l) :
    Calls Tryz.prog 5 #[.int .u8 (z : Int), .slice a l.length c] w fun e w' => e = .returned (.bool true) ∧ Below w.heap.size w w' := by
  have Hl := hid hl
  clear hl
  go_enter Tryz.func5, Tryz.ntmps5
  go_wp2_with (fail)
  generalize hn : (z : Int) % 20 + 2 = n
  obtain ⟨S, rfl, hS2, hS3⟩ : ∃ S : Nat, n = (S : Int) ∧ 2 ≤ S ∧ S ≤ 21 := ⟨n.toNat, by omega, by omega, by omega⟩
  clear hn
  have Ho : Calls Tryz.prog 13 #[.int .i64 ((S : Int) + 10), .int .i64 (S : Int)] w (OpenTwo S 9 w) := by
    have h := lawOpen_two w S 9 hS2 (by omega) (by omega)
    rw [show ((S + 1 + 9 : Nat) : Int) = (S : Int) + 10 by omega] at h
    exact h
  have f4 : IntKind.i64.wrap ((S : Int) + 10) = (S : Int) + 10 := by rw [IntKind.wrap_i64]; omega
  refine Ho.mono ?_
  rintro e w1 ⟨la, m, rfl, hD, hb1⟩
  have HT1 := hid hD
  have Hb1 := hid hb1
  clear hD hb1 Ho
  go_wp2_with (fail)
  refine (walLive_any w1).mono ?_
  rintro e w3 ⟨rfl, hb3⟩
  have HR3 : Hid (VRel w S la m 0 w3) := ⟨0, [], [], HT1.out.below hb3, Hb1.out.trans (hb3.mono Hb1.out.size)⟩
  clear hb3 HT1 Hb1
  go_wp2
  go_loopw [9] (fun i wr => ∃ k : Nat, k ≤ l.length ∧ k ≤ 20 ∧ i = .int .i64 k ∧ VRel w S la m k wr) (fun i _ => 20 - (intOf i).toNat)
  case atStart => exact ⟨0, Nat.zero_le _, Nat.zero_le _, rfl, HR3.out⟩
  case round =>
    obtain ⟨k, hk, hk2, rfl, G, gs, ls, hT, hB⟩ := hrel
    have HT := hid hT
    have HB := hid hB
    clear hT hB HR3
    by_cases hend : k < l.length ∧ k < 20
    · obtain ⟨hkl, hk20⟩ := hend
      have d1 : (k : Int) < (l.length : Int) := by omega
      have d2 : (k : Int) < 20 := by omega
      have d0 : (0 : Int) ≤ (k : Int) := by omega
      obtain ⟨b, o, rfl, c0, c1, c2, c3, hq⟩ := deed_at Hl.out HB.out k hkl
      have Hdo := hid (do_any HT.out (by omega) (by omega) HB.out.size l[k].ck l[k].sh l[k].a l[k].q l[k].c l[k].y hq)
      clear hq
      generalize l[k].ck = xk at *
      generalize l[k].sh = xs at *
      generalize l[k].a = xa at *
      generalize l[k].q = xq at *
      generalize l[k].c = xc at *
      generalize l[k].y = xy at *
      go_wp2_with (fail)
      refine Hdo.out.mono ?_
      rintro e u1 ⟨rfl, ⟨G', gs', ls', hD, _⟩, hb⟩
      have HR : Hid (VRel w S la m (k + 1) u1) := ⟨G', gs', ls', hD, HB.out.trans hb⟩
      clear hD hb Hdo c0 c1 c2 c3
      go_wp2
      go_roundw
      case rel => exact ⟨k + 1, by omega, by omega, by go_num, HR.out⟩
      case measure => simp [intOf]; omega
    · clear Hl
      obtain ⟨V, rfl⟩ : ∃ V, V = wr := ⟨_, rfl⟩
      rcases (show (¬ (k : Int) < (l.length : Int)) ∨ ((k : Int) < (l.length : Int) ∧ ¬ (k : Int) < 20) by omega) with g1 | ⟨g1, g2⟩
      all_goals
        clear hend
        have HL := hid HT.out.log
        have H256 := hid (pagesL_256 HL.out)
        have hgr : G ≤ k := by obtain ⟨_, _, _, _, _, _, h⟩ := HL.out; exact h.gr
        have Hinv : Hid (LogInv (psOf (fresh S 9) ls) S G gs 9) := by obtain ⟨_, _, _, _, _, _, h⟩ := HL.out; exact h.inv
        have hlsl : ls.length ≤ 102 * k := by obtain ⟨_, _, _, _, _, _, h⟩ := HL.out; exact h.lsl
        have hgs : usedOf gs ≤ 21 := by have := Hinv.out.used; omega
        clear HT
        go_wp2_with (fail)
        refine (one_disk HL.out (by omega)).mono ?_
        rintro e w1 ⟨dd, dg, dc, dv, rfl, hD, hb1⟩
        have Hop := hid (open_ok hD S G 9 gs Hinv.out (by omega) (by rw [chOf_length]; omega))
        have HL1 := hid (HL.out.below hb1)
        have HB1 := hid (HB.out.trans (hb1.mono HB.out.size))
        clear hD hb1 HL HB
        go_wp2_with (fail)
        refine Hop.out.mono ?_
        rintro e w2 ⟨lc, d2, g2, cap2, mb2, n2, rfl, hn2, hM, hb2⟩
        have HM2 := hid hM
        have HL2 := hid (HL1.out.below hb2)
        have HB2 := hid (HB1.out.trans (hb2.mono HB1.out.size))
        clear hM hb2 HL1 HB1 Hop
        go_wp2_with (fail)
        refine (a_all HL2.out (by omega)).mono ?_
        rintro e w3 ⟨v3, rfl, hI3, hb3⟩
        have HI3 := hid hI3
        have HM3 := hid (HM2.out.below hb3)
        have HL3 := hid (HL2.out.below hb3)
        have HB3 := hid (HB2.out.trans (hb3.mono HB2.out.size))
        clear hI3 hb3 HL2 HM2 HB2
        go_wp2_with (fail)
        refine (wall_log HM3.out Hinv.out (by omega)).mono ?_
        rintro e w4 ⟨v4, rfl, hI4, hb4⟩
        have Hsm := hid (wsame (HI3.out.below hb4) hI4 (by rw [pagesL_len]; omega) (by rw [pagesL_len]; omega) H256.out)
        have HM4 := hid (HM3.out.below hb4)
        have HL4 := hid (HL3.out.below hb4)
        have HB4 := hid (HB3.out.trans (hb4.mono HB3.out.size))
        clear hI4 hb4 HI3 HL3 HM3 HB3
        go_wp2_with (fail)
        refine Hsm.out.mono ?_
        rintro e w5 ⟨rfl, hb5⟩
        have HM5 := hid (HM4.out.below hb5)
        have HL5 := hid (HL4.out.below hb5)
        have HB5 := hid (HB4.out.trans (hb5.mono HB4.out.size))
        clear hb5 HL4 HM4 HB4 Hsm
        go_wp2_with (fail)
        refine (used_any HM5.out).mono ?_
        rintro e u ⟨rfl, hu⟩
        subst u
        go_wp2_with (fail)
        refine (a_used HL5.out).mono ?_
        rintro e u ⟨rfl, hu⟩
        subst u
        go_wp2_with (fail)
        refine (groups_any HM5.out (by omega)).mono ?_
        rintro e u ⟨rfl, hu⟩
        subst u
        go_wp2_with (fail)
        refine (a_groups HL5.out (by omega)).mono ?_
        rintro e u ⟨rfl, hu⟩
        subst u
        go_wp2_with (fail)
        refine (touched_any HM5.out (by omega) (touchedOf 9 gs) (touchedOf_up 9 gs) (touched_iff Hinv.out)).mono ?_
        rintro e w6 ⟨v6, rfl, hr6, hb6⟩
        have Hr6 := hid hr6
        have HM6 := hid (HM5.out.below hb6)
        have HL6 := hid (HL5.out.below hb6)
        have HB6 := hid (HB5.out.trans (hb6.mono HB5.out.size))
        clear hr6 hb6 HL5 HM5 HB5
        go_wp2_with (fail)
        refine (one_touched HL6.out (by omega)).mono ?_
        rintro e w7 ⟨v7, rfl, hr7, hb7⟩
        have Hsi := hid (sameInts_eq (own_below Hr6.out hb7) hr7 (by have := touched_len 9 gs; omega))
        have HM7 := hid (HM6.out.below hb7)
        have HB7 := hid (HB6.out.trans (hb7.mono HB6.out.size))
        clear hr7 hb7 HL6 HM6 HB6 Hr6
        go_wp2_with (fail)
        refine Hsi.out.mono ?_
        rintro e w8 ⟨rfl, hb8⟩
        have HM8 := hid (HM7.out.below hb8)
        have HB8 := hid (HB7.out.trans (hb8.mono HB7.out.size))
        clear hb8 HM7 HB7 Hsi
        have hpl : (psOf (fresh S 9) ls).length = S + 1 + 9 := Hinv.out.len
        go_wp2_with (fail)
        refine (logDisk_ok HM8.out (by omega) (by omega) (by simp)).mono ?_
        rintro e w9 ⟨d9, g9, cap9, v9, rfl, hD9, hb9⟩
        have HD9 := hid hD9
        have HB9 := hid (HB8.out.trans (hb9.mono HB8.out.size))
        clear hD9 hb9 HM8 HB8
        go_wp2_with (fail)
        refine (count_any HD9.out).mono ?_
        rintro e u ⟨rfl, hu⟩
        subst u
        go_wp2
        go_ret
        exact ⟨ret_bool (by simp), HB9.out⟩
end Go.Proofs.YthdcjepkehifoaaGreat
