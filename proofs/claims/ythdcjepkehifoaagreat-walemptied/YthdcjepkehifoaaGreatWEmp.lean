/- WalEmptied's walk. -/
import Derived.Test.YthdcjepkehifoaaGreatWLaw
namespace Go.Proofs.YthdcjepkehifoaaGreat
open Go.RowKit Go.Maps
set_option linter.unusedVariables false
set_option maxRecDepth 20000

set_option maxHeartbeats 3200000 in
theorem walEmptied_walk (z : Nat) (hz : z < 256) (a : Option Addr) (l : List Dd) (c : Nat) (w : World) (hl : DdsAt w a l) :
    Calls Tryz.prog 8 #[.int .u8 (z : Int), .slice a l.length c] w fun e w' => e = .returned (.bool true) ∧ Below w.heap.size w w' := by
  have Hl := hid hl
  clear hl
  go_enter Tryz.func8, Tryz.ntmps8
  go_wp2_with (fail)
  generalize hn : (z : Int) % 20 + 2 = n
  obtain ⟨S, rfl, hS2, hS3⟩ : ∃ S : Nat, n = (S : Int) ∧ 2 ≤ S ∧ S ≤ 21 := ⟨n.toNat, by omega, by omega, by omega⟩
  clear hn
  have Ho : Calls Tryz.prog 13 #[.int .i64 ((S : Int) + 10), .int .i64 (S : Int)] w (OpenTwo S 9 w) := by
    have h := lawOpen_two w S 9 hS2 (by omega) (by omega)
    rw [show ((S + 1 + 9 : Nat) : Int) = (S : Int) + 10 by omega] at h
    exact h
  have f4 : IntKind.i64.wrap ((S : Int) + 10) = (S : Int) + 10 := by rw [IntKind.wrap_i64]; omega
  refine Ho.mono ?_
  rintro e w1 ⟨la, m, rfl, hD, hb1⟩
  have HT1 := hid hD
  have Hb1 := hid hb1
  clear hD hb1 Ho
  go_wp2_with (fail)
  refine (walLive_any w1).mono ?_
  rintro e w3 ⟨rfl, hb3⟩
  have HR3 : Hid (VRel w S la m 0 w3) := ⟨0, [], [], HT1.out.below hb3, Hb1.out.trans (hb3.mono Hb1.out.size)⟩
  clear hb3 HT1 Hb1
  go_wp2
  go_loopw [9] (fun i wr => ∃ k : Nat, k ≤ l.length ∧ k ≤ 20 ∧ i = .int .i64 k ∧ VRel w S la m k wr) (fun i _ => 20 - (intOf i).toNat)
  case atStart => exact ⟨0, Nat.zero_le _, Nat.zero_le _, rfl, HR3.out⟩
  case round =>
    obtain ⟨k, hk, hk2, rfl, G, gs, ls, hT, hB⟩ := hrel
    have HT := hid hT
    have HB := hid hB
    clear hT hB HR3
    by_cases hend : k < l.length ∧ k < 20
    · obtain ⟨hkl, hk20⟩ := hend
      have d1 : (k : Int) < (l.length : Int) := by omega
      have d2 : (k : Int) < 20 := by omega
      have d0 : (0 : Int) ≤ (k : Int) := by omega
      obtain ⟨b, o, rfl, c0, c1, c2, c3, hq⟩ := deed_at Hl.out HB.out k hkl
      have Hdo := hid (do_any HT.out (by omega) (by omega) HB.out.size l[k].ck l[k].sh l[k].a l[k].q l[k].c l[k].y hq)
      clear hq
      generalize l[k].ck = xk at *
      generalize l[k].sh = xs at *
      generalize l[k].a = xa at *
      generalize l[k].q = xq at *
      generalize l[k].c = xc at *
      generalize l[k].y = xy at *
      go_wp2_with (fail)
      refine Hdo.out.mono ?_
      rintro e u1 ⟨rfl, ⟨G', gs', ls', hD, _⟩, hb⟩
      have HR : Hid (VRel w S la m (k + 1) u1) := ⟨G', gs', ls', hD, HB.out.trans hb⟩
      clear hD hb Hdo c0 c1 c2 c3
      go_wp2
      go_roundw
      case rel => exact ⟨k + 1, by omega, by omega, by go_num, HR.out⟩
      case measure => simp [intOf]; omega
    · clear Hl
      obtain ⟨V, rfl⟩ : ∃ V, V = wr := ⟨_, rfl⟩
      rcases (show (¬ (k : Int) < (l.length : Int)) ∨ ((k : Int) < (l.length : Int) ∧ ¬ (k : Int) < 20) by omega) with g1 | ⟨g1, g2⟩
      all_goals
        clear hend
        obtain ⟨Q, R, hL, _, _, hQ4, _⟩ := HT.out
        have HL := hid hL
        have HQ4 := hid hQ4
        have H256 := hid (pagesL_256 hL.at)
        have Hcp := hid (pages_cp hL.at (by omega))
        clear hL hQ4 HT
        go_wp2_with (fail)
        refine (a_all HL.out.at (by omega)).mono ?_
        rintro e w1 ⟨v1, rfl, hI1, hb1⟩
        have HI1 := hid hI1
        have HL1 := hid (HL.out.below hb1)
        have HB1 := hid (HB.out.trans (hb1.mono HB.out.size))
        have hs1 := hb1.size
        have hs0 := HB.out.size
        clear hI1 hb1 HL HB
        go_wp2_with (fail)
        refine (q_check HL1.out (by omega) (by omega) (by omega)).mono ?_
        rintro e w2 ⟨rfl, Q', hL2, _, ho2⟩
        have HI2 := hid (HI1.out.keep (w' := w2) fun j h1 h2 => ho2.block j h2 (fun hq => by have := (HQ4.out j hq).2; omega))
        have HL2 := hid hL2.at
        have HB2 := hid (HB1.out.trans (ho2.below (by omega) (fun j hj => (HQ4.out j hj).1)))
        clear hL2 ho2 HI1 HL1 HB1
        go_wp2_with (fail)
        refine (a_used HL2.out).mono ?_
        rintro e u ⟨rfl, hu⟩
        subst u
        rw [usedOf_nil]
        go_wp2_with (fail)
        refine (a_free HL2.out).mono ?_
        rintro e w3 ⟨rfl, hb3⟩
        rw [usedOf_nil]
        have HI3 := hid (HI2.out.below hb3)
        have HL3 := hid (HL2.out.below hb3)
        have HB3 := hid (HB2.out.trans (hb3.mono HB2.out.size))
        clear hb3 HI2 HL2 HB2
        have f9 : (S : Int) - ((0 : Nat) : Int) = (S : Int) := by omega
        rw [f9]
        have Hto := hid (one_touched HL3.out (by omega))
        rw [touched_nil] at Hto
        go_wp2_with (fail)
        refine Hto.out.mono ?_
        rintro e w4 ⟨vt, rfl, hrow, hb4⟩
        obtain ⟨ta, tc, rfl⟩ : ∃ ta tc, vt = .slice ta 0 tc := by
          rcases hrow.2 with ⟨h1, h2⟩ | ⟨g, cap, _, h1, _⟩
          · exact ⟨none, 0, h1⟩
          · exact ⟨_, _, h1⟩
        have HI4 := hid (HI3.out.below hb4)
        have HL4 := hid (HL3.out.below hb4)
        have HB4 := hid (HB3.out.trans (hb4.mono HB3.out.size))
        clear hrow hb4 HI3 HL3 HB3 Hto
        go_wp2_with (fail)
        refine (a_all HL4.out (by omega)).mono ?_
        rintro e w5 ⟨v5, rfl, hI5, hb5⟩
        rw [Hcp.out] at hI5
        have Hsm := hid (wsame hI5 (HI4.out.below hb5) (by rw [pagesL_len]; omega) (by rw [pagesL_len]; omega) H256.out)
        have HL5 := hid (HL4.out.below hb5)
        have HB5 := hid (HB4.out.trans (hb5.mono HB4.out.size))
        clear hI5 hb5 HI4 HL4 HB4
        go_wp2_with (fail)
        refine Hsm.out.mono ?_
        rintro e w6 ⟨rfl, hb6⟩
        have HL6 := hid (HL5.out.below hb6)
        have HB6 := hid (HB5.out.trans (hb6.mono HB5.out.size))
        clear hb6 Hsm HL5 HB5
        go_wp2_with (fail)
        refine (one_check HL6.out (by omega) (by omega) HB6.out.size).mono ?_
        rintro e w7 ⟨rfl, _, hb7⟩
        have HB7 := hid (HB6.out.trans hb7)
        clear hb7
        go_wp2
        go_ret
        exact ⟨ret_bool (by simp), HB7.out⟩
end Go.Proofs.YthdcjepkehifoaaGreat
