/- WalCuts' walk. -/
import Derived.Test.YthdcjepkehifoaaGreatWCutM
namespace Go.Proofs.YthdcjepkehifoaaGreat
open Go.RowKit Go.Maps
set_option linter.unusedVariables false
set_option maxRecDepth 20000

set_option maxHeartbeats 3200000 in
theorem walCuts_walk (z k16 : Nat) (hz : z < 256) (hk16 : k16 < 65536) (a : Option Addr) (l : List Dd) (c : Nat) (w : World) (hl : DdsAt w a l) (hll : l.length ≤ 9223372036854775807) :
    Calls Tryz.prog 4 #[.int .u8 (z : Int), .slice a l.length c, .int .u16 (k16 : Int)] w fun e w' => e = .returned (.bool true) ∧ Below w.heap.size w w' := by
  have Hl := hid hl
  clear hl
  go_enter Tryz.func4, Tryz.ntmps4
  go_wp2_with (fail)
  generalize hn : (z : Int) % 20 + 2 = n
  obtain ⟨S, rfl, hS2, hS3⟩ : ∃ S : Nat, n = (S : Int) ∧ 2 ≤ S ∧ S ≤ 21 := ⟨n.toNat, by omega, by omega, by omega⟩
  clear hn
  have Ho : Calls Tryz.prog 13 #[.int .i64 ((S : Int) + 10), .int .i64 (S : Int)] w (OpenTwo S 9 w) := by
    have h := lawOpen_two w S 9 hS2 (by omega) (by omega)
    rw [show ((S + 1 + 9 : Nat) : Int) = (S : Int) + 10 by omega] at h
    exact h
  have f4 : IntKind.i64.wrap ((S : Int) + 10) = (S : Int) + 10 := by rw [IntKind.wrap_i64]; omega
  refine Ho.mono ?_
  rintro e w1 ⟨la, m, rfl, hD, hb1⟩
  have HT1 := hid hD
  have Hb1 := hid hb1
  clear hD hb1 Ho
  go_wp2_with (fail)
  refine (walLive_any w1).mono ?_
  rintro e w3 ⟨rfl, hb3⟩
  rcases (show l.length = 0 ∨ ∃ J, l.length = J + 1 by cases h : l.length with | zero => exact .inl rfl | succ J => exact .inr ⟨J, rfl⟩) with hl0 | ⟨J, hJ⟩
  · have f1 : ((l.length : Int) == 0) = true := by rw [hl0]; rfl
    have HB := hid (Hb1.out.trans (hb3.mono Hb1.out.size))
    clear hl0 hb3 Hb1 HT1 Hl
    go_wp2_with (fail)
    refine (walLive_any w3).mono ?_
    rintro e w4 ⟨rfl, hb4⟩
    have HB4 := hid (HB.out.trans (hb4.mono HB.out.size))
    clear hb4
    go_wp2
    go_ret
    exact ⟨rfl, HB4.out⟩
  have HJ := hid (show J = l.length - 1 by omega)
  have f1 : ((l.length : Int) == 0) = false := by rw [beq_eq_false_iff_ne]; omega
  have f2 : IntKind.i64.wrap ((l.length : Int) - 1) = (J : Int) := by rw [IntKind.wrap_i64]; omega
  have hJl : J < l.length := by omega
  clear hJ
  have HR3 : Hid (VRel w S la m 0 w3) := ⟨0, [], [], HT1.out.below hb3, Hb1.out.trans (hb3.mono Hb1.out.size)⟩
  clear hb3 HT1 Hb1
  go_wp2
  clear f1
  go_loopw [11] (fun i wr => ∃ k : Nat, k ≤ J ∧ k ≤ 20 ∧ i = .int .i64 k ∧ VRel w S la m k wr) (fun i _ => 20 - (intOf i).toNat)
  case atStart => exact ⟨0, Nat.zero_le _, Nat.zero_le _, rfl, HR3.out⟩
  case round =>
    obtain ⟨k, hk, hk2, rfl, G, gs, ls, hT, hB⟩ := hrel
    have HT := hid hT
    have HB := hid hB
    clear hT hB HR3
    by_cases hend : k < J ∧ k < 20
    · obtain ⟨hkl, hk20⟩ := hend
      have d1 : (k : Int) < (J : Int) := by omega
      have d2 : (k : Int) < 20 := by omega
      have d0 : (0 : Int) ≤ (k : Int) := by omega
      have d3 : (k : Int) < (l.length : Int) := by omega
      have hkll : k < l.length := by omega
      obtain ⟨b, o, rfl, c0, c1, c2, c3, hq⟩ := deed_at Hl.out HB.out k hkll
      have Hdo := hid (do_any HT.out (by omega) (by omega) HB.out.size l[k].ck l[k].sh l[k].a l[k].q l[k].c l[k].y hq)
      clear hq
      generalize l[k].ck = xk at *
      generalize l[k].sh = xs at *
      generalize l[k].a = xa at *
      generalize l[k].q = xq at *
      generalize l[k].c = xc at *
      generalize l[k].y = xy at *
      go_wp2_with (fail)
      refine Hdo.out.mono ?_
      rintro e u1 ⟨rfl, ⟨G', gs', ls', hD, _⟩, hb⟩
      have HR : Hid (VRel w S la m (k + 1) u1) := ⟨G', gs', ls', hD, HB.out.trans hb⟩
      clear hD hb Hdo c0 c1 c2 c3
      go_wp2
      go_roundw
      case rel => exact ⟨k + 1, by omega, by omega, by go_num, HR.out⟩
      case measure => simp [intOf]; omega
    · obtain ⟨V, rfl⟩ : ∃ V, V = wr := ⟨_, rfl⟩
      rcases (show (¬ (k : Int) < (J : Int)) ∨ ((k : Int) < (J : Int) ∧ ¬ (k : Int) < 20) by omega) with g1 | ⟨g1, g2⟩
      all_goals
        clear hend
        have HL := hid HT.out.log
        have HTV := HT
        have H256 := hid (pagesL_256 HL.out)
        obtain ⟨hinv, hgr, hlsl⟩ := HT.out.inv
        have Hinv := hid hinv
        clear hinv
        obtain ⟨L0, hL0⟩ : ∃ L0, ls.length = L0 := ⟨_, rfl⟩
        have HL0 := hid hL0
        have hL0b : L0 ≤ 2040 := by omega
        clear hL0 hlsl
        go_wp2_with (fail)
        refine (a_all HL.out (by omega)).mono ?_
        rintro e w1 ⟨v1, rfl, hI1, hb1⟩
        have HI1 := hid hI1
        have HT1 := hid (HT.out.below hb1)
        have Hb01 := hid hb1
        have HB1 := hid (HB.out.trans (hb1.mono HB.out.size))
        have hs1 := hb1.size
        have hs0 := HB.out.size
        clear hI1 hb1 HL HT
        go_wp2_with (fail)
        refine (one_disk HT1.out.log (by omega)).mono ?_
        rintro e w2 ⟨d2, g2', cap2, v2, rfl, hD2, hb2⟩
        have Hct := hid (count_any hD2)
        rw [chOf_length, HL0.out] at Hct
        have HI2 := hid (HI1.out.below hb2)
        have HT2 := hid (HT1.out.below hb2)
        have HB2 := hid (HB1.out.trans (hb2.mono HB1.out.size))
        have hs2 := hb2.size
        have Hb12 := hid hb2
        clear hD2 hb2 HI1 HT1
        go_wp2_with (fail)
        refine Hct.out.mono ?_
        rintro e u ⟨rfl, hu⟩
        subst u
        clear Hct
        obtain ⟨b, o, rfl, c0, c1, c2, c3, hq⟩ := deed_at Hl.out HB2.out J hJl
        generalize l[J] = xd at *
        obtain ⟨xk, xs, xa, xq, xc, xy⟩ := xd
        simp only at c0 c1 c2 c3 hq
        have Hq := hid hq
        have d3 : (0 : Int) ≤ (J : Int) := by omega
        have d4 : (J : Int) < (l.length : Int) := by omega
        clear hq
        have hal := heap_alloc_new w2 (.cells #[.bool xk, .bool xs, .slice xa xq.length xc, .int .u8 (xy.toNat : Int)] 32)
        have HbA := hid ((Below.refl _ w2).alloc (Nat.le_refl _) (.cells #[.bool xk, .bool xs, .slice xa xq.length xc, .int .u8 (xy.toNat : Int)] 32))
        obtain ⟨Q, R, h1, h2, h3, h4, h5⟩ := HTV.out
        have HbV2 := hid ((Hb01.out.trans (Hb12.out.mono hs1)).trans (HbA.out.mono (by omega)))
        have Hdo := hid (do_q (h1.below HbV2.out) (h2.below HbV2.out) h3 (fun j hj => ⟨(h4 j hj).1, by have := (h4 j hj).2; have := HbV2.out.size; omega⟩) (fun j hj => ⟨(h5 j hj).1, by have := (h5 j hj).2; have := HbV2.out.size; omega⟩) (by omega) (by omega) (by have := HbV2.out.size; omega) xk xs xa xq xc xy (fun w' hb => Hq.out w' ((HbA.out.mono (by omega)).trans hb)))
        have HQV : Hid (∀ j, (Q j ∨ R j) → j < V.heap.size) := fun j hj => by rcases hj with h | h; exact (h4 j h).2; exact (h5 j h).2
        have hsA := HbA.out.size
        have HIA := hid (HI2.out.below HbA.out)
        have HBA := hid (HB2.out.trans (HbA.out.mono (by omega)))
        clear h1 h2 h3 h4 h5 HTV HT2 hal Hq HI2 HB2
        go_wp2_with (fail)
        clear c0 c1 c2 c3
        generalize w2.alloc (.cells #[.bool xk, .bool xs, .slice xa xq.length xc, .int .u8 (xy.toNat : Int)] 32) = WA at *
        refine Hdo.out.mono ?_
        rintro e w3 ⟨rfl, ⟨G', gs', ls', hD3, hst⟩, hb3, ho3⟩
        have HT3 := hid hD3
        have HB3 := hid (HBA.out.trans hb3)
        have HI3 := hid (HIA.out.keep (w' := w3) fun j h1 h2 => ho3.block j h2 (fun hq => by have := HQV.out j hq; omega))
        have Hst := hid hst
        have hL1 := step_len hst
        have H256' := hid (pagesL_256 hD3.log)
        obtain ⟨hinv', hgr', hlsl'⟩ := hD3.inv
        obtain ⟨L1, hL1e⟩ : ∃ L1, ls'.length = L1 := ⟨_, rfl⟩
        have HL1 := hid hL1e
        rw [HL0.out, hL1e] at hL1
        have hL1b : L1 ≤ 3000 := by omega
        clear hD3 hb3 ho3 hst hinv' hgr' hlsl' hL1e Hdo HIA HBA HQV
        go_wp2_with (fail)
        refine (a_all HT3.out.log (by omega)).mono ?_
        rintro e w4 ⟨v4, rfl, hI4, hb4⟩
        have HJ4 := hid hI4
        have HI4 := hid (HI3.out.below hb4)
        have HT4 := hid (HT3.out.below hb4)
        have HB4 := hid (HB3.out.trans (hb4.mono HB3.out.size))
        clear hI4 hb4 HI3 HT3 HB3
        go_wp2_with (fail)
        refine (one_disk HT4.out.log (by omega)).mono ?_
        rintro e w5 ⟨d5, g5, cap5, v5, rfl, hD5, hb5⟩
        have HD5 := hid hD5
        have HJ5 := hid (HJ4.out.below hb5)
        have HI5 := hid (HI4.out.below hb5)
        have HB5 := hid (HB4.out.trans (hb5.mono HB4.out.size))
        have Hlt := hid HT4.out.lt
        have Hct := hid (count_any hD5)
        rw [chOf_length, HL1.out] at Hct
        clear hD5 hb5 HI4 HJ4 HT4 HB4
        obtain ⟨D, hD⟩ : ∃ D : Nat, (k16 % (L1 - L0 + 1) : Nat) = D := ⟨_, rfl⟩
        have hDb : D < L1 - L0 + 1 := by rw [← hD]; exact Nat.mod_lt _ (by omega)
        have f5 : IntKind.i64.wrap ((L1 : Int) - (L0 : Int)) = (L1 : Int) - (L0 : Int) := by rw [IntKind.wrap_i64]; omega
        have f6 : IntKind.i64.wrap ((L1 : Int) - (L0 : Int) + 1) = ((L1 - L0 : Nat) : Int) + 1 := by rw [IntKind.wrap_i64]; omega
        have f7 : (k16 : Int) % (((L1 - L0 : Nat) : Int) + 1) = (D : Int) := by rw [← hD]; exact (Int.natCast_emod _ _).symm
        have f8 : IntKind.i64.wrap ((L0 : Int) + (D : Int)) = ((L0 + D : Nat) : Int) := by rw [IntKind.wrap_i64]; omega
        have f9 : ¬ ((L1 - L0 : Nat) : Int) + 1 = 0 := by omega
        clear hD
        go_wp2_with (go_at_call 39; refine Hct.out.mono ?_; rintro e u ⟨rfl, hu⟩; subst u)
        obtain ⟨G2, gs2, hi2, hG2, hA, hBh⟩ := step_cut Hinv.out (by omega) Hst.out (L0 + D) (by have := HL0.out; omega) (by have := HL1.out; omega)
        have Hcut := hid (cut_ok HD5.out (L0 + D) (by rw [chOf_length]; have := HL1.out; omega) (by rw [chOf_length]; have := HL1.out; omega) (by rw [psOf_length, fresh_length]; omega) (by rw [psOf_length, fresh_length]; omega))
        rw [undo_psOf _ _ Hlt.out _ (by have := HL1.out; omega)] at Hcut
        rw [HL1.out] at hA hBh
        have HA := hid hA
        have HBh := hid hBh
        have Hi2 := hid hi2
        clear hA hBh hi2
        generalize psOf (fresh S 9) (ls'.take (L0 + D)) = pc at *
        refine Hcut.out.mono ?_
        rintro e w6 ⟨d6, g6, cap6, rfl, hD6, hb6⟩
        have HD6 := hid hD6
        have HE6 := hid (HD5.out.below hb6)
        have HJ6 := hid (HJ5.out.below hb6)
        have HI6 := hid (HI5.out.below hb6)
        have HB6 := hid (HB5.out.trans (hb6.mono HB5.out.size))
        clear hD6 hb6 Hcut HD5 HJ5 HI5 HB5 Hct Hlt
        go_wp2_with (fail)
        refine (open_ok HD6.out S G2 9 gs2 Hi2.out (by omega) (by simp)).mono ?_
        rintro e w7 ⟨l7, d7, g7, cap7, mb7, n7, rfl, hn7, hM7, hb7⟩
        have HM7 := hid hM7
        have HJ7 := hid (HJ6.out.below hb7)
        have HI7 := hid (HI6.out.below hb7)
        have HB7 := hid (HB6.out.trans (hb7.mono HB6.out.size))
        have Hct := hid (count_any (HE6.out.below hb7))
        rw [chOf_length, HL1.out] at Hct
        clear hM7 hb7 HD6 HE6 HJ6 HI6 HB6
        by_cases hat : L0 + D = L1
        · have f10 : (((L0 + D : Nat) : Int) == (L1 : Int)) = true := by rw [beq_iff_eq]; omega
          have hA := HA.out hat
          have Hall := hid (wall_log HM7.out Hi2.out (by omega))
          rw [show (List.range 9).map (pageNow pc S gs2) = pagesL S 9 gs' ls' from hA] at Hall
          clear hA hat f5 f6 f7
          go_wp2_with (go_at_call 39; refine Hct.out.mono ?_; rintro e u ⟨rfl, hu⟩; subst u)
          refine Hall.out.mono ?_
          rintro e w8 ⟨v8, rfl, hI8, hb8⟩
          have Hsm := hid (wsame hI8 (HJ7.out.below hb8) (by rw [pagesL_len]; omega) (by rw [pagesL_len]; omega) H256'.out)
          have HB8 := hid (HB7.out.trans (hb8.mono HB7.out.size))
          clear hI8 hb8
          go_wp2_with (fail)
          refine Hsm.out.mono ?_
          rintro e w9 ⟨rfl, hb9⟩
          have HB9 := hid (HB8.out.trans (hb9.mono HB8.out.size))
          clear hb9 Hsm
          go_wp2
          go_ret
          exact ⟨rfl, HB9.out⟩
        · have f10 : (((L0 + D : Nat) : Int) == (L1 : Int)) = false := by rw [beq_eq_false_iff_ne]; omega
          have hA := HBh.out hat
          have Hall := hid (wall_log HM7.out Hi2.out (by omega))
          rw [show (List.range 9).map (pageNow pc S gs2) = pagesL S 9 gs ls from hA] at Hall
          clear hA hat f5 f6 f7
          go_wp2_with (go_at_call 39; refine Hct.out.mono ?_; rintro e u ⟨rfl, hu⟩; subst u)
          refine Hall.out.mono ?_
          rintro e w8 ⟨v8, rfl, hI8, hb8⟩
          have Hsm := hid (wsame hI8 (HI7.out.below hb8) (by rw [pagesL_len]; omega) (by rw [pagesL_len]; omega) H256.out)
          have HB8 := hid (HB7.out.trans (hb8.mono HB7.out.size))
          clear hI8 hb8
          go_wp2_with (fail)
          refine Hsm.out.mono ?_
          rintro e w9 ⟨rfl, hb9⟩
          have HB9 := hid (HB8.out.trans (hb9.mono HB8.out.size))
          clear hb9 Hsm
          go_wp2
          go_ret
          exact ⟨rfl, HB9.out⟩
end Go.Proofs.YthdcjepkehifoaaGreat
