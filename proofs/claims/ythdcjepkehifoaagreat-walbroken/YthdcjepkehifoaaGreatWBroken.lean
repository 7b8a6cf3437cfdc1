/- WalBroken's walk. -/
import Derived.Test.YthdcjepkehifoaaGreatWBr4
import Derived.BigRegion
namespace Go.Proofs.YthdcjepkehifoaaGreat
open Go.RowKit Go.Maps
set_option linter.unusedVariables false
set_option maxRecDepth 20000

/-- while bytes are changed: the image holds some pages -/
def BRel (w w1 : World) (n b c : Nat) (vs : List Value) (wr : World) : Prop := ∃ ps, ImgAt wr w1.heap.size (.slice (some ⟨b, 0, none⟩) n c) vs ps ∧ ps.length = n ∧ (∀ p ∈ ps, p.length = 256) ∧ Below w.heap.size w wr
set_option maxHeartbeats 6400000 in
theorem walBroken_walk (z : Nat) (hz : z < 256) (a : Option Addr) (l : List Dd) (c : Nat) (sa : Option Addr) (sp : List Sp) (sc : Nat) (w : World) (hl : DdsAt w a l) (hsp : SpsAt w sa sp) :
    Calls Tryz.prog 6 #[.int .u8 (z : Int), .slice a l.length c, .slice sa sp.length sc] w fun e w' => e = .returned (.bool true) ∧ Below w.heap.size w w' := by
  have Hsp := hid hsp
  clear hsp
  have Hl := hid hl
  clear hl
  go_enter Tryz.func6, Tryz.ntmps6
  go_wp2_with (fail)
  generalize hn : (z : Int) % 20 + 2 = n
  obtain ⟨S, rfl, hS2, hS3⟩ : ∃ S : Nat, n = (S : Int) ∧ 2 ≤ S ∧ S ≤ 21 := ⟨n.toNat, by omega, by omega, by omega⟩
  clear hn
  have Ho : Calls Tryz.prog 13 #[.int .i64 ((S : Int) + 10), .int .i64 (S : Int)] w (OpenTwo S 9 w) := by
    have h := lawOpen_two w S 9 hS2 (by omega) (by omega)
    rw [show ((S + 1 + 9 : Nat) : Int) = (S : Int) + 10 by omega] at h
    exact h
  have f4 : IntKind.i64.wrap ((S : Int) + 10) = (S : Int) + 10 := by rw [IntKind.wrap_i64]; omega
  refine Ho.mono ?_
  rintro e w1 ⟨la, m, rfl, hD, hb1⟩
  have HT1 := hid hD
  have Hb1 := hid hb1
  clear hD hb1 Ho
  go_wp2_with (fail)
  refine (walLive_any w1).mono ?_
  rintro e w3 ⟨rfl, hb3⟩
  have HR3 : Hid (VRel w S la m 0 w3) := ⟨0, [], [], HT1.out.below hb3, Hb1.out.trans (hb3.mono Hb1.out.size)⟩
  clear hb3 HT1 Hb1
  go_wp2
  go_loopw [11] (fun i wr => ∃ k : Nat, k ≤ l.length ∧ k ≤ 20 ∧ i = .int .i64 k ∧ VRel w S la m k wr) (fun i _ => 20 - (intOf i).toNat)
  case atStart => exact ⟨0, Nat.zero_le _, Nat.zero_le _, rfl, HR3.out⟩
  case round =>
    obtain ⟨k, hk, hk2, rfl, G, gs, ls, hT, hB⟩ := hrel
    have HT := hid hT
    have HB := hid hB
    clear hT hB HR3
    by_cases hend : k < l.length ∧ k < 20
    · obtain ⟨hkl, hk20⟩ := hend
      have d1 : (k : Int) < (l.length : Int) := by omega
      have d2 : (k : Int) < 20 := by omega
      have d0 : (0 : Int) ≤ (k : Int) := by omega
      obtain ⟨b, o, rfl, c0, c1, c2, c3, hq⟩ := deed_at Hl.out HB.out k hkl
      have Hdo := hid (do_any HT.out (by omega) (by omega) HB.out.size l[k].ck l[k].sh l[k].a l[k].q l[k].c l[k].y hq)
      clear hq
      generalize l[k].ck = xk at *
      generalize l[k].sh = xs at *
      generalize l[k].a = xa at *
      generalize l[k].q = xq at *
      generalize l[k].c = xc at *
      generalize l[k].y = xy at *
      go_wp2_with (fail)
      refine Hdo.out.mono ?_
      rintro e u1 ⟨rfl, ⟨G', gs', ls', hD, _⟩, hb⟩
      have HR : Hid (VRel w S la m (k + 1) u1) := ⟨G', gs', ls', hD, HB.out.trans hb⟩
      clear hD hb Hdo c0 c1 c2 c3
      go_wp2
      go_roundw
      case rel => exact ⟨k + 1, by omega, by omega, by go_num, HR.out⟩
      case measure => simp [intOf]; omega
    · clear Hl
      obtain ⟨V, rfl⟩ : ∃ V, V = wr := ⟨_, rfl⟩
      rcases (show (¬ (k : Int) < (l.length : Int)) ∨ ((k : Int) < (l.length : Int) ∧ ¬ (k : Int) < 20) by omega) with g1 | ⟨g1, g2⟩
      all_goals
        clear hend
        have HTL := HT
        have Hinv0 : Hid (LogInv (psOf (fresh S 9) ls) S G gs 9) := by obtain ⟨_, _, _, _, _, _, h⟩ := HT.out.log; exact h.inv
        have hls0 : ls.length ≤ 102 * k := by obtain ⟨_, _, _, _, _, _, h⟩ := HT.out.log; exact h.lsl
        obtain ⟨r, F, L, vs, us, hW⟩ := HT.out.parts
        have HW := hid hW
        have hfl : (fresh S 9).length = S + 10 := by rw [fresh_length]
        have Hfl := hid hfl
        clear hW hfl HT HTL
        go_wp2_with (fail)
        refine (rdisk_any HW.out.mem HB.out.size).mono ?_
        rintro e w1 ⟨f1', rfl, hR1, hb1⟩
        have Him := hid (refImage_ok hR1 HW.out.ok HW.out.full (by rw [Hfl.out]; omega) (by rw [Hfl.out]; omega) (by omega))
        rw [Hfl.out] at Him
        have HB1 := hid (HB.out.trans (hb1.mono HB.out.size))
        clear hR1 hb1 HW HB
        go_wp2_with (fail)
        refine Him.out.mono ?_
        rintro e w2 ⟨b2, c2', vs2, rfl, hI2, hb2⟩
        have HB2 := hid (HB1.out.trans (hb2.mono HB1.out.size))
        have hsz1 := HB1.out.size
        have HQ0 : Hid (BRel w w1 (S + 10) b2 c2' vs2 w2) := ⟨_, hI2, by rw [psOf_length, Hfl.out], fun p hp => Hinv0.out.full p hp, HB2.out⟩
        clear hI2 hb2 Him HB1 HB2
        go_wp2
        go_loopw [13] (fun i wr => ∃ j : Nat, j ≤ sp.length ∧ j ≤ 10 ∧ i = .int .i64 j ∧ BRel w w1 (S + 10) b2 c2' vs2 wr) (fun i _ => 10 - (intOf i).toNat)
        case atStart => exact ⟨0, Nat.zero_le _, Nat.zero_le _, rfl, HQ0.out⟩
        case round =>
          obtain ⟨j, hj, hj2, rfl, hQ⟩ := hrel
          have HQ := hid hQ
          obtain ⟨ps, hI, hpl, hp6, hBe⟩ := hQ
          have HI := hid hI
          have Hpl := hid hpl
          have Hp6 := hid hp6
          have HBe := hid hBe
          clear hI hpl hp6 hBe HQ0
          by_cases hend2 : j < sp.length ∧ j < 10
          · obtain ⟨hjl, hj10⟩ := hend2
            have d1 : (j : Int) < (sp.length : Int) := by omega
            have d2 : (j : Int) < 10 := by omega
            have d0 : (0 : Int) ≤ (j : Int) := by omega
            obtain ⟨sb, so, rfl, s0, s1, s2⟩ := (Hsp.out.below HBe.out) j hjl
            generalize sp[j].bk = bk at *
            generalize sp[j].at0 = at0 at *
            generalize sp[j].y = yb at *
            rcases (show bk < 0 ∨ (0 ≤ bk ∧ ¬ bk < ((S + 10 : Nat) : Int)) ∨ (0 ≤ bk ∧ bk < ((S + 10 : Nat) : Int) ∧ at0 < 0) ∨ (0 ≤ bk ∧ bk < ((S + 10 : Nat) : Int) ∧ 0 ≤ at0 ∧ ¬ at0 < 256) ∨ (0 ≤ bk ∧ bk < ((S + 10 : Nat) : Int) ∧ 0 ≤ at0 ∧ at0 < 256) by omega) with g | ⟨g, g3⟩ | ⟨g, g3, g4⟩ | ⟨g, g3, g4, g5⟩ | ⟨g, g3, g4, g5⟩
            · have q1 : ¬ (0 : Int) ≤ bk := by omega
              go_wp2
              go_roundw
              case rel => exact ⟨j + 1, by omega, by omega, by go_num, HQ.out⟩
              case measure => simp [intOf]; omega
            · go_wp2
              go_roundw
              case rel => exact ⟨j + 1, by omega, by omega, by go_num, HQ.out⟩
              case measure => simp [intOf]; omega
            · have q1 : ¬ (0 : Int) ≤ at0 := by omega
              go_wp2
              go_roundw
              case rel => exact ⟨j + 1, by omega, by omega, by go_num, HQ.out⟩
              case measure => simp [intOf]; omega
            · go_wp2
              go_roundw
              case rel => exact ⟨j + 1, by omega, by omega, by go_num, HQ.out⟩
              case measure => simp [intOf]; omega
            · obtain ⟨K, rfl⟩ : ∃ K : Nat, bk = (K : Int) := ⟨bk.toNat, by omega⟩
              obtain ⟨T, rfl⟩ : ∃ T : Nat, at0 = (T : Int) := ⟨at0.toNat, by omega⟩
              have hKp : K < ps.length := by rw [Hpl.out]; omega
              have hKv : K < vs2.length := by have := HI.out.vlen; omega
              have hrow := HI.out.rows K hKp hKv
              rw [Hp6.out _ (List.getElem_mem hKp)] at hrow
              obtain ⟨g1, c1, e1, _, _⟩ := row_form hrow (by omega)
              have hrow1 := hrow
              rw [e1] at hrow1
              have k1 := (hrow1.cellAt T (by omega)).trans (cellsOf_get _ T (by rw [Hp6.out _ (List.getElem_mem hKp)]; omega))
              have z1 := hrow1.frozenAt T
              have kk : wr.cell? ⟨b2, K, none⟩ = some (.slice (some ⟨g1, 0, none⟩) 256 c1) := by
                have h := HI.out.row
                rw [Hpl.out] at h
                rw [← e1]
                exact (h.cellAt K (by omega)).trans (List.getElem?_eq_getElem hKv)
              have Hst := hid (img_store HI.out Hp6.out (by omega) K hKv g1 c1 e1 T yb)
              have hgb : w.heap.size ≤ g1 := by have := (hrow1.lt g1 rfl).1; omega
              generalize ((ps[K]'hKp)[T]'(by rw [Hp6.out _ (List.getElem_mem hKp)]; omega)).toNat = xo at k1
              clear hrow hrow1 e1
              go_wp2
              go_region
              all_goals
                obtain ⟨ps', hI', hpl', hp6'⟩ := Hst.out
                have HQ' : Hid (BRel w w1 (S + 10) b2 c2' vs2 (wr.setCell ⟨g1, T, none⟩ (.int .u8 (yb.toNat : Int))).drew) := ⟨ps', hI'.below ⟨rfl, rfl, rfl, Nat.le_refl _, fun _ _ => rfl⟩, hpl'.trans Hpl.out, hp6', (HBe.out.setCell hgb _).trans (below_drewN _ _ 1)⟩
                generalize (wr.setCell ⟨g1, T, none⟩ (.int .u8 (yb.toNat : Int))).drew = V9 at *
                clear hI' hpl' hp6' Hst k1 z1 kk
                go_wp2
                go_roundw
                case rel => exact ⟨j + 1, by omega, by omega, by go_num, HQ'.out⟩
                case measure => simp [intOf]; omega
          · clear Hsp
            have hI := HI.out
            rw [← Hpl.out] at hI
            have Hld := hid (load_ok hI (by rw [Hpl.out]; omega) (by rw [Hpl.out]; omega) (fun p hp => by rw [Hp6.out p hp]; omega))
            rw [Hpl.out] at Hld
            clear hI
            rcases (show (¬ (j : Int) < (sp.length : Int)) ∨ ((j : Int) < (sp.length : Int) ∧ ¬ (j : Int) < 10) by omega) with e1 | ⟨e1, e2⟩
            all_goals
              clear hend2
              go_wp2_with (fail)
              refine Hld.out.mono ?_
              rintro e w3 ⟨hp | ⟨hp, d3, g3, cap3, rfl, hD3⟩, hb3⟩
              · exfalso
                obtain ⟨⟨p, hp, hne⟩, _⟩ := hp
                exact hne (Hp6.out p hp)
              have HD3 := hid hD3
              have HB3 := hid (HBe.out.trans (hb3.mono HBe.out.size))
              have hI3 := HI.out.below hb3
              rw [← Hpl.out] at hI3
              have Hrl := hid (refLoad_ok hI3 (by rw [Hpl.out]; omega) (by rw [Hpl.out]; omega))
              rw [Hpl.out] at Hrl
              clear hp hD3 hb3 hI3 HI HBe HQ Hld
              go_wp2_with (fail)
              refine Hrl.out.mono ?_
              rintro e w4 ⟨hp | ⟨hp, r4, F4, vs4, rfl, hR4⟩, hb4⟩
              · exfalso
                obtain ⟨⟨p, hp, hne⟩, _⟩ := hp
                exact hne (Hp6.out p hp)
              have HR4 := hid hR4
              have HD4 := hid (HD3.out.below hb4)
              have HB4 := hid (HB3.out.trans (hb4.mono HB3.out.size))
              clear hp hR4 hb4 HD3 HB3 Hrl
              by_cases hL : ∃ G gs, LogInv ps S G gs 9
              · obtain ⟨G2, gs2, hinv⟩ := hL
                have Hinv := hid hinv
                clear hinv
                go_wp2_with (fail)
                refine (open_ok HD4.out S G2 9 gs2 Hinv.out (inv_G Hinv.out) (by simp)).mono ?_
                rintro e w5 ⟨l5, d5, g5, cap5, mb5, n5, rfl, hn5, hM5, hb5⟩
                have HM5 := hid hM5
                have HD5 := hid (HD4.out.below hb5)
                have HR5 := hid (HR4.out.below hb5)
                have HB5 := hid (HB4.out.trans (hb5.mono HB4.out.size))
                clear hM5 hb5 HD4 HR4 HB4
                go_wp2_with (fail)
                refine (refOpen_any HR5.out S 9 (by rw [Hpl.out]) hS2 (by omega) (by rw [Hpl.out]; omega) Hp6.out).mono ?_
                rintro e w7 ⟨hb7, (⟨G', gs', m7, r7, F7, vs7, hi', rfl, hW7⟩ | ⟨hno, _⟩)⟩
                rotate_left
                · exact (hno _ _ Hinv.out).elim
                obtain ⟨rfl, rfl⟩ := inv_uniq Hinv.out hi'
                have HW7 := hid hW7
                have HM7 := hid (HM5.out.below hb7)
                have HD7 := hid (HD5.out.below hb7)
                have HB7 := hid (HB5.out.trans (hb7.mono HB5.out.size))
                clear hW7 hb7 hi' HM5 HD5 HR5 HB5
                go_wp2_with (fail)
                refine (used_any HM7.out).mono ?_
                rintro e u ⟨rfl, hu⟩
                subst u
                go_wp2_with (fail)
                refine (rused_any HW7.out.mem).mono ?_
                rintro e u ⟨rfl, hu⟩
                subst u
                go_wp2_with (fail)
                refine (groups_any HM7.out (inv_G Hinv.out)).mono ?_
                rintro e u ⟨rfl, hu⟩
                subst u
                go_wp2_with (fail)
                refine (rgroups_any HW7.out.mem).mono ?_
                rintro e u ⟨rfl, hu⟩
                subst u
                go_wp2_with (fail)
                refine (touched_any HM7.out (by have := Hinv.out.used; omega) (touchedOf 9 gs2) (touchedOf_up 9 gs2) (touched_iff Hinv.out)).mono ?_
                rintro e w8 ⟨v8, rfl, hr8, hb8⟩
                have Hr8 := hid hr8
                have HW8 := hid (HW7.out.below hb8)
                have HD8 := hid (HD7.out.below hb8)
                have HB8 := hid (HB7.out.trans (hb8.mono HB7.out.size))
                clear hr8 hb8 HM7 HW7 HD7 HB7
                go_wp2_with (fail)
                refine (rtouched_any (HW8.out.refOk (show LogInv (psOf ps []) S G2 gs2 9 from Hinv.out) (by simp))).mono ?_
                rintro e w9 ⟨v9, rfl, hr9, hb9⟩
                have Hsi := hid (sameInts_eq (own_below Hr8.out hb9) hr9 (by have := touched_len 9 gs2; omega))
                have HD9 := hid (HD8.out.below hb9)
                have HB9 := hid (HB8.out.trans (hb9.mono HB8.out.size))
                clear hr9 hb9 Hr8 HW8 HD8 HB8
                go_wp2_with (fail)
                refine Hsi.out.mono ?_
                rintro e w10 ⟨rfl, hb10⟩
                have HD10 := hid (HD9.out.below hb10)
                have HB10 := hid (HB9.out.trans (hb10.mono HB9.out.size))
                clear hb10 Hsi HD9 HB9
                go_wp2_with (fail)
                refine (fork_ok HD10.out (by rw [Hpl.out]; omega) (by rw [Hpl.out]; omega) (by simp)).mono ?_
                rintro e w11 ⟨f11, g11, cap11, v11, rfl, hD11, hb11⟩
                have Hsm := hid (same_any (HD10.out.below hb11) hD11 rfl)
                rw [decide_eq_true (rfl : ps = ps)] at Hsm
                have HB11 := hid (HB10.out.trans (hb11.mono HB10.out.size))
                clear hD11 hb11 HD10 HB10
                go_wp2_with (fail)
                refine Hsm.out.mono ?_
                rintro e w12 ⟨rfl, hb12⟩
                have HB12 := hid (HB11.out.trans (hb12.mono HB11.out.size))
                clear hb12 Hsm
                go_wp2
                go_ret
                exact ⟨ret_bool (by simp), HB12.out⟩
              · have hno : ∀ G gs, ¬ LogInv ps S G gs 9 := fun G gs h => hL ⟨G, gs, h⟩
                have Hno := hid hno
                clear hno hL
                go_wp2_with (fail)
                refine (open_no HD4.out S 9 (by rw [Hpl.out]) hS2 (by omega) (by rw [Hpl.out]; omega) Hp6.out Hno.out (by simp)).mono ?_
                rintro e w5 ⟨rfl, hb5⟩
                have HD5 := hid (HD4.out.below hb5)
                have HR5 := hid (HR4.out.below hb5)
                have HB5 := hid (HB4.out.trans (hb5.mono HB4.out.size))
                clear hb5 HD4 HR4 HB4
                go_wp2_with (fail)
                refine (refOpen_any HR5.out S 9 (by rw [Hpl.out]) hS2 (by omega) (by rw [Hpl.out]; omega) Hp6.out).mono ?_
                rintro e w7 ⟨hb7, (⟨G', gs', m7, r7, F7, vs7, hi', _⟩ | ⟨_, rfl⟩)⟩
                · exact (Hno.out _ _ hi').elim
                have HD10 := hid (HD5.out.below hb7)
                have HB10 := hid (HB5.out.trans (hb7.mono HB5.out.size))
                clear hb7 HD5 HR5 HB5
                go_wp2_with (first
                  | (go_at_call 19; refine (used_nil _).mono ?_; rintro e u ⟨rfl, hu⟩; subst u)
                  | (go_at_call 20; refine (rused_nil _).mono ?_; rintro e u ⟨rfl, hu⟩; subst u)
                  | (go_at_call 23; refine (groups_nil _).mono ?_; rintro e u ⟨rfl, hu⟩; subst u)
                  | (go_at_call 24; refine (rgroups_nil _).mono ?_; rintro e u ⟨rfl, hu⟩; subst u)
                  | (go_at_call 26; refine (touchedNil' _).mono ?_; rintro e u ⟨rfl, hu⟩; subst u)
                  | (go_at_call 27; refine (rtouched_nil _).mono ?_; rintro e u ⟨rfl, hu⟩; subst u))
                refine (sameInts_eq (own_none _ 0) (own_none _ 0) (by simp)).mono ?_
                rintro e w10 ⟨rfl, hb10⟩
                have HD11 := hid (HD10.out.below hb10)
                have HB11 := hid (HB10.out.trans (hb10.mono HB10.out.size))
                clear hb10 HD10 HB10
                have HD10 := HD11
                have HB10 := HB11
                clear HD11 HB11
                go_wp2_with (fail)
                refine (fork_ok HD10.out (by rw [Hpl.out]; omega) (by rw [Hpl.out]; omega) (by simp)).mono ?_
                rintro e w11 ⟨f11, g11, cap11, v11, rfl, hD11, hb11⟩
                have Hsm := hid (same_any (HD10.out.below hb11) hD11 rfl)
                rw [decide_eq_true (rfl : ps = ps)] at Hsm
                have HB11 := hid (HB10.out.trans (hb11.mono HB10.out.size))
                clear hD11 hb11 HD10 HB10
                go_wp2_with (fail)
                refine Hsm.out.mono ?_
                rintro e w12 ⟨rfl, hb12⟩
                have HB12 := hid (HB11.out.trans (hb12.mono HB11.out.size))
                clear hb12 Hsm
                go_wp2
                go_ret
                exact ⟨ret_bool (by simp), HB12.out⟩
end Go.Proofs.YthdcjepkehifoaaGreat
