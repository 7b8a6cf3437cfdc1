/- The walk of BlockCuts. -/
import Derived.Test.YtgiifodhofdpaaaBWrites
namespace Go.Proofs.Ytgiifodhofdpaaa
open Go.RowKit
set_option linter.unusedVariables false

theorem chOf_get (fs : List (List UInt8)) (ls : List (Nat × List UInt8)) : (chOf fs ls).map (·.1) = ls.map (·.1) := by
  induction ls generalizing fs with
  | nil => rfl
  | cons c ls ih => show c.1 :: (chOf _ ls).map (·.1) = c.1 :: ls.map (·.1); rw [ih]
theorem psOf_full (fs : List (List UInt8)) (ls : List (Nat × List UInt8)) (hf : ∀ p ∈ fs, p.length = 256) (hok : ∀ c ∈ ls, c.2.length = 256) : ∀ p ∈ psOf fs ls, p.length = 256 := by
  induction ls generalizing fs with
  | nil => exact hf
  | cons c ls ih =>
    refine ih _ (fun p hp => ?_) (fun q hq => hok q (List.mem_cons_of_mem _ hq))
    rcases List.mem_or_eq_of_mem_set hp with h | h
    · exact hf p h
    · rw [h]; exact hok c List.mem_cons_self

set_option maxHeartbeats 3200000 in
set_option maxRecDepth 20000 in
theorem blockCuts_walk (l : List (Int × Int × UInt8)) (a : Option Addr) (ca : Nat) {w : World} (hl : DeedsIn w a l) (k : Int) :
    Calls Try.prog 4 #[.slice a l.length ca, .int .i64 k] w fun e w' => e = .returned (.bool true) ∧ Below w.heap.size w w' := by
  have Hl := hid hl
  clear hl
  go_enter Try.func4, Try.ntmps4
  go_wp2_with (fail)
  refine (play_ok 5 (by omega) (by omega) w l a ca Hl.out).mono ?_
  rintro e w1 ⟨d, g, cap, v, r, F, L, vs, us, ls, rfl, hP, hls, hB1⟩
  have HP := hid hP
  have HB1 := hid hB1
  clear hP hB1
  go_wp2_with (fail)
  refine (live_any w1).mono ?_
  rintro e w2 ⟨rfl, hB2⟩
  have HP2 := hid (HP.out.below hB2)
  have HB2 := hid (HB1.out.trans (hB2.mono HB1.out.size))
  clear hB2 HP HB1
  have hfl : (List.replicate 5 zpage).length = 5 := List.length_replicate
  have hff : ∀ p ∈ List.replicate 5 zpage, p.length = 256 := fun p hp => by rw [(List.mem_replicate.1 hp).2]; exact zpage_length
  have Hff := hid hff
  clear hff
  generalize List.replicate 5 zpage = fs at *
  have Hfl := hid hfl
  have Hok := hid HP2.out.ok
  have Hpl := hid (show (psOf fs ls).length = 5 by rw [psOf_length]; exact hfl)
  have Hcl := hid (chOf_length fs ls)
  clear hfl
  by_cases hk : k < 0 ∨ (ls.length : Int) < k
  · go_wp2_with (fail)
    refine (cut_far HP2.out.pair.disk k (by rw [Hcl.out]; exact hk)).mono ?_
    rintro e w3 ⟨rfl, rfl⟩
    go_wp2_with (fail)
    refine (refCut_far HP2.out.pair.ref k hk).mono ?_
    rintro e w3 ⟨rfl, rfl⟩
    clear hk
    go_wp2_with (first | (go_at_call 25; refine (image_nil _).mono ?_; rintro e w' ⟨rfl, rfl⟩) | (go_at_call 26; refine (refImage_nil _).mono ?_; rintro e w' ⟨rfl, rfl⟩) | (go_at_call 24; refine (sameAll_nil _).mono ?_; rintro e w' ⟨rfl, rfl⟩))
    refine (count_nil _).mono ?_
    rintro e w3 ⟨rfl, rfl⟩
    have Hct := hid (count_any HP2.out.pair.disk)
    rw [Hcl.out] at Hct
    go_wp2_with (fail)
    refine Hct.out.mono ?_
    rintro e w4 ⟨rfl, rfl⟩
    go_wp2_with (fail)
    refine (cut_ok HP2.out.pair.disk ls.length (by rw [Hcl.out]; omega) (by rw [Hcl.out]; omega) (by rw [Hpl.out]; omega) (by rw [Hpl.out]; omega)).mono ?_
    rintro e w5 ⟨da, ga, capa, rfl, hA, hB5⟩
    rw [undo_psOf fs ls (fun c hc => (Hok.out c hc).1) _ (Nat.le_refl _), List.take_length] at hA
    have Hs := hid (same_any hA (HP2.out.below hB5).pair.disk rfl)
    simp only [decide_true] at Hs
    have HB5 := hid (HB2.out.trans (hB5.mono HB2.out.size))
    clear hA hB5
    go_wp2_with (fail)
    refine Hs.out.mono ?_
    rintro e w6 ⟨rfl, hB6⟩
    have HB6 := hid (HB5.out.trans (hB6.mono HB5.out.size))
    clear hB6
    go_wp2
    go_ret
    exact ⟨rfl, HB6.out⟩
  · obtain ⟨n, rfl⟩ : ∃ n : Nat, k = (n : Int) := ⟨k.toNat, by omega⟩
    have hn : n ≤ ls.length := by omega
    clear hk
    go_wp2_with (fail)
    refine (cut_ok HP2.out.pair.disk n (by rw [Hcl.out]; exact hn) (by rw [Hcl.out]; omega) (by rw [Hpl.out]; omega) (by rw [Hpl.out]; omega)).mono ?_
    rintro e w3 ⟨dc, gc, capc, rfl, hC, hB3⟩
    rw [undo_psOf fs ls (fun c hc => (Hok.out c hc).1) n hn] at hC
    have HC := hid hC
    have HP3 := hid (HP2.out.below hB3)
    have HB3 := hid (HB2.out.trans (hB3.mono HB2.out.size))
    clear hC hB3 HP2 HB2
    go_wp2_with (fail)
    refine (refCut_ok HP3.out.pair.ref Hok.out Hff.out (by rw [Hfl.out]; omega) (by rw [Hfl.out]; omega) n hn (by omega)).mono ?_
    rintro e w4 ⟨rs, Fs, vss, rfl, hS, hB4⟩
    have HS := hid hS
    have HC4 := hid (HC.out.below hB4)
    have HP4 := hid (HP3.out.below hB4)
    have HB4 := hid (HB3.out.trans (hB4.mono HB3.out.size))
    have Hpk := hid (show (psOf fs (ls.take n)).length = 5 by rw [psOf_length]; exact Hfl.out)
    have Hfk := hid (psOf_full fs (ls.take n) Hff.out (fun c hc => (Hok.out c (List.mem_of_mem_take hc)).2))
    clear hS hB4 HC HP3 HB3
    go_wp2_with (fail)
    refine (image_ok HC4.out (by rw [Hpk.out]; omega) (by rw [Hpk.out]; omega)).mono ?_
    rintro e w5 ⟨b1, vs1, rfl, hI, hB5⟩
    rw [Hpk.out] at hI ⊢
    have HI := hid hI
    have HS5 := hid (HS.out.below hB5)
    have HC5 := hid (HC4.out.below hB5)
    have HP5 := hid (HP4.out.below hB5)
    have HB5 := hid (HB4.out.trans (hB5.mono HB4.out.size))
    clear hI hB5 HS HC4 HP4 HB4
    go_wp2_with (fail)
    refine (refImage_ok HS5.out (fun c hc => by cases hc) Hfk.out (by rw [Hpk.out]; omega) (by rw [Hpk.out]; omega) (by simp)).mono ?_
    rintro e w6 ⟨b2, c2, vs2, rfl, hJ, hB6⟩
    rw [Hpk.out] at hJ ⊢
    have hJ2 : ImgAt w6 w5.heap.size (.slice (some ⟨b2, 0, none⟩) 5 c2) vs2 (psOf fs (ls.take n)) := hJ
    have Hsa := hid (sameAll_eq Hpk.out.symm (HI.out.below hB6) hJ2 (by rw [Hpk.out]; omega) (fun p hp => by rw [Hfk.out p hp]; omega))
    have HC6 := hid (HC5.out.below hB6)
    have HP6 := hid (HP5.out.below hB6)
    have HB6 := hid (HB5.out.trans (hB6.mono HB5.out.size))
    clear hJ hJ2 hB6 HS5 HC5 HP5 HB5 HI
    go_wp2_with (fail)
    refine Hsa.out.mono ?_
    rintro e w7 ⟨rfl, hB7⟩
    have HC7 := hid (HC6.out.below hB7)
    have HP7 := hid (HP6.out.below hB7)
    have HB7 := hid (HB6.out.trans (hB7.mono HB6.out.size))
    clear hB7 HC6 HP6 HB6 Hsa
    go_wp2_with (fail)
    refine (count_any HC7.out).mono ?_
    rintro e w8 ⟨rfl, rfl⟩
    have Hct := hid (count_any HP7.out.pair.disk)
    rw [Hcl.out] at Hct
    go_wp2_with (fail)
    refine Hct.out.mono ?_
    rintro e w9 ⟨rfl, rfl⟩
    go_wp2_with (fail)
    refine (cut_ok HP7.out.pair.disk ls.length (by rw [Hcl.out]; omega) (by rw [Hcl.out]; omega) (by rw [Hpl.out]; omega) (by rw [Hpl.out]; omega)).mono ?_
    rintro e w10 ⟨da, ga, capa, rfl, hA, hB10⟩
    rw [undo_psOf fs ls (fun c hc => (Hok.out c hc).1) _ (Nat.le_refl _), List.take_length] at hA
    have Hs := hid (same_any hA (HP7.out.below hB10).pair.disk rfl)
    simp only [decide_true] at Hs
    have HC10 := hid (HC7.out.below hB10)
    have HP10 := hid (HP7.out.below hB10)
    have HB10 := hid (HB7.out.trans (hB10.mono HB7.out.size))
    clear hA hB10 HC7 HP7 HB7 Hct
    go_wp2_with (fail)
    refine Hs.out.mono ?_
    rintro e w11 ⟨rfl, hB11⟩
    have HC11 := hid (HC10.out.below hB11)
    have HP11 := hid (HP10.out.below hB11)
    have HB11 := hid (HB10.out.trans (hB11.mono HB10.out.size))
    clear hB11 HC10 HP10 HB10 Hs
    have Hct := hid (count_any HP11.out.pair.disk)
    rw [Hcl.out] at Hct
    by_cases hnl : n = ls.length
    · have g1 : ((n : Int) == (ls.length : Int)) = true := by rw [hnl]; simp
      have g2 : (n : Int) = (ls.length : Int) := by omega
      clear hnl
      go_wp2_with (fail)
      refine Hct.out.mono ?_
      rintro e w12 ⟨rfl, rfl⟩
      go_wp2
      go_ret
      exact ⟨rfl, HB11.out⟩
    · have g1 : ((n : Int) == (ls.length : Int)) = false := by simp; omega
      have g2 : ¬ (n : Int) = (ls.length : Int) := by omega
      have hlt : n < ls.length := by omega
      clear hnl
      go_wp2_with (fail)
      refine Hct.out.mono ?_
      rintro e w12 ⟨rfl, rfl⟩
      have t1 : IntKind.i64.wrap ((n : Int) + 1) = ((n + 1 : Nat) : Int) := by rw [IntKind.wrap_i64]; omega
      go_wp2_with (fail)
      have Hcn := hid (cut_ok HP11.out.pair.disk (n + 1) (by rw [Hcl.out]; omega) (by rw [Hcl.out]; omega) (by rw [Hpl.out]; omega) (by rw [Hpl.out]; omega))
      rw [show ((n + 1 : Nat) : Int) = (n : Int) + 1 by omega, undo_psOf fs ls (fun c hc => (Hok.out c hc).1) (n + 1) (by omega), psOf_take fs ls n hlt] at Hcn
      have hokn := Hok.out _ (List.getElem_mem hlt)
      have Hwn : Hid ((nums ((chOf fs ls).map (·.1)))[n]? = some (.int .i64 (ls[n].1 : Int))) := by
        rw [chOf_get]
        unfold nums
        rw [List.map_map, List.getElem?_map, List.getElem?_eq_getElem hlt]
        rfl
      have hN5 : ls[n].1 < 5 := by rw [← Hfl.out]; exact hokn.1
      have Hx := hid hokn.2
      generalize ls[n].1 = N at *
      generalize ls[n].2 = x at *
      clear hokn t1 Hct
      refine Hcn.out.mono ?_
      rintro e w13 ⟨dn, gn, capn, rfl, hD, hB13⟩
      have HD := hid hD
      have HC13 := hid (HC11.out.below hB13)
      have HP13 := hid (HP11.out.below hB13)
      have HB13 := hid (HB11.out.trans (hB13.mono HB11.out.size))
      clear hD hB13 HC11 HP11 HB11 Hcn
      go_wp2_with (fail)
      refine (image_ok HC13.out (by rw [Hpk.out]; omega) (by rw [Hpk.out]; omega)).mono ?_
      rintro e w14 ⟨bx, vsx, rfl, hI, hB14⟩
      rw [Hpk.out] at hI ⊢
      have HI := hid hI
      have HD14 := hid (HD.out.below hB14)
      have HP14 := hid (HP13.out.below hB14)
      have HB14 := hid (HB13.out.trans (hB14.mono HB13.out.size))
      clear hI hB14 HD HC13 HP13 HB13
      have Hpn := hid (show ((psOf fs (ls.take n)).set N x).length = 5 by rw [List.length_set]; exact Hpk.out)
      go_wp2_with (fail)
      refine (image_ok HD14.out (by rw [Hpn.out]; omega) (by rw [Hpn.out]; omega)).mono ?_
      rintro e w15 ⟨by_, vsy, rfl, hJ, hB15⟩
      rw [Hpn.out] at hJ ⊢
      have HJ := hid hJ
      have HI15 := hid (HI.out.below hB15)
      have HP15 := hid (HP14.out.below hB15)
      have HB15 := hid (HB14.out.trans (hB15.mono HB14.out.size))
      clear hJ hB15 HI HD14 HP14 HB14
      generalize psOf fs (ls.take n) = pk at *
      go_wp2
      go_loopw [19, 18] (fun i ap wr => ∃ (j q : Nat), j ≤ 5 ∧ i = .int .i64 (j : Int) ∧ ap = .int .i64 (q : Int) ∧ q ≤ (if N < j then 1 else 0) ∧ Below w15.heap.size w15 wr) (fun i _ _ => 5 - (intOf i).toNat)
      case atStart => exact ⟨0, 0, by omega, rfl, rfl, by simp, Below.refl _ _⟩
      case round =>
        obtain ⟨j, q, hj, rfl, rfl, hq, hB⟩ := hrel
        have HB := hid hB
        clear hB
        by_cases hj5 : j < 5
        · have hjp : j < pk.length := by rw [Hpk.out]; exact hj5
          have hjq : j < (pk.set N x).length := by rw [Hpn.out]; exact hj5
          obtain ⟨a1, e1, k1, hb1, hl1⟩ := (HI15.out.below HB.out).cell (by rw [Hpk.out]) j hjp
          obtain ⟨a2, e2, k2, hb2, hl2⟩ := (HJ.out.below HB.out).cell (by rw [Hpn.out]) j hjq
          have f0 : (0 : Int) ≤ (j : Int) := by omega
          have f1 : (j : Int) < 5 := by omega
          have l1 : (pk[j]).length = 256 := Hfk.out _ (List.getElem_mem hjp)
          have l2 : ((pk.set N x)[j]).length = 256 := by
            rw [List.getElem_set]
            split
            · exact Hx.out
            · exact l1
          have Hs := hid (sameBytes_any pk[j] (pk.set N x)[j] a1 a2 e1 e2 wr.drew hb1 hb2 (by omega) (by omega))
          have Hdj : Hid (pk[j] ≠ (pk.set N x)[j] → N = j) := fun hne => by
            rcases Nat.decEq N j with h | h
            · exact absurd (List.getElem_set_ne h _).symm hne
            · exact h
          rw [l1, l2] at Hs
          rw [l1] at k1
          rw [l2] at k2
          clear hb1 hb2 l1 l2 hl1 hl2
          by_cases hpq : pk[j] = (pk.set N x)[j]
          · rw [decide_eq_true hpq] at Hs
            clear hpq Hdj hjp hjq
            go_wp2
            go_region_held3 (fun w9 => w9.cell? ⟨bx, j, none⟩ = some (.slice a1 256 e1) ∧ w9.cell? ⟨by_, j, none⟩ = some (.slice a2 256 e2)) (first | exact ⟨k1, k2⟩ | exact z.out)
              (first | ((go_at_call 16; refine Hs.out.mono ?_; rintro e w4 ⟨rfl, hb4'⟩; have hb4 := undrew hb4'; have z := hid (And.intro ((hb4.cell (World.block_lt_of_cell? _ _ k1)).trans k1) ((hb4.cell (World.block_lt_of_cell? _ _ k2)).trans k2)); have Hb4 := hid hb4; clear hb4 hb4')))
            have HB4 := hid (HB.out.trans (Hb4.out.mono HB.out.size))
            clear k1 k2 z Hb4 Hs
            go_wp2
            go_roundw
            case rel => exact ⟨j + 1, q, by omega, by go_num, rfl, by split <;> split at hq <;> omega, HB4.out⟩
            case measure => simp [intOf]; omega
          · have hNj := Hdj.out hpq
            rw [decide_eq_false hpq] at Hs
            clear hpq hjp hjq Hdj
            subst hNj
            have hq0 : q = 0 := by split at hq <;> omega
            subst hq0
            clear hq
            go_wp2
            go_region_held3 (fun w9 => w9.cell? ⟨bx, N, none⟩ = some (.slice a1 256 e1) ∧ w9.cell? ⟨by_, N, none⟩ = some (.slice a2 256 e2)) (first | exact ⟨k1, k2⟩ | exact z.out)
              (first | ((go_at_call 16; refine Hs.out.mono ?_; rintro e w4 ⟨rfl, hb4'⟩; have hb4 := undrew hb4'; have z := hid (And.intro ((hb4.cell (World.block_lt_of_cell? _ _ k1)).trans k1) ((hb4.cell (World.block_lt_of_cell? _ _ k2)).trans k2)); have Hb4 := hid hb4; clear hb4 hb4')))
            have HB4 := hid (HB.out.trans (Hb4.out.mono HB.out.size))
            have Hwr := hid (writes_ok (HP15.out.below HB4.out).pair.disk (by rw [Hcl.out]; omega))
            rw [Hcl.out] at Hwr
            clear k1 k2 z Hb4 Hs
            go_wp2_with (fail)
            refine Hwr.out.mono ?_
            rintro e w5 ⟨bw, rfl, hW, hB5⟩
            have kn := (hW.cellAt n (by omega)).trans Hwn.out
            have HB5 := hid (HB4.out.trans (hB5.mono HB4.out.size))
            have f2 : (0 : Int) ≤ (n : Int) := by omega
            have f3 : (n : Int) < (ls.length : Int) := by omega
            have f4 : ((N : Int) != (N : Int)) = false := by simp
            clear hW hB5 Hwr
            go_wp2
            go_roundw
            case rel => exact ⟨N + 1, 1, by omega, by go_num, by go_num, by rw [if_pos (by omega)]; omega, HB5.out⟩
            case measure => simp [intOf]; omega
        · have hj' : j = 5 := by omega
          subst hj'
          have hq1 : (q : Int) ≤ 1 := by split at hq <;> omega
          have HBf := hid (HB15.out.trans (HB.out.mono HB15.out.size))
          clear hq
          go_wp2
          go_ret
          exact ⟨ret_bool (by simp), HBf.out⟩
end Go.Proofs.Ytgiifodhofdpaaa
