/- The walk of BlockLast. -/
import Derived.Test.YtgiifodhofdpaaaBImage
namespace Go.Proofs.Ytgiifodhofdpaaa
open Go.RowKit
set_option linter.unusedVariables false

theorem wPs_ok {ps : List (List UInt8)} {N : Int} {x : List UInt8} (h : wErr ps.length N x.length = 0) : ∃ n : Nat, N = (n : Int) ∧ n < ps.length ∧ x.length = 256 ∧ wPs ps N x = ps.set n x := by
  have h0 := h
  unfold wErr at h
  split at h
  · cases h
  · split at h
    · cases h
    · refine ⟨N.toNat, by omega, by omega, by omega, ?_⟩
      unfold wPs
      rw [if_pos h0]
theorem wPs_bad {ps : List (List UInt8)} {N : Int} {x : List UInt8} (h : wErr ps.length N x.length ≠ 0) : wPs ps N x = ps := by unfold wPs; rw [if_neg h]
theorem ImgAt.keep {w w' : World} {B : Nat} {V : Value} {vs : List Value} {ps : List (List UInt8)} (h : ImgAt w B V vs ps) (hk : ∀ k, B ≤ k → k < w.heap.size → w'.heap[k]? = w.heap[k]?) : ImgAt w' B V vs ps :=
  ⟨own_keep h.row fun k e => hk k (h.row.lt k e).1 (h.row.lt k e).2, h.vlen, fun i hi hi' => own_keep (h.rows i hi hi') fun k e => hk k ((h.rows i hi hi').lt k e).1 ((h.rows i hi hi').lt k e).2⟩

set_option maxHeartbeats 3200000 in
set_option maxRecDepth 20000 in
theorem blockLast_walk (l : List (Int × Int × UInt8)) (a : Option Addr) (ca : Nat) {w : World} (hl : DeedsIn w a l) (N Lg : Int) (by8 : UInt8) :
    Calls Try.prog 8 #[.slice a l.length ca, .agg #[.int .i64 N, .int .i64 Lg, .int .u8 (by8.toNat : Int)]] w fun e w' => e = .returned (.bool true) ∧ Below w.heap.size w w' := by
  have Hl := hid hl
  clear hl
  go_enter Try.func8, Try.ntmps8
  go_wp2_with (fail)
  obtain ⟨W, hW⟩ : ∃ W, W = w.alloc (.cells #[.int .i64 N, .int .i64 Lg, .int .u8 (by8.toNat : Int)] 48) := ⟨_, rfl⟩
  have HX : Hid (W.heap[w.heap.size]? = some (deedC N Lg by8)) := by rw [hW]; exact heap_alloc_new w _
  have HS : Hid (W.heap.size = w.heap.size + 1) := by rw [hW]; exact hid (by simp)
  have HB0 : Hid (Below w.heap.size w W) := by rw [hW]; exact (Below.refl _ w).alloc (Nat.le_refl _) _
  have HlW := hid (Hl.out.below HB0.out)
  rw [← hW]
  clear hW
  refine (play_ok 5 (by omega) (by omega) W l a ca HlW.out).mono ?_
  rintro e w1 ⟨d, g, cap, v, r, F, L, vs, us, ls, rfl, hP, hls, hB1⟩
  have HP := hid hP.pair.disk
  have HB1 := hid hB1
  have Hpl := hid (show (psOf (List.replicate 5 zpage) ls).length = 5 by rw [psOf_length, List.length_replicate])
  have Hcl := hid (show (chOf (List.replicate 5 zpage) ls).length ≤ 40 by rw [chOf_length]; exact hls)
  have Hfull := hid HP.out.full
  clear hP hB1
  generalize psOf (List.replicate 5 zpage) ls = ps at *
  generalize chOf (List.replicate 5 zpage) ls = ch at *
  go_wp2_with (fail)
  refine (live_any w1).mono ?_
  rintro e w2 ⟨rfl, hB2⟩
  have HP2 := hid (HP.out.below hB2)
  have HB2 := hid (HB1.out.trans (hB2.mono HB1.out.size))
  clear hB2 HP HB1
  go_wp2_with (fail)
  refine (image_ok HP2.out (by rw [Hpl.out]; omega) (by rw [Hpl.out]; omega)).mono ?_
  rintro e w3 ⟨b1, vs1, rfl, hI, hB3⟩
  rw [Hpl.out]
  have HI := hid hI
  have HP3 := hid (HP2.out.below hB3)
  have HB3 := hid (HB2.out.trans (hB3.mono HB2.out.size))
  have Hd2 := hid HP2.out.lts
  have hsz3 := hB3.size
  clear hI hB3 HP2 HB2
  have c0 := cell_of_row _ _ 0 _ _ _ ((HB3.out.block _ (by have := HS.out; omega)).trans HX.out)
  have c1 := cell_of_row _ _ 1 _ _ _ ((HB3.out.block _ (by have := HS.out; omega)).trans HX.out)
  have c2 := cell_of_row _ _ 2 _ _ _ ((HB3.out.block _ (by have := HS.out; omega)).trans HX.out)
  simp only [List.getElem?_toArray, List.getElem?_cons_zero, List.getElem?_cons_succ] at c0 c1 c2
  go_wp2_with (fail)
  refine (bytes_any N Lg by8 w3).mono ?_
  rintro e w4 ⟨vb, rfl, hvb, hb4⟩
  generalize deedOf Lg by8 = x at *
  obtain ⟨ab, cb, rfl, hBy, hcb⟩ := bytes_of_own hvb
  have HV := hid hvb
  have HI4 := hid (HI.out.below hb4)
  have HP4 := hid (HP3.out.below hb4)
  have HB4 := hid (HB3.out.trans (hb4.mono HB3.out.size))
  have d0 := (hb4.cell (World.block_lt_of_cell? _ _ c0)).trans c0
  have hsz4 := hb4.size
  have Hd3 := hid HP3.out.lts
  clear hvb hb4 hBy hcb HI HP3 c0 c1 c2
  go_wp2_with (fail)
  refine (write_any HP4.out N x HV.out Hd3.out (by have := Hcl.out; omega) HB4.out.size).mono ?_
  rintro e w5 ⟨rfl, v5, hD5, hv5, ho5⟩
  have HD5 := hid hD5
  have HB5 := hid (HB4.out.trans (ho5.below HP4.out _ (Nat.le_refl _) HB4.out.size))
  have HI5 := hid (HI4.out.keep fun k h1 h2 => ho5.block k h2 (by have := Hd2.out.1; omega) (by have := Hd2.out.2.1; omega) (fun e => by have := Hd2.out.2.2 k e.symm; omega))
  have HV5 := hid (own_keep HV.out fun k e => ho5.block k (HV.out.lt k e).2 (by have := (HV.out.lt k e).1; have := Hd3.out.1; omega) (by have := (HV.out.lt k e).1; have := Hd3.out.2.1; omega) (fun e' => by have := (HV.out.lt k e).1; have := Hd3.out.2.2 k e'.symm; omega))
  rw [Hpl.out]
  have Hp2 := hid (show (wPs ps N x).length = 5 by rw [wPs_length, Hpl.out])
  clear hD5 hv5 ho5 HP4 HB4 HI4 HV HB3 d0
  go_wp2_with (fail)
  refine (image_ok HD5.out (by rw [Hp2.out]; omega) (by rw [Hp2.out]; omega)).mono ?_
  rintro e w6 ⟨b2, vs2, rfl, hI2, hB6⟩
  rw [Hp2.out]
  have HJ := hid hI2
  have HI6 := hid (HI5.out.below hB6)
  have HV6 := hid (own_below HV5.out hB6)
  have HB6 := hid (HB5.out.trans (hB6.mono HB5.out.size))
  clear hI2 hB6 HI5 HV5 HB5 HD5
  have c0 := cell_of_row _ _ 0 _ _ _ ((HB6.out.block _ (by have := HS.out; omega)).trans HX.out)
  simp only [List.getElem?_toArray, List.getElem?_cons_zero] at c0
  obtain ⟨E, hE⟩ : ∃ E : Nat, E = wErr 5 N x.length := ⟨_, rfl⟩
  rw [← hE]
  by_cases h0 : E = 0
  · have hok : wErr ps.length N x.length = 0 := by rw [Hpl.out, ← hE]; exact h0
    obtain ⟨n, hNn, hn, hx, hps⟩ := wPs_ok hok
    subst hNn
    rw [hx]
    rw [hps] at HJ
    rw [Hpl.out] at hn
    have Hx := hid hx
    subst h0
    have Hn := hid hn
    clear hE hok hps hx hn Hp2
    go_wp2
    go_loopw [12] (fun i wr => ∃ k : Nat, k ≤ 5 ∧ i = .int .i64 (k : Int) ∧ Below w6.heap.size w6 wr) (fun i _ => 5 - (intOf i).toNat)
    case atStart => exact ⟨0, by omega, rfl, Below.refl _ _⟩
    case round =>
      obtain ⟨k, hk, rfl, hB⟩ := hrel
      have HB := hid hB
      have e0 := (hB.cell (World.block_lt_of_cell? _ _ c0)).trans c0
      clear hB c0
      by_cases hlt : k < 5
      · have f0 : (0 : Int) ≤ (k : Int) := by omega
        have f1 : (k : Int) < 5 := by omega
        have hk1 : k < ps.length := by rw [Hpl.out]; exact hlt
        obtain ⟨a1, cc1, k1, hB1, hl1⟩ := (HI6.out.below HB.out).cell (by rw [Hpl.out]) k hk1
        obtain ⟨a2, cc2, k2, hB2, hl2⟩ := (HJ.out.below HB.out).cell (by rw [List.length_set, Hpl.out]) k (by rw [List.length_set, Hpl.out]; exact hlt)
        by_cases hkn : k = n
        · subst hkn
          simp only [List.getElem_set_self] at k2 hB2 hl2
          rw [Hx.out] at k2
          have HVr := hid (own_below HV6.out HB.out)
          obtain ⟨ab', cb', hv', hBb, _⟩ := bytes_of_own HVr.out
          have ea : ab' = ab := by cases hv'; rfl
          subst ea
          have Hs := hid (sameBytes_any x x a2 ab' cc2 cb wr hB2 hBb (by rw [Hx.out]; omega) (by rw [Hx.out]; omega))
          rw [Hx.out] at Hs
          simp only [decide_true] at Hs
          clear hB1 hB2 hBb hv' hl1 hl2
          generalize (ps[k]).length = lk at k1
          have g1 : ((k : Int) == (k : Int)) = true := by simp
          go_wp2_with (fail)
          refine Hs.out.mono ?_
          rintro e w7 ⟨rfl, hB7⟩
          have HB7 := hid (HB.out.trans (hB7.mono HB.out.size))
          clear hB7
          go_wp2
          go_roundw
          case rel => exact ⟨k + 1, by omega, by go_num, HB7.out⟩
          case measure => simp [intOf]; omega
        · simp only [List.getElem_set_ne (Ne.symm hkn)] at k2 hB2 hl2
          have Hs := hid (sameBytes_any ps[k] ps[k] a2 a1 cc2 cc1 wr hB2 hB1 (by rw [Hfull.out _ (List.getElem_mem _)]; omega) (by rw [Hfull.out _ (List.getElem_mem _)]; omega))
          simp only [decide_true] at Hs
          clear hB1 hB2 hl1 hl2
          generalize (ps[k]).length = lk at k1 k2 Hs
          have g1 : ((k : Int) == (n : Int)) = false := by simp; omega
          have g2 : ¬ (k : Int) = (n : Int) := by omega
          clear hkn
          go_wp2_with (fail)
          refine Hs.out.mono ?_
          rintro e w7 ⟨rfl, hB7⟩
          have HB7 := hid (HB.out.trans (hB7.mono HB.out.size))
          clear hB7
          go_wp2
          go_roundw
          case rel => exact ⟨k + 1, by omega, by go_num, HB7.out⟩
          case measure => simp [intOf]; omega
      · have hk5 : k = 5 := by omega
        subst hk5
        have HBf := hid (HB6.out.trans (HB.out.mono HB6.out.size))
        have g1 : (0 : Int) ≤ (n : Int) := by omega
        have g2 : (n : Int) < 5 := by have := Hn.out; omega
        go_wp2
        go_ret
        exact ⟨ret_bool (by simp), HB0.out.trans (HBf.out.mono (by have := HS.out; omega))⟩
  · have hbad : wErr ps.length N x.length ≠ 0 := by rw [Hpl.out, ← hE]; exact h0
    rw [wPs_bad hbad] at HJ
    have e1 : ((E : Int) == 0) = false := by simp; omega
    have e2 : ¬ (E : Int) = 0 := by omega
    have hwhy : N < 0 ∨ (0 ≤ N ∧ 5 ≤ N) ∨ (0 ≤ N ∧ N < 5 ∧ x.length ≠ 256) := by
      rw [Hpl.out] at hbad
      unfold wErr at hbad
      by_cases q1 : N < 0 ∨ ((5 : Nat) : Int) ≤ N
      · omega
      · rw [if_neg q1] at hbad
        by_cases q2 : x.length = 256
        · rw [if_neg (by omega)] at hbad; omega
        · omega
    have Hwhy := hid hwhy
    clear hE hbad h0 Hp2 hwhy
    go_wp2
    go_loopw [12] (fun i wr => ∃ k : Nat, k ≤ 5 ∧ i = .int .i64 (k : Int) ∧ Below w6.heap.size w6 wr) (fun i _ => 5 - (intOf i).toNat)
    case atStart => exact ⟨0, by omega, rfl, Below.refl _ _⟩
    case round =>
      obtain ⟨k, hk, rfl, hB⟩ := hrel
      have HB := hid hB
      have e0 := (hB.cell (World.block_lt_of_cell? _ _ c0)).trans c0
      clear hB c0
      by_cases hlt : k < 5
      · have f0 : (0 : Int) ≤ (k : Int) := by omega
        have f1 : (k : Int) < 5 := by omega
        have hk1 : k < ps.length := by rw [Hpl.out]; exact hlt
        obtain ⟨a1, cc1, k1, hB1, hl1⟩ := (HI6.out.below HB.out).cell (by rw [Hpl.out]) k hk1
        obtain ⟨a2, cc2, k2, hB2, hl2⟩ := (HJ.out.below HB.out).cell (by rw [Hpl.out]) k (by rw [Hpl.out]; exact hlt)
        have Hs := hid (sameBytes_any ps[k] ps[k] a2 a1 cc2 cc1 wr hB2 hB1 (by rw [Hfull.out _ (List.getElem_mem _)]; omega) (by rw [Hfull.out _ (List.getElem_mem _)]; omega))
        simp only [decide_true] at Hs
        clear hB1 hB2 hl1 hl2
        generalize (ps[k]).length = lk at k1 k2 Hs
        go_wp2_with (fail)
        refine Hs.out.mono ?_
        rintro e w7 ⟨rfl, hB7⟩
        have HB7 := hid (HB.out.trans (hB7.mono HB.out.size))
        clear hB7
        go_wp2
        go_roundw
        case rel => exact ⟨k + 1, by omega, by go_num, HB7.out⟩
        case measure => simp [intOf]; omega
      · have hk5 : k = 5 := by omega
        subst hk5
        have HBf := hid (HB6.out.trans (HB.out.mono HB6.out.size))
        rcases Hwhy.out with q | ⟨q0, q⟩ | ⟨q0, q, q2⟩
        · go_wp2
          go_ret
          exact ⟨ret_bool (by simp), HB0.out.trans (HBf.out.mono (by have := HS.out; omega))⟩
        · go_wp2
          go_ret
          exact ⟨ret_bool (by simp), HB0.out.trans (HBf.out.mono (by have := HS.out; omega))⟩
        · have q3 : ((x.length : Int) == 256) = false := by simp; omega
          have q4 : ¬ (x.length : Int) = 256 := by omega
          clear q2
          go_wp2
          go_ret
          exact ⟨ret_bool (by simp), HB0.out.trans (HBf.out.mono (by have := HS.out; omega))⟩
end Go.Proofs.Ytgiifodhofdpaaa
