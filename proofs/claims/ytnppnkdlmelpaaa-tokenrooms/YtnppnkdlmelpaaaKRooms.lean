/- TokenRooms, walked. (Printed by gen/krooms.py.) -/
import Derived.Test.YtnppnkdlmelpaaaKLive
namespace Go.Proofs.Ytnppnkdlmelpaaa
open Go.RowKit Go.Maps Go.Sort Go.Shelf
set_option linter.unusedVariables false
set_option maxRecDepth 20000

theorem wf_u8 {n : Int} (h : (Lit.int .u8 n).wf = true) : 0 ≤ n ∧ n ≤ 255 := by simpa [Lit.wf, IntKind.min, IntKind.max, IntKind.signed, IntKind.bits] using h
def rmF (i : Int) : Fam.Sess := ⟨i, 7, ⟨#[99]⟩, 1, 1⟩
def rmK (i : Int) : Tok.Sess := ⟨i, i, 1, 50⟩
def rmT1 : Sto := ⟨0, 2, [rmF 1], 2, [rmK 1]⟩
def rmT2 : Sto := ⟨0, 3, [rmF 1, rmF 2], 3, [rmK 1, rmK 2]⟩
/-- the store behind so many grants -/
def rmT : Nat → Sto
  | 0 => sto0
  | 1 => rmT1
  | _ => rmT2
theorem rm_g0 : tGrant sto0 7 ⟨#[99]⟩ 1 0 = (rmF 1, rmK 1, 0, rmT1) := by
  have h : grantErr sto0 7 ⟨#[99]⟩ 0 = 0 := by decide +kernel
  unfold tGrant
  rw [if_neg (by simp [h])]
  rfl
theorem rm_g1 : tGrant rmT1 7 ⟨#[99]⟩ 1 0 = (rmF 2, rmK 2, 0, rmT2) := by
  have h : grantErr rmT1 7 ⟨#[99]⟩ 0 = 0 := by decide +kernel
  unfold tGrant
  rw [if_neg (by simp [h])]
  rfl
theorem rm_g2 : tGrant rmT2 7 ⟨#[99]⟩ 1 0 = (Fam.sess0, Tok.sess0, 23, rmT2) := by
  have h : grantErr rmT2 7 ⟨#[99]⟩ 0 = 23 := by decide +kernel
  unfold tGrant
  rw [if_pos (by simp [h]), h]
theorem rmT1_ok : StoOk rmT1 := by have := tGrant_ok sto0_ok 7 ⟨#[99]⟩ 1 0 (by decide); rw [rm_g0] at this; exact this
theorem rmT2_ok : StoOk rmT2 := by have := tGrant_ok rmT1_ok 7 ⟨#[99]⟩ 1 0 (by decide); rw [rm_g1] at this; exact this
theorem rmT_ok : ∀ k, StoOk (rmT k)
  | 0 => sto0_ok
  | 1 => rmT1_ok
  | _ + 2 => rmT2_ok
theorem rmT_len : ∀ k, (rmT k).fs.length ≤ 1000000000
  | 0 => by decide
  | 1 => by decide
  | _ + 2 => (by decide : rmT2.fs.length ≤ 1000000000)
theorem rm_step (k : Nat) : (tGrant (rmT k) 7 ⟨#[99]⟩ 1 0).2.2 = (if k < 2 then 0 else 23, rmT (k + 1)) := by
  match k with
  | 0 => show (tGrant sto0 7 ⟨#[99]⟩ 1 0).2.2 = _; rw [rm_g0]; rfl
  | 1 => show (tGrant rmT1 7 ⟨#[99]⟩ 1 0).2.2 = _; rw [rm_g1]; rfl
  | j + 2 => show (tGrant rmT2 7 ⟨#[99]⟩ 1 0).2.2 = _; rw [rm_g2, if_neg (by omega)]; rfl

set_option maxHeartbeats 6400000 in
theorem tokenRooms_walk (n : Int) (hn : (Lit.int .u8 n).wf = true) (k : Int) (hk : (Lit.int .u8 k).wf = true) (w : World) :
    Calls Try.prog 5 #[.int .u8 n, .int .u8 k] w fun e w' => e = .returned (.bool true) ∧ Below w.heap.size w w' := by
  have hn0 := wf_u8 hn
  have hk0 := wf_u8 hk
  obtain ⟨m, hm⟩ : ∃ m : Nat, n % 6 = m := ⟨(n % 6).toNat, by omega⟩
  have hm6 : m < 6 := by omega
  have HN := hid (new_any w)
  clear hn hk
  go_enter Try.func5, Try.ntmps5
  go_wp2_with (first
    | (go_at_call 7; refine HN.out.mono ?_; rintro e w1 ⟨p, mf, mt, rfl, hT1, hb1⟩; have H1 := hid hT1; have HB1 := hid hb1; clear hT1 hb1)
    | (go_at_call 9; refine (lawLive_any _).mono ?_; rintro e w2 ⟨rfl, hb2⟩; have H2 := hid (H1.out.below hb2); have HB2 := hid (HB1.out.trans (hb2.mono HB1.out.size)); clear hb2))
  have HM : Hid (∀ j, Mine p mf mt j → w.heap.size ≤ j) := fun j hj => by
    have := H1.out.bp
    have := H1.out.bf
    have := H1.out.bt
    unfold Mine at hj
    omega
  go_loopw [6] (fun i wr => ∃ (j n1 n2 : Nat), j ≤ m ∧ n1 ≤ j ∧ n2 ≤ j ∧ i = .int .i64 j ∧ StoAt wr w.heap.size p mf mt n1 n2 (rmT j) ∧ Below w.heap.size w wr)
    (fun i _ => m - (intOf i).toNat)
  case atStart => exact ⟨0, 0, 0, Nat.zero_le _, Nat.le_refl _, Nat.le_refl _, rfl, H2.out, HB2.out⟩
  case round =>
    obtain ⟨j, n1, n2, hj, hn1, hn2, rfl, hT, hb⟩ := hrel
    have HT := hid hT
    have Hb := hid hb
    clear hT hb
    by_cases hlt : j < m
    · have g1 : decide ((j : Int) < (m : Int)) = true := by simp; omega
      have HY := hid (fun (W : World) (h : StoAt W w.heap.size p mf mt n1 n2 (rmT j)) => by
        have := grant_any h (rmT_ok j) (rmT_len j) (by omega) (by omega) 7 ⟨#[99]⟩ 1 0 (by decide)
        rw [rm_step j] at this
        exact this)
      obtain ⟨⟨ga, gb, gc, gd, ge⟩, hgf⟩ : ∃ x, x = (tGrant (rmT j) 7 ⟨#[99]⟩ 1 0).1 := ⟨_, rfl⟩
      obtain ⟨⟨ha, hb, hc, hd⟩, hgk⟩ : ∃ x, x = (tGrant (rmT j) 7 ⟨#[99]⟩ 1 0).2.1 := ⟨_, rfl⟩
      rw [← hgf, ← hgk] at HY
      unfold Fam.sessV Tok.sessV at HY
      dsimp only at HY
      clear hgf hgk
      by_cases h2 : j < 2
      · have g2 : decide ((j : Int) < 2) = true := by simp; omega
        rw [if_pos h2] at HY
        go_wp2_with (go_at_call 13; refine (HY.out _ HT.out).mono ?_; rintro e w5 ⟨rfl, ⟨m1, m2, hm1, hm2, h5⟩, o5⟩; have H5 := hid h5; have O5 := hid o5; clear h5 o5)
        have tb := two_blocks w5 #[.int .i64 ga, .int .i64 gb, .string gc, .int .u8 gd, .int .i64 ge] #[.int .i64 ha, .int .i64 hb, .int .u8 hc, .int .i64 hd] 39 34
        have k5 := Hb.out.trans (O5.out.below Hb.out.size HM.out)
        exact ⟨⟨j + 1, m1, m2, by omega, by omega, by omega, by simp, H5.out.below tb.2.2, k5.trans (tb.2.2.mono k5.size)⟩, by simp [intOf]; omega⟩
      · have g2 : decide ((j : Int) < 2) = false := by simp; omega
        rw [if_neg h2] at HY
        go_wp2_with (go_at_call 13; refine (HY.out _ HT.out).mono ?_; rintro e w5 ⟨rfl, ⟨m1, m2, hm1, hm2, h5⟩, o5⟩; have H5 := hid h5; have O5 := hid o5; clear h5 o5)
        have tb := two_blocks w5 #[.int .i64 ga, .int .i64 gb, .string gc, .int .u8 gd, .int .i64 ge] #[.int .i64 ha, .int .i64 hb, .int .u8 hc, .int .i64 hd] 39 34
        have k5 := Hb.out.trans (O5.out.below Hb.out.size HM.out)
        exact ⟨⟨j + 1, m1, m2, by omega, by omega, by omega, by simp, H5.out.below tb.2.2, k5.trans (tb.2.2.mono k5.size)⟩, by simp [intOf]; omega⟩
    · obtain rfl : j = m := by omega
      have g1 : decide ((j : Int) < (j : Int)) = false := by simp
      have NB : Hid (n1 ≤ 6 ∧ n2 ≤ 6) := ⟨by omega, by omega⟩
      clear hn1 hn2 hlt
      match j, hm with
      | 0, hm =>
        have HF := hid (fun (W : World) (n1 n2 : Nat) (h : StoAt W w.heap.size p mf mt n1 n2 sto0) => families_any h sto0_ok (by decide) 7)
        have HT0 : Hid (StoAt wr w.heap.size p mf mt n1 n2 sto0) := HT.out
        go_wp2_with (go_at_call 14; refine (HF.out _ _ _ HT0.out).mono ?_; rintro e w9 ⟨v9, rfl, hrow9, hb9⟩; obtain ⟨a9, c9, rfl⟩ : ∃ a9 c9, v9 = .slice a9 0 c9 := (by
          rcases hrow9.2 with ⟨rfl, h0⟩ | ⟨gg, cp, cur, rfl, _⟩
          · exact ⟨none, 0, by rw [show (0 : Nat) = 0 from h0]⟩
          · exact ⟨_, cp, rfl⟩); have K4 := hid (Hb.out.trans (hb9.mono Hb.out.size)); clear hrow9 hb9)
        go_ret
        exact ⟨rfl, K4.out⟩
      | 1, hm =>
        have HT' : Hid (StoAt wr w.heap.size p mf mt n1 n2 rmT1) := HT.out
        clear HT
        have HT := HT'
        have kk : k % 1 = 0 := by omega
        have HF := hid (fun (W : World) (n1 n2 : Nat) (h : StoAt W w.heap.size p mf mt n1 n2 rmT1) => families_any h rmT1_ok (by decide) 7)
        have HE := hid (fun (W : World) (n1 n2 : Nat) (h : StoAt W w.heap.size p mf mt n1 n2 rmT1) => by
          have := end_any h rmT1_ok (by decide) (by decide) 1
          rw [show (fFind rmT1.nf rmT1.fs 1).2 = 0 from rfl] at this
          exact this)
        have HF2 := hid (fun (W : World) (n1 n2 : Nat) (h : StoAt W w.heap.size p mf mt n1 n2 (tEnd rmT1 1)) => families_any h (tEnd_ok rmT1_ok 1) (by decide) 7)
        have HG7 := hid (fun (W : World) (n1 n2 : Nat) (hn1 : n1 ≤ 6) (hn2 : n2 ≤ 6) (h : StoAt W w.heap.size p mf mt n1 n2 (tEnd rmT1 1)) => by
          have := grant_any h (tEnd_ok rmT1_ok 1) (by decide) (by omega) (by omega) 7 ⟨#[99]⟩ 1 0 (by decide)
          rw [show (tGrant (tEnd rmT1 1) 7 ⟨#[99]⟩ 1 0).2.2.1 = 0 by decide +kernel] at this
          exact this)
        have HG8 := hid (fun (W : World) (n1 n2 : Nat) (hn1 : n1 ≤ 7) (hn2 : n2 ≤ 7) (h : StoAt W w.heap.size p mf mt n1 n2 (tGrant (tEnd rmT1 1) 7 ⟨#[99]⟩ 1 0).2.2.2) => by
          have := grant_any h (tGrant_ok (tEnd_ok rmT1_ok 1) 7 ⟨#[99]⟩ 1 0 (by decide)) (by decide +kernel) (by omega) (by omega) 8 ⟨#[99]⟩ 1 0 (by decide)
          rw [show (tGrant (tGrant (tEnd rmT1 1) 7 ⟨#[99]⟩ 1 0).2.2.2 8 ⟨#[99]⟩ 1 0).2.2.1 = 0 by decide +kernel] at this
          exact this)
        obtain ⟨⟨ga, gb, gc, gd, ge⟩, hgf⟩ : ∃ x, x = (tGrant (tEnd rmT1 1) 7 ⟨#[99]⟩ 1 0).1 := ⟨_, rfl⟩
        obtain ⟨⟨ha, hb, hc, hd⟩, hgk⟩ : ∃ x, x = (tGrant (tEnd rmT1 1) 7 ⟨#[99]⟩ 1 0).2.1 := ⟨_, rfl⟩
        rw [← hgf, ← hgk] at HG7
        obtain ⟨⟨ia, ib, ic, id, ie⟩, hgf2⟩ : ∃ x, x = (tGrant (tGrant (tEnd rmT1 1) 7 ⟨#[99]⟩ 1 0).2.2.2 8 ⟨#[99]⟩ 1 0).1 := ⟨_, rfl⟩
        obtain ⟨⟨ja, jb, jc, jd⟩, hgk2⟩ : ∃ x, x = (tGrant (tGrant (tEnd rmT1 1) 7 ⟨#[99]⟩ 1 0).2.2.2 8 ⟨#[99]⟩ 1 0).2.1 := ⟨_, rfl⟩
        rw [← hgf2, ← hgk2] at HG8
        unfold Fam.sessV Tok.sessV at HG7 HG8
        dsimp only at HG7 HG8
        clear hgf hgk hgf2 hgk2
        skip
        go_wp2_with (first
          | (go_at_call 14; refine (HF2.out _ _ _ H5.out).mono ?_; rintro e w9 ⟨v9, rfl, hrow9, hb9⟩; obtain ⟨a9, c9, rfl⟩ : ∃ a9 c9, v9 = .slice a9 0 c9 := (by
                  rcases hrow9.2 with ⟨rfl, h0⟩ | ⟨gg, cp, cur, rfl, _⟩
                  · exact ⟨none, 0, by rw [show (0 : Nat) = 0 from h0]⟩
                  · exact ⟨_, cp, rfl⟩); have H6 := hid (H5.out.below hb9); have K6 := hid (K5.out.trans (hb9.mono K5.out.size)); clear hrow9 hb9)
          | (go_at_call 14; refine (HF.out _ _ _ HT.out).mono ?_; rintro e w9 ⟨v9, rfl, hrow9, hb9⟩; obtain ⟨a9, c9, rfl⟩ : ∃ a9 c9, v9 = .slice a9 1 c9 := (by
                  rcases hrow9.2 with ⟨rfl, h0⟩ | ⟨gg, cp, cur, rfl, _⟩
                  · exact ⟨none, 0, by rw [show (1 : Nat) = 0 from h0]⟩
                  · exact ⟨_, cp, rfl⟩); have H4 := hid (HT.out.below hb9); have K4 := hid (Hb.out.trans (hb9.mono Hb.out.size)); clear hrow9 hb9)
          | (go_at_call 15; refine (HE.out _ _ _ H4.out).mono ?_; rintro e w5 ⟨rfl, h5, o5⟩; have H5 := hid h5; have K5 := hid (K4.out.trans (o5.below K4.out.size HM.out)); clear h5 o5)
          | (go_at_call 13; refine (HG8.out _ _ _ NB7.out.1 NB7.out.2 S7.out).mono ?_; rintro e w8 ⟨rfl, ⟨m3, m4, hm3, hm4, h8⟩, o8⟩; have K8 := hid (K7.out.trans (o8.below K7.out.size HM.out)); clear h8 o8 hm3 hm4)
          | (go_at_call 13; refine (HG7.out _ _ _ NB.out.1 NB.out.2 H6.out).mono ?_; rintro e w7 ⟨rfl, ⟨m1, m2, hm1, hm2, h7⟩, o7⟩; have tb := two_blocks w7 #[.int .i64 ga, .int .i64 gb, .string gc, .int .u8 gd, .int .i64 ge] #[.int .i64 ha, .int .i64 hb, .int .u8 hc, .int .i64 hd] 39 34; have S7 := hid (h7.below tb.2.2); have k7 := K6.out.trans (o7.below K6.out.size HM.out); have K7 := hid (k7.trans (tb.2.2.mono k7.size)); have nb := NB.out; have NB7 : Hid (m1 ≤ 7 ∧ m2 ≤ 7) := ⟨by omega, by omega⟩; clear h7 o7 hm1 hm2 tb k7 nb))
        all_goals go_ret
        have tb := two_blocks w8 #[.int .i64 ia, .int .i64 ib, .string ic, .int .u8 id, .int .i64 ie] #[.int .i64 ja, .int .i64 jb, .int .u8 jc, .int .i64 jd] 39 34
        exact ⟨rfl, K8.out.trans (tb.2.2.mono K8.out.size)⟩
        
      | i + 2, hm =>
        have HT' : Hid (StoAt wr w.heap.size p mf mt n1 n2 rmT2) := HT.out
        clear HT
        have HT := HT'
        by_cases kk : k % 2 = 0
        · have HF := hid (fun (W : World) (n1 n2 : Nat) (h : StoAt W w.heap.size p mf mt n1 n2 rmT2) => families_any h rmT2_ok (by decide) 7)
          have HE := hid (fun (W : World) (n1 n2 : Nat) (h : StoAt W w.heap.size p mf mt n1 n2 rmT2) => by
            have := end_any h rmT2_ok (by decide) (by decide) 1
            rw [show (fFind rmT2.nf rmT2.fs 1).2 = 0 from rfl] at this
            exact this)
          have HF2 := hid (fun (W : World) (n1 n2 : Nat) (h : StoAt W w.heap.size p mf mt n1 n2 (tEnd rmT2 1)) => families_any h (tEnd_ok rmT2_ok 1) (by decide) 7)
          have HG7 := hid (fun (W : World) (n1 n2 : Nat) (hn1 : n1 ≤ 6) (hn2 : n2 ≤ 6) (h : StoAt W w.heap.size p mf mt n1 n2 (tEnd rmT2 1)) => by
            have := grant_any h (tEnd_ok rmT2_ok 1) (by decide) (by omega) (by omega) 7 ⟨#[99]⟩ 1 0 (by decide)
            rw [show (tGrant (tEnd rmT2 1) 7 ⟨#[99]⟩ 1 0).2.2.1 = 0 by decide +kernel] at this
            exact this)
          have HG8 := hid (fun (W : World) (n1 n2 : Nat) (hn1 : n1 ≤ 7) (hn2 : n2 ≤ 7) (h : StoAt W w.heap.size p mf mt n1 n2 (tGrant (tEnd rmT2 1) 7 ⟨#[99]⟩ 1 0).2.2.2) => by
            have := grant_any h (tGrant_ok (tEnd_ok rmT2_ok 1) 7 ⟨#[99]⟩ 1 0 (by decide)) (by decide +kernel) (by omega) (by omega) 8 ⟨#[99]⟩ 1 0 (by decide)
            rw [show (tGrant (tGrant (tEnd rmT2 1) 7 ⟨#[99]⟩ 1 0).2.2.2 8 ⟨#[99]⟩ 1 0).2.2.1 = 0 by decide +kernel] at this
            exact this)
          obtain ⟨⟨ga, gb, gc, gd, ge⟩, hgf⟩ : ∃ x, x = (tGrant (tEnd rmT2 1) 7 ⟨#[99]⟩ 1 0).1 := ⟨_, rfl⟩
          obtain ⟨⟨ha, hb, hc, hd⟩, hgk⟩ : ∃ x, x = (tGrant (tEnd rmT2 1) 7 ⟨#[99]⟩ 1 0).2.1 := ⟨_, rfl⟩
          rw [← hgf, ← hgk] at HG7
          obtain ⟨⟨ia, ib, ic, id, ie⟩, hgf2⟩ : ∃ x, x = (tGrant (tGrant (tEnd rmT2 1) 7 ⟨#[99]⟩ 1 0).2.2.2 8 ⟨#[99]⟩ 1 0).1 := ⟨_, rfl⟩
          obtain ⟨⟨ja, jb, jc, jd⟩, hgk2⟩ : ∃ x, x = (tGrant (tGrant (tEnd rmT2 1) 7 ⟨#[99]⟩ 1 0).2.2.2 8 ⟨#[99]⟩ 1 0).2.1 := ⟨_, rfl⟩
          rw [← hgf2, ← hgk2] at HG8
          unfold Fam.sessV Tok.sessV at HG7 HG8
          dsimp only at HG7 HG8
          clear hgf hgk hgf2 hgk2
          skip
          go_wp2_with (first
            | (go_at_call 14; refine (HF2.out _ _ _ H5.out).mono ?_; rintro e w9 ⟨v9, rfl, hrow9, hb9⟩; obtain ⟨a9, c9, rfl⟩ : ∃ a9 c9, v9 = .slice a9 1 c9 := (by
                    rcases hrow9.2 with ⟨rfl, h0⟩ | ⟨gg, cp, cur, rfl, _⟩
                    · exact ⟨none, 0, by rw [show (1 : Nat) = 0 from h0]⟩
                    · exact ⟨_, cp, rfl⟩); have H6 := hid (H5.out.below hb9); have K6 := hid (K5.out.trans (hb9.mono K5.out.size)); clear hrow9 hb9)
            | (go_at_call 14; refine (HF.out _ _ _ HT.out).mono ?_; rintro e w9 ⟨v9, rfl, hrow9, hb9⟩; obtain ⟨a9, c9, rfl⟩ : ∃ a9 c9, v9 = .slice a9 2 c9 := (by
                    rcases hrow9.2 with ⟨rfl, h0⟩ | ⟨gg, cp, cur, rfl, _⟩
                    · exact ⟨none, 0, by rw [show (2 : Nat) = 0 from h0]⟩
                    · exact ⟨_, cp, rfl⟩); have H4 := hid (HT.out.below hb9); have K4 := hid (Hb.out.trans (hb9.mono Hb.out.size)); clear hrow9 hb9)
            | (go_at_call 15; refine (HE.out _ _ _ H4.out).mono ?_; rintro e w5 ⟨rfl, h5, o5⟩; have H5 := hid h5; have K5 := hid (K4.out.trans (o5.below K4.out.size HM.out)); clear h5 o5)
            | (go_at_call 13; refine (HG8.out _ _ _ NB7.out.1 NB7.out.2 S7.out).mono ?_; rintro e w8 ⟨rfl, ⟨m3, m4, hm3, hm4, h8⟩, o8⟩; have K8 := hid (K7.out.trans (o8.below K7.out.size HM.out)); clear h8 o8 hm3 hm4)
            | (go_at_call 13; refine (HG7.out _ _ _ NB.out.1 NB.out.2 H6.out).mono ?_; rintro e w7 ⟨rfl, ⟨m1, m2, hm1, hm2, h7⟩, o7⟩; have tb := two_blocks w7 #[.int .i64 ga, .int .i64 gb, .string gc, .int .u8 gd, .int .i64 ge] #[.int .i64 ha, .int .i64 hb, .int .u8 hc, .int .i64 hd] 39 34; have S7 := hid (h7.below tb.2.2); have k7 := K6.out.trans (o7.below K6.out.size HM.out); have K7 := hid (k7.trans (tb.2.2.mono k7.size)); have nb := NB.out; have NB7 : Hid (m1 ≤ 7 ∧ m2 ≤ 7) := ⟨by omega, by omega⟩; clear h7 o7 hm1 hm2 tb k7 nb))
          all_goals go_ret
          have tb := two_blocks w8 #[.int .i64 ia, .int .i64 ib, .string ic, .int .u8 id, .int .i64 ie] #[.int .i64 ja, .int .i64 jb, .int .u8 jc, .int .i64 jd] 39 34
          exact ⟨rfl, K8.out.trans (tb.2.2.mono K8.out.size)⟩
          
        · have kk1 : k % 2 = 1 := by omega
          clear kk
          have HF := hid (fun (W : World) (n1 n2 : Nat) (h : StoAt W w.heap.size p mf mt n1 n2 rmT2) => families_any h rmT2_ok (by decide) 7)
          have HE := hid (fun (W : World) (n1 n2 : Nat) (h : StoAt W w.heap.size p mf mt n1 n2 rmT2) => by
            have := end_any h rmT2_ok (by decide) (by decide) 2
            rw [show (fFind rmT2.nf rmT2.fs 2).2 = 0 from rfl] at this
            exact this)
          have HF2 := hid (fun (W : World) (n1 n2 : Nat) (h : StoAt W w.heap.size p mf mt n1 n2 (tEnd rmT2 2)) => families_any h (tEnd_ok rmT2_ok 2) (by decide) 7)
          have HG7 := hid (fun (W : World) (n1 n2 : Nat) (hn1 : n1 ≤ 6) (hn2 : n2 ≤ 6) (h : StoAt W w.heap.size p mf mt n1 n2 (tEnd rmT2 2)) => by
            have := grant_any h (tEnd_ok rmT2_ok 2) (by decide) (by omega) (by omega) 7 ⟨#[99]⟩ 1 0 (by decide)
            rw [show (tGrant (tEnd rmT2 2) 7 ⟨#[99]⟩ 1 0).2.2.1 = 0 by decide +kernel] at this
            exact this)
          have HG8 := hid (fun (W : World) (n1 n2 : Nat) (hn1 : n1 ≤ 7) (hn2 : n2 ≤ 7) (h : StoAt W w.heap.size p mf mt n1 n2 (tGrant (tEnd rmT2 2) 7 ⟨#[99]⟩ 1 0).2.2.2) => by
            have := grant_any h (tGrant_ok (tEnd_ok rmT2_ok 2) 7 ⟨#[99]⟩ 1 0 (by decide)) (by decide +kernel) (by omega) (by omega) 8 ⟨#[99]⟩ 1 0 (by decide)
            rw [show (tGrant (tGrant (tEnd rmT2 2) 7 ⟨#[99]⟩ 1 0).2.2.2 8 ⟨#[99]⟩ 1 0).2.2.1 = 0 by decide +kernel] at this
            exact this)
          obtain ⟨⟨ga, gb, gc, gd, ge⟩, hgf⟩ : ∃ x, x = (tGrant (tEnd rmT2 2) 7 ⟨#[99]⟩ 1 0).1 := ⟨_, rfl⟩
          obtain ⟨⟨ha, hb, hc, hd⟩, hgk⟩ : ∃ x, x = (tGrant (tEnd rmT2 2) 7 ⟨#[99]⟩ 1 0).2.1 := ⟨_, rfl⟩
          rw [← hgf, ← hgk] at HG7
          obtain ⟨⟨ia, ib, ic, id, ie⟩, hgf2⟩ : ∃ x, x = (tGrant (tGrant (tEnd rmT2 2) 7 ⟨#[99]⟩ 1 0).2.2.2 8 ⟨#[99]⟩ 1 0).1 := ⟨_, rfl⟩
          obtain ⟨⟨ja, jb, jc, jd⟩, hgk2⟩ : ∃ x, x = (tGrant (tGrant (tEnd rmT2 2) 7 ⟨#[99]⟩ 1 0).2.2.2 8 ⟨#[99]⟩ 1 0).2.1 := ⟨_, rfl⟩
          rw [← hgf2, ← hgk2] at HG8
          unfold Fam.sessV Tok.sessV at HG7 HG8
          dsimp only at HG7 HG8
          clear hgf hgk hgf2 hgk2
          skip
          go_wp2_with (first
            | (go_at_call 14; refine (HF2.out _ _ _ H5.out).mono ?_; rintro e w9 ⟨v9, rfl, hrow9, hb9⟩; obtain ⟨a9, c9, rfl⟩ : ∃ a9 c9, v9 = .slice a9 1 c9 := (by
                    rcases hrow9.2 with ⟨rfl, h0⟩ | ⟨gg, cp, cur, rfl, _⟩
                    · exact ⟨none, 0, by rw [show (1 : Nat) = 0 from h0]⟩
                    · exact ⟨_, cp, rfl⟩); have H6 := hid (H5.out.below hb9); have K6 := hid (K5.out.trans (hb9.mono K5.out.size)); clear hrow9 hb9)
            | (go_at_call 14; refine (HF.out _ _ _ HT.out).mono ?_; rintro e w9 ⟨v9, rfl, hrow9, hb9⟩; obtain ⟨a9, c9, rfl⟩ : ∃ a9 c9, v9 = .slice a9 2 c9 := (by
                    rcases hrow9.2 with ⟨rfl, h0⟩ | ⟨gg, cp, cur, rfl, _⟩
                    · exact ⟨none, 0, by rw [show (2 : Nat) = 0 from h0]⟩
                    · exact ⟨_, cp, rfl⟩); have H4 := hid (HT.out.below hb9); have K4 := hid (Hb.out.trans (hb9.mono Hb.out.size)); clear hrow9 hb9)
            | (go_at_call 15; refine (HE.out _ _ _ H4.out).mono ?_; rintro e w5 ⟨rfl, h5, o5⟩; have H5 := hid h5; have K5 := hid (K4.out.trans (o5.below K4.out.size HM.out)); clear h5 o5)
            | (go_at_call 13; refine (HG8.out _ _ _ NB7.out.1 NB7.out.2 S7.out).mono ?_; rintro e w8 ⟨rfl, ⟨m3, m4, hm3, hm4, h8⟩, o8⟩; have K8 := hid (K7.out.trans (o8.below K7.out.size HM.out)); clear h8 o8 hm3 hm4)
            | (go_at_call 13; refine (HG7.out _ _ _ NB.out.1 NB.out.2 H6.out).mono ?_; rintro e w7 ⟨rfl, ⟨m1, m2, hm1, hm2, h7⟩, o7⟩; have tb := two_blocks w7 #[.int .i64 ga, .int .i64 gb, .string gc, .int .u8 gd, .int .i64 ge] #[.int .i64 ha, .int .i64 hb, .int .u8 hc, .int .i64 hd] 39 34; have S7 := hid (h7.below tb.2.2); have k7 := K6.out.trans (o7.below K6.out.size HM.out); have K7 := hid (k7.trans (tb.2.2.mono k7.size)); have nb := NB.out; have NB7 : Hid (m1 ≤ 7 ∧ m2 ≤ 7) := ⟨by omega, by omega⟩; clear h7 o7 hm1 hm2 tb k7 nb))
          all_goals go_ret
          have tb := two_blocks w8 #[.int .i64 ia, .int .i64 ib, .string ic, .int .u8 id, .int .i64 ie] #[.int .i64 ja, .int .i64 jb, .int .u8 jc, .int .i64 jd] 39 34
          exact ⟨rfl, K8.out.trans (tb.2.2.mono K8.out.size)⟩
          
end Go.Proofs.Ytnppnkdlmelpaaa
