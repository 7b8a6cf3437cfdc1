/- WalPlays' walk. -/
import Derived.Test.YthdcjepkehifoaaGreatWPl2
namespace Go.Proofs.YthdcjepkehifoaaGreat
open Go.RowKit Go.Maps
set_option linter.unusedVariables false
set_option maxRecDepth 20000
theorem own_none (w : World) (B : Nat) : w.ownsRow B 3 1 (.slice none 0 0) ([] : List Nat).length (nums []) := World.ownsRow_nil _ _ _ _
theorem bytes_none (w : World) (a : Option Addr) : Bytes w a [] := fun i hi => by simp at hi
theorem sameB_nil (w : World) : Calls Tryz.prog 30 #[.slice none 0 0, .slice none 0 0] w fun e w' => e = .returned (.bool true) ∧ Below w.heap.size w w' := by
  have h := sameBytes_any [] [] none none 0 0 w (bytes_none _ _) (bytes_none _ _) (by simp) (by simp)
  rw [decide_eq_true (rfl : ([] : List UInt8) = [])] at h
  exact h
/-- between two rounds -/
def VRelP (w : World) (S P la m k : Nat) (wr : World) : Prop := ∃ G gs ls, Duo wr w.heap.size S P k la m G gs ls ∧ Below w.heap.size w wr
/-- both logs while they are asked -/
def PlK (w : World) (B S P k la m G : Nat) (gs : List (List Nat)) (ls : List (Nat × List UInt8)) (r : Nat) (F L : Value) (vs us : List Value) (wr : World) : Prop := Duo wr B S P k la m G gs ls ∧ RW wr B m r F L vs us S G (usedOf gs) (fresh S P) ls ∧ Below w.heap.size w wr
theorem PlK.below {w wr w' : World} {B S P k la m G : Nat} {gs : List (List Nat)} {ls : List (Nat × List UInt8)} {r : Nat} {F L : Value} {vs us : List Value} (h : PlK w B S P k la m G gs ls r F L vs us wr) (hb : Below wr.heap.size wr w') : PlK w B S P k la m G gs ls r F L vs us w' := ⟨h.1.below hb, h.2.1.below hb, h.2.2.trans (hb.mono h.2.2.size)⟩
/-- both logs, as their questions want them -/
theorem Duo.parts {w : World} {B S P k la m G : Nat} {gs : List (List Nat)} {ls : List (Nat × List UInt8)} (h : Duo w B S P k la m G gs ls) : ∃ r F L vs us, RW w B m r F L vs us S G (usedOf gs) (fresh S P) ls := by
  obtain ⟨Q, R, _, ⟨r, F, L, vs, us, h, _⟩, _⟩ := h
  exact ⟨r, F, L, vs, us, h⟩
theorem a_pages {w : World} {B S P k l G : Nat} {gs : List (List Nat)} {ls : List (Nat × List UInt8)} (h : LogAt w B S P k l G gs ls) :
    Calls Tryz.prog 17 #[.pointer (some ⟨l, 0, none⟩)] w fun e w' => e = .returned (.int .i64 (P : Int)) ∧ Below w.heap.size w w' := by
  obtain ⟨d, g, c, m, n, v, h⟩ := h
  exact logPages_any h.mem P h.inv.len h.inv.most
theorem a_far {w : World} {B S P k l G : Nat} {gs : List (List Nat)} {ls : List (Nat × List UInt8)} (h : LogAt w B S P k l G gs ls) (p : Int) (hp : p < 0 ∨ (P : Int) ≤ p) :
    Calls Tryz.prog 28 #[.pointer (some ⟨l, 0, none⟩), .int .i64 p] w fun e w' => e = .returned (.tuple #[.slice none 0 0, .int .i64 2]) ∧ Below w.heap.size w w' := by
  obtain ⟨d, g, c, m, n, v, h⟩ := h
  exact logRead_far h.mem P h.inv.len h.inv.most p hp
theorem a_read {w : World} {B S P k l G : Nat} {gs : List (List Nat)} {ls : List (Nat × List UInt8)} (h : LogAt w B S P k l G gs ls) (p : Nat) (hp : p < P) :
    Calls Tryz.prog 28 #[.pointer (some ⟨l, 0, none⟩), .int .i64 (p : Int)] w fun e w' => ∃ g c, e = .returned (.tuple #[.slice (some ⟨g, 0, none⟩) 256 c, .int .i64 0]) ∧ w'.ownsRow w.heap.size 5 1 (.slice (some ⟨g, 0, none⟩) 256 c) 256 (cellsOf (pageNow (psOf (fresh S P) ls) S gs p)) ∧ Below w.heap.size w w' := by
  obtain ⟨d, g, c, m, n, v, h⟩ := h
  have hl := placeOf_lt h.inv p hp
  refine (logRead_ok h.mem P h.inv.len h.inv.most p hp (pageNow (psOf (fresh S P) ls) S gs p) ?_).mono ?_
  · show (psOf (fresh S P) ls)[placeOf S gs p]? = _
    unfold pageNow
    rw [List.getElem?_eq_getElem hl]
    simp [List.getD, List.getElem?_eq_getElem hl]
  · rintro e w' ⟨g, c, rfl, ho, _, hb⟩
    exact ⟨g, c, rfl, ho, hb⟩

set_option maxHeartbeats 3200000 in
theorem plays_nil {F0 : Prop} (hF : F0) (n S : Int) (a : Option Addr) (l : List Dd) (c : Nat) (w : World) (hl : DdsAt w a l)
    (hop : Calls Tryz.prog 13 #[.int .i64 (if 30 < n ∧ n ≤ 1024 then n % 30 + 1 else n), .int .i64 S] w (OpenNil w)) :
    Calls Tryz.prog 3 #[.int .i64 n, .int .i64 S, .slice a l.length c] w fun e w' => e = .returned (.bool true) ∧ Below w.heap.size w w' := by
  have Hl := hid hl
  have Hop := hid hop
  have Hsm := hid (small_any n w)
  generalize (if 30 < n ∧ n ≤ 1024 then n % 30 + 1 else n) = n2 at *
  clear hl hop hF
  go_enter Tryz.func3, Tryz.ntmps3
  go_wp2_with (fail)
  refine Hsm.out.mono ?_
  rintro e u ⟨rfl, hu⟩
  subst u
  go_wp2_with (fail)
  refine Hop.out.mono ?_
  rintro e w1 ⟨rfl, hb1⟩
  have Hb1 := hid hb1
  clear hb1 Hop Hsm
  go_wp2_with (fail)
  refine (walLive_any w1).mono ?_
  rintro e w3 ⟨rfl, hb3⟩
  have HB3 := hid (Hb1.out.trans (hb3.mono Hb1.out.size))
  clear hb3 Hb1
  go_wp2
  go_loopw [10] (fun i wr => ∃ k : Nat, k ≤ l.length ∧ k ≤ 20 ∧ i = .int .i64 k ∧ Below w.heap.size w wr) (fun i _ => 20 - (intOf i).toNat)
  case atStart => exact ⟨0, Nat.zero_le _, Nat.zero_le _, rfl, HB3.out⟩
  case round =>
    obtain ⟨k, hk, hk2, rfl, hB⟩ := hrel
    have HB := hid hB
    clear hB HB3
    by_cases hend : k < l.length ∧ k < 20
    · obtain ⟨hkl, hk20⟩ := hend
      have d1 : (k : Int) < (l.length : Int) := by omega
      have d2 : (k : Int) < 20 := by omega
      have d0 : (0 : Int) ≤ (k : Int) := by omega
      obtain ⟨b, o, rfl, c0, c1, c2, c3, hq⟩ := deed_at Hl.out HB.out k hkl
      have Hdo := hid (do_nil (w := wr) l[k].ck l[k].sh l[k].a l[k].q l[k].c l[k].y (hq wr (Below.refl _ _)))
      clear hq
      generalize l[k].ck = xk at *
      generalize l[k].sh = xs at *
      generalize l[k].a = xa at *
      generalize l[k].q = xq at *
      generalize l[k].c = xc at *
      generalize l[k].y = xy at *
      go_wp2_with (fail)
      refine Hdo.out.mono ?_
      rintro e u1 ⟨rfl, hb⟩
      have HR := hid (HB.out.trans (hb.mono HB.out.size))
      clear hb Hdo c0 c1 c2 c3
      go_wp2
      go_roundw
      case rel => exact ⟨k + 1, by omega, by omega, by go_num, HR.out⟩
      case measure => simp [intOf]; omega
    · clear Hl
      obtain ⟨V, rfl⟩ : ∃ V, V = wr := ⟨_, rfl⟩
      rcases (show (¬ (k : Int) < (l.length : Int)) ∨ ((k : Int) < (l.length : Int) ∧ ¬ (k : Int) < 20) by omega) with g1 | ⟨g1, g2⟩
      all_goals
        clear hend
        go_wp2_with (first
          | (go_at_call 17; refine (logPages_nil _).mono ?_; rintro e u ⟨rfl, hu⟩; subst u)
          | (go_at_call 18; refine (rpages_nil _).mono ?_; rintro e u ⟨rfl, hu⟩; subst u)
          | (go_at_call 19; refine (used_nil _).mono ?_; rintro e u ⟨rfl, hu⟩; subst u)
          | (go_at_call 20; refine (rused_nil _).mono ?_; rintro e u ⟨rfl, hu⟩; subst u)
          | (go_at_call 21; refine (free_nil _).mono ?_; rintro e u ⟨rfl, hu⟩; subst u)
          | (go_at_call 22; refine (rfree_nil _).mono ?_; rintro e u ⟨rfl, hu⟩; subst u)
          | (go_at_call 23; refine (groups_nil _).mono ?_; rintro e u ⟨rfl, hu⟩; subst u)
          | (go_at_call 24; refine (rgroups_nil _).mono ?_; rintro e u ⟨rfl, hu⟩; subst u)
          | (go_at_call 26; refine (touchedNil' _).mono ?_; rintro e u ⟨rfl, hu⟩; subst u)
          | (go_at_call 27; refine (rtouched_nil _).mono ?_; rintro e u ⟨rfl, hu⟩; subst u)
          | (go_at_call 25; refine (sameInts_eq (own_none _ 0) (own_none _ 0) (by simp)).mono ?_; rintro e u2 ⟨rfl, hb2⟩; have Hb2 := hid hb2; clear hb2))
        have HBV := hid (HB.out.trans (Hb2.out.mono HB.out.size))
        clear HB Hb2
        go_loopw [11] (fun i wr => ∃ j : Nat, j ≤ 2 ∧ i = .int .i64 ((j : Int) - 1) ∧ Below w.heap.size w wr) (fun i _ => 2 - (intOf i + 1).toNat)
        case atStart => exact ⟨0, by omega, rfl, HBV.out⟩
        case round =>
          obtain ⟨j, hj, rfl, hB⟩ := hrel
          have HB := hid hB
          clear hB HBV
          by_cases hlt : j < 2
          · have e1 : (j : Int) - 1 ≤ 0 := by omega
            have e2 : (j : Int) - 1 < 40 := by omega
            have e3 : IntKind.i64.wrap ((j : Int) - 1 + 1) = (j : Int) := by rw [IntKind.wrap_i64]; omega
            go_wp2_with (first
              | (go_at_call 18; refine (rpages_nil _).mono ?_; rintro e u ⟨rfl, hu⟩; subst u)
              | (go_at_call 28; refine (logRead_nil _ _).mono ?_; rintro e u ⟨rfl, hu⟩; subst u)
              | (go_at_call 29; refine (rread_nil _ _).mono ?_; rintro e u ⟨rfl, hu⟩; subst u)
              | (go_at_call 30; refine (sameB_nil _).mono ?_; rintro e u2 ⟨rfl, hb2⟩; have Hb2 := hid hb2; clear hb2))
            go_roundw
            case rel => exact ⟨j + 1, by omega, by go_num, HB.out.trans (Hb2.out.mono HB.out.size)⟩
            case measure => simp [intOf]; omega
          · obtain rfl : j = 2 := by omega
            go_wp2_with (first
              | (go_at_call 18; refine (rpages_nil _).mono ?_; rintro e u ⟨rfl, hu⟩; subst u)
              | (go_at_call 31; refine (logDisk_nil _).mono ?_; rintro e u ⟨rfl, hu⟩; subst u)
              | (go_at_call 33; refine (rdisk_nil _).mono ?_; rintro e u ⟨rfl, hu⟩; subst u)
              | (go_at_call 32; refine (writes_nil _).mono ?_; rintro e u ⟨rfl, hu⟩; subst u)
              | (go_at_call 34; refine (refWrites_nil _).mono ?_; rintro e u ⟨rfl, hu⟩; subst u)
              | (go_at_call 36; refine (image_nil _).mono ?_; rintro e u ⟨rfl, hu⟩; subst u)
              | (go_at_call 37; refine (refImage_nil _).mono ?_; rintro e u ⟨rfl, hu⟩; subst u)
              | (go_at_call 25; refine (sameInts_eq (own_none _ 0) (own_none _ 0) (by simp)).mono ?_; rintro e u2 ⟨rfl, hb2⟩; have Hb2 := hid hb2; clear hb2)
              | (go_at_call 35; refine (sameAll_nil _).mono ?_; rintro e u ⟨rfl, hu⟩; subst u))
            go_ret
            exact ⟨ret_bool (by simp), HB.out.trans (Hb2.out.mono HB.out.size)⟩

set_option maxHeartbeats 6400000 in
theorem plays_two (n : Int) (S P : Nat) (hS : 2 ≤ S) (hP : 1 ≤ P) (h30 : S + 1 + P ≤ 30) (hn : (if 30 < n ∧ n ≤ 1024 then n % 30 + 1 else n) = ((S + 1 + P : Nat) : Int)) (a : Option Addr) (l : List Dd) (c : Nat) (w : World) (hl : DdsAt w a l) :
    Calls Tryz.prog 3 #[.int .i64 n, .int .i64 (S : Int), .slice a l.length c] w fun e w' => e = .returned (.bool true) ∧ Below w.heap.size w w' := by
  have Hl := hid hl
  have Hop := hid (lawOpen_two w S P hS hP (by omega))
  have Hsm := hid (small_any n w)
  rw [hn] at Hsm
  generalize ((S + 1 + P : Nat) : Int) = n2 at *
  clear hl hn
  go_enter Tryz.func3, Tryz.ntmps3
  go_wp2_with (fail)
  refine Hsm.out.mono ?_
  rintro e u ⟨rfl, hu⟩
  subst u
  go_wp2_with (fail)
  refine Hop.out.mono ?_
  rintro e w1 ⟨la, m, rfl, hD, hb1⟩
  have HT1 := hid hD
  have Hb1 := hid hb1
  clear hb1 hD Hop Hsm
  go_wp2_with (fail)
  refine (walLive_any w1).mono ?_
  rintro e w3 ⟨rfl, hb3⟩
  have HR3 : Hid (VRelP w S P la m 0 w3) := ⟨0, [], [], HT1.out.below hb3, Hb1.out.trans (hb3.mono Hb1.out.size)⟩
  clear hb3 Hb1 HT1
  go_wp2
  go_loopw [10] (fun i wr => ∃ k : Nat, k ≤ l.length ∧ k ≤ 20 ∧ i = .int .i64 k ∧ VRelP w S P la m k wr) (fun i _ => 20 - (intOf i).toNat)
  case atStart => exact ⟨0, Nat.zero_le _, Nat.zero_le _, rfl, HR3.out⟩
  case round =>
    obtain ⟨k, hk, hk2, rfl, G, gs, ls, hT, hB⟩ := hrel
    have HT := hid hT
    have HB := hid hB
    clear hT hB HR3
    by_cases hend : k < l.length ∧ k < 20
    · obtain ⟨hkl, hk20⟩ := hend
      have d1 : (k : Int) < (l.length : Int) := by omega
      have d2 : (k : Int) < 20 := by omega
      have d0 : (0 : Int) ≤ (k : Int) := by omega
      obtain ⟨b, o, rfl, c0, c1, c2, c3, hq⟩ := deed_at Hl.out HB.out k hkl
      have Hdo := hid (do_any HT.out (by omega) (by omega) HB.out.size l[k].ck l[k].sh l[k].a l[k].q l[k].c l[k].y hq)
      clear hq
      generalize l[k].ck = xk at *
      generalize l[k].sh = xs at *
      generalize l[k].a = xa at *
      generalize l[k].q = xq at *
      generalize l[k].c = xc at *
      generalize l[k].y = xy at *
      go_wp2_with (fail)
      refine Hdo.out.mono ?_
      rintro e u1 ⟨rfl, ⟨G', gs', ls', hD, _⟩, hb⟩
      have HR : Hid (VRelP w S P la m (k + 1) u1) := ⟨G', gs', ls', hD, HB.out.trans hb⟩
      clear hD hb Hdo c0 c1 c2 c3
      go_wp2
      go_roundw
      case rel => exact ⟨k + 1, by omega, by omega, by go_num, HR.out⟩
      case measure => simp [intOf]; omega
    · clear Hl
      obtain ⟨V, rfl⟩ : ∃ V, V = wr := ⟨_, rfl⟩
      obtain ⟨hinv, hgr, hlsl⟩ := (show LogInv (psOf (fresh S P) ls) S G gs P ∧ G ≤ k ∧ ls.length ≤ 102 * k by obtain ⟨_, _, _, _, _, _, h⟩ := HT.out.log; exact ⟨h.inv, h.gr, h.lsl⟩)
      have Hinv := hid hinv
      have hus := hinv.used
      have H256 := hid (fun p hp => pageNow_length hinv p hp)
      have hfl : (fresh S P).length ≤ 1024 := by rw [fresh_length]; omega
      have hpsl : Hid ((psOf (fresh S P) ls).length = S + 1 + P) := hinv.len
      clear hinv
      rcases (show (¬ (k : Int) < (l.length : Int)) ∨ ((k : Int) < (l.length : Int) ∧ ¬ (k : Int) < 20) by omega) with g1 | ⟨g1, g2⟩
      all_goals
        clear hend
        go_wp2_with (fail)
        refine (a_pages HT.out.log).mono ?_
        rintro e w1 ⟨rfl, hb1⟩
        have HT1 := hid (HT.out.below hb1)
        have HB1 := hid (HB.out.trans (hb1.mono HB.out.size))
        clear hb1 HT HB
        obtain ⟨r, F, L, vs, us, hW1⟩ := HT1.out.parts
        have HW1 := hid hW1
        clear hW1
        go_wp2_with (fail)
        refine (rpages_any HW1.out.mem P (fresh_length S P) hfl).mono ?_
        rintro e w2 ⟨rfl, hb2⟩
        have HT2 := hid (HT1.out.below hb2)
        have HW2 := hid (HW1.out.below hb2)
        have HB2 := hid (HB1.out.trans (hb2.mono HB1.out.size))
        clear hb2 HT1 HW1 HB1
        go_wp2_with (fail)
        refine (a_used HT2.out.log).mono ?_
        rintro e u ⟨rfl, hu⟩
        subst u
        go_wp2_with (fail)
        refine (rused_any HW2.out.mem).mono ?_
        rintro e u ⟨rfl, hu⟩
        subst u
        go_wp2_with (fail)
        refine (a_free HT2.out.log).mono ?_
        rintro e w3 ⟨rfl, hb3⟩
        have HT3 := hid (HT2.out.below hb3)
        have HW3 := hid (HW2.out.below hb3)
        have HB3 := hid (HB2.out.trans (hb3.mono HB2.out.size))
        clear hb3 HT2 HW2 HB2
        go_wp2_with (fail)
        refine (rfree_any HW3.out.mem (by omega) hus).mono ?_
        rintro e w4 ⟨rfl, hb4⟩
        have HT4 := hid (HT3.out.below hb4)
        have HW4 := hid (HW3.out.below hb4)
        have HB4 := hid (HB3.out.trans (hb4.mono HB3.out.size))
        clear hb4 HT3 HW3 HB3
        go_wp2_with (fail)
        refine (a_groups HT4.out.log (by omega)).mono ?_
        rintro e u ⟨rfl, hu⟩
        subst u
        go_wp2_with (fail)
        refine (rgroups_any HW4.out.mem).mono ?_
        rintro e u ⟨rfl, hu⟩
        subst u
        go_wp2_with (fail)
        refine (one_touched HT4.out.log (by omega)).mono ?_
        rintro e w5 ⟨v5, rfl, hr5, hb5⟩
        have Hr5 := hid hr5
        have HT5 := hid (HT4.out.below hb5)
        have HW5 := hid (HW4.out.below hb5)
        have HB5 := hid (HB4.out.trans (hb5.mono HB4.out.size))
        clear hr5 hb5 HT4 HW4 HB4
        go_wp2_with (fail)
        refine (rtouched_any (HW5.out.refOk Hinv.out (by omega))).mono ?_
        rintro e w6 ⟨v6, rfl, hr6, hb6⟩
        have Hsi := hid (sameInts_eq (own_below Hr5.out hb6) hr6 (by have := touched_len P gs; omega))
        have HT6 := hid (HT5.out.below hb6)
        have HW6 := hid (HW5.out.below hb6)
        have HB6 := hid (HB5.out.trans (hb6.mono HB5.out.size))
        clear hr6 hb6 Hr5 HT5 HW5 HB5
        go_wp2_with (fail)
        refine Hsi.out.mono ?_
        rintro e w7 ⟨rfl, hb7⟩
        have HK7 : Hid (PlK w w.heap.size S P k la m G gs ls r F L vs us w7) := ⟨HT6.out.below hb7, HW6.out.below hb7, HB6.out.trans (hb7.mono HB6.out.size)⟩
        clear hb7 Hsi HT6 HW6 HB6
        go_wp2
        go_loopw [11] (fun i wr => ∃ j : Nat, j ≤ P + 2 ∧ i = .int .i64 ((j : Int) - 1) ∧ PlK w w.heap.size S P k la m G gs ls r F L vs us wr) (fun i _ => P + 2 - (intOf i + 1).toNat)
        case atStart => exact ⟨0, by omega, rfl, HK7.out⟩
        case round =>
          obtain ⟨j, hj, rfl, hK⟩ := hrel
          have HK := hid hK
          clear hK HK7
          by_cases hlt : j < P + 2
          · have e1 : (j : Int) - 1 ≤ (P : Int) := by omega
            have e2 : (j : Int) - 1 < 40 := by omega
            have e3 : IntKind.i64.wrap ((j : Int) - 1 + 1) = (j : Int) := by rw [IntKind.wrap_i64]; omega
            go_wp2_with (fail)
            refine (rpages_any HK.out.2.1.mem P (fresh_length S P) hfl).mono ?_
            rintro e u1 ⟨rfl, hb1⟩
            have HK1 := hid (HK.out.below hb1)
            clear hb1 HK
            by_cases hin : 1 ≤ j ∧ j < P + 1
            · obtain ⟨p, hp⟩ : ∃ p : Nat, (j : Int) - 1 = (p : Int) := ⟨j - 1, by omega⟩
              have Hjp := hid hp
              have hpP : p < P := by omega
              rw [hp] at e1 e2 e3 ⊢
              clear hp
              go_wp2_with (fail)
              refine (a_read HK1.out.1.log p hpP).mono ?_
              rintro e u2 ⟨gx, cx, rfl, hx, hb2⟩
              have Hx := hid hx
              have HK2 := hid (HK1.out.below hb2)
              clear hx hb2 HK1
              go_wp2_with (fail)
              refine (rread_ok (HK2.out.2.1.refOk Hinv.out (by omega)) p hpP).mono ?_
              rintro e u3 ⟨vy, rfl, hy, hb3⟩
              obtain ⟨gy, cy, rfl, _, _, _⟩ := row_form hy (by omega)
              have hx3 := own_below Hx.out hb3
              have Hsb : Hid (Calls Tryz.prog 30 #[.slice (some ⟨gx, 0, none⟩) 256 cx, .slice (some ⟨gy, 0, none⟩) 256 cy] u3 fun e w' => e = .returned (.bool true) ∧ Below u3.heap.size u3 w') := by
                have h := sameBytes_any _ _ (some ⟨gx, 0, none⟩) (some ⟨gy, 0, none⟩) cx cy u3 (bytes_of_row hx3 (H256.out p hpP)) (bytes_of_row hy (H256.out p hpP)) (by rw [H256.out p hpP]; omega) (by rw [H256.out p hpP]; omega)
                rw [decide_eq_true (rfl : pageNow (psOf (fresh S P) ls) S gs p = pageNow (psOf (fresh S P) ls) S gs p), H256.out p hpP] at h
                exact h
              have HK3 := hid (HK2.out.below hb3)
              clear hy hx3 hb3 Hx HK2
              go_wp2_with (fail)
              refine Hsb.out.mono ?_
              rintro e u4 ⟨rfl, hb4⟩
              have HK4 := hid (HK3.out.below hb4)
              clear hb4 Hsb HK3
              go_wp2
              go_roundw
              case rel => exact ⟨j + 1, by omega, by have := Hjp.out; go_num, HK4.out⟩
              case measure => have := Hjp.out; simp [intOf]; omega
            · have hfar : (j : Int) - 1 < 0 ∨ (P : Int) ≤ (j : Int) - 1 := by omega
              go_wp2_with (fail)
              refine (a_far HK1.out.1.log _ hfar).mono ?_
              rintro e u2 ⟨rfl, hb2⟩
              have HK2 := hid (HK1.out.below hb2)
              clear hb2 HK1
              go_wp2_with (fail)
              refine (rread_far HK2.out.2.1.mem P (fresh_length S P) hfl _ hfar).mono ?_
              rintro e u3 ⟨rfl, hb3⟩
              have HK3 := hid (HK2.out.below hb3)
              clear hb3 HK2
              go_wp2_with (fail)
              refine (sameB_nil _).mono ?_
              rintro e u4 ⟨rfl, hb4⟩
              have HK4 := hid (HK3.out.below hb4)
              clear hb4 HK3
              go_wp2
              go_roundw
              case rel => exact ⟨j + 1, by omega, by go_num, HK4.out⟩
              case measure => simp [intOf]; omega
          · have hj2 : (j : Int) - 1 = (P : Int) + 1 := by omega
            have e1 : ¬ (P : Int) + 1 ≤ (P : Int) := by omega
            rw [hj2]
            clear hj2
            go_wp2_with (fail)
            refine (rpages_any HK.out.2.1.mem P (fresh_length S P) hfl).mono ?_
            rintro e u1 ⟨rfl, hb1⟩
            have HK1 := hid (HK.out.below hb1)
            clear hb1 HK
            go_wp2_with (fail)
            refine (one_disk HK1.out.1.log (by omega)).mono ?_
            rintro e u2 ⟨d2, g2', cap2, v2, rfl, hD2, hb2⟩
            have Hwr := hid (writes_ok hD2 (by rw [chOf_length]; omega))
            rw [chOf_fst, chOf_length] at Hwr
            have HK2 := hid (HK1.out.below hb2)
            clear hD2 hb2 HK1
            go_wp2_with (fail)
            refine Hwr.out.mono ?_
            rintro e u3 ⟨b3, rfl, hr3, hb3⟩
            have Hr3 := hid hr3
            have HK3 := hid (HK2.out.below hb3)
            clear hr3 hb3 HK2 Hwr
            go_wp2_with (fail)
            refine (rdisk_any HK3.out.2.1.mem HK3.out.2.2.size).mono ?_
            rintro e u4 ⟨f4, rfl, hR4, hb4⟩
            have Hrw := hid (refWrites_ok hR4 (by omega))
            have Hr4 := hid (own_below Hr3.out hb4)
            have HK4 := hid (HK3.out.below hb4)
            clear hR4 hb4 HK3 Hr3
            go_wp2_with (fail)
            refine Hrw.out.mono ?_
            rintro e u5 ⟨v5, rfl, hr5, hb5⟩
            have Hsi := hid (sameInts_eq (l := ls.map (·.1)) (by rw [List.length_map]; exact own_below Hr4.out hb5) (by rw [List.length_map]; exact hr5) (by rw [List.length_map]; omega))
            have HK5 := hid (HK4.out.below hb5)
            clear hr5 hb5 HK4 Hr4 Hrw
            go_wp2_with (fail)
            refine Hsi.out.mono ?_
            rintro e u6 ⟨rfl, hb6⟩
            have HK6 := hid (HK5.out.below hb6)
            clear hb6 HK5 Hsi
            go_wp2_with (fail)
            refine (one_disk HK6.out.1.log (by omega)).mono ?_
            rintro e u7 ⟨d7, g7, cap7, v7, rfl, hD7, hb7⟩
            have Him := hid (image_ok hD7 (by rw [hpsl.out]; omega) (by rw [hpsl.out]; omega))
            have HK7 := hid (HK6.out.below hb7)
            clear hD7 hb7 HK6
            go_wp2_with (fail)
            refine Him.out.mono ?_
            rintro e u8 ⟨b8, vs8, rfl, hI8, hb8⟩
            have HI8 := hid hI8
            have HK8 := hid (HK7.out.below hb8)
            clear hI8 hb8 HK7 Him
            go_wp2_with (fail)
            refine (rdisk_any HK8.out.2.1.mem HK8.out.2.2.size).mono ?_
            rintro e u9 ⟨f9, rfl, hR9, hb9⟩
            have Hri := hid (refImage_ok hR9 HK8.out.2.1.ok HK8.out.2.1.full (by rw [fresh_length]; omega) hfl (by omega))
            have HI9 := hid (HI8.out.below hb9)
            have HK9 := hid (HK8.out.below hb9)
            clear hR9 hb9 HK8 HI8
            go_wp2_with (fail)
            refine Hri.out.mono ?_
            rintro e u10 ⟨b10, c10, vs10, rfl, hI10, hb10⟩
            have Hsa : Hid (Calls Tryz.prog 35 #[.slice (some ⟨b8, 0, none⟩) (psOf (fresh S P) ls).length (psOf (fresh S P) ls).length, .slice (some ⟨b10, 0, none⟩) (fresh S P).length c10] u10 fun e w' => e = .returned (.bool true) ∧ Below u10.heap.size u10 w') := by
              have h := sameAll_eq (n := (psOf (fresh S P) ls).length) rfl (HI9.out.below hb10) (by rw [psOf_length]; exact hI10) (by rw [hpsl.out]; omega) (fun p hp => by rw [Hinv.out.full p hp]; omega)
              rw [psOf_length] at h ⊢
              exact h
            have HK10 := hid (HK9.out.below hb10)
            clear hI10 hb10 HK9 HI9 Hri
            go_wp2_with (fail)
            refine Hsa.out.mono ?_
            rintro e u11 ⟨rfl, hb11⟩
            have HK11 := hid (HK10.out.below hb11)
            clear hb11 HK10 Hsa
            go_wp2
            go_ret
            exact ⟨ret_bool (by simp), HK11.out.2.2⟩

theorem walPlays_walk (n s : Int) (hs : s ≤ 9223372036854775807) (a : Option Addr) (l : List Dd) (c : Nat) (w : World) (hl : DdsAt w a l) :
    Calls Tryz.prog 3 #[.int .i64 n, .int .i64 s, .slice a l.length c] w fun e w' => e = .returned (.bool true) ∧ Below w.heap.size w w' := by
  obtain ⟨n2, hn2⟩ : ∃ n2, (if 30 < n ∧ n ≤ 1024 then n % 30 + 1 else n) = n2 := ⟨_, rfl⟩
  have hr : n2 ≤ 30 ∨ 1024 < n2 := by
    rw [← hn2]
    split
    · omega
    · omega
  by_cases hf : n2 < 1 ∨ 1024 < n2
  · exact plays_nil trivial n s a l c w hl (by rw [hn2]; exact lawOpen_far n2 s w hf)
  · obtain ⟨N, rfl⟩ : ∃ N : Nat, n2 = (N : Int) := ⟨n2.toNat, by omega⟩
    by_cases hb : s < 2 ∨ (N : Int) - 2 < s
    · exact plays_nil trivial n s a l c w hl (by rw [hn2]; exact lawOpen_bad N s w (by omega) (by omega) hs hb)
    · obtain ⟨S, rfl⟩ : ∃ S : Nat, s = (S : Int) := ⟨s.toNat, by omega⟩
      exact plays_two n S (N - S - 1) (by omega) (by omega) (by omega) (by rw [hn2]; omega) a l c w hl
end Go.Proofs.YthdcjepkehifoaaGreat
