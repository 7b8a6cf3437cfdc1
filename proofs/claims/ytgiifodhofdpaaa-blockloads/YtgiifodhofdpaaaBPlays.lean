/- play without disks, and the walk of BlockPlays. -/
import Derived.Test.YtgiifodhofdpaaaBRefRead
namespace Go.Proofs.Ytgiifodhofdpaaa
open Go.RowKit
set_option linter.unusedVariables false

set_option maxHeartbeats 800000 in
theorem refWrite_nil (n : Int) (a : Option Addr) (l c : Nat) (w : World) :
    Calls Try.prog 39 #[.pointer none, .int .i64 n, .slice a l c] w fun e w' => e = .returned (.int .i64 1) ∧ w' = w := by
  go_enter Try.func39, Try.ntmps39
  go_wp2
  go_ret
  exact ⟨rfl, rfl⟩

set_option maxHeartbeats 3200000 in
set_option maxRecDepth 20000 in
theorem play_bad (m : Int) (hm : m < 1 ∨ 1024 < m) (w : World) (l : List (Int × Int × UInt8)) (a : Option Addr) (ca : Nat) (hl : DeedsIn w a l) :
    Calls Try.prog 12 #[.int .i64 m, .slice a l.length ca] w fun e w' => e = .returned (.tuple #[.pointer none, .pointer none, .bool true]) ∧ Below w.heap.size w w' := by
  have Hl := hid hl
  have hml := hl.length
  unfold maxLen at hml
  clear hl
  go_enter Try.func12, Try.ntmps12
  go_wp2_with (fail)
  refine (new_bad m w hm).mono ?_
  rintro e w1 ⟨rfl, rfl⟩
  go_wp2_with (fail)
  refine (refNew_bad m w1 hm).mono ?_
  rintro e w2 ⟨rfl, rfl⟩
  go_wp2
  go_loopw [11] (fun i wr => ∃ j : Nat, j ≤ 40 ∧ j ≤ l.length ∧ i = .int .i64 (j : Int) ∧ Below w2.heap.size w2 wr) (fun i _ => 40 - (intOf i).toNat)
  case atStart => exact ⟨0, by omega, by omega, rfl, Below.refl _ _⟩
  case round =>
    obtain ⟨j, hj, hjl, rfl, hB⟩ := hrel
    have HB := hid hB
    clear hB
    by_cases hlt : j < l.length
    · by_cases hlt2 : j < 40
      · obtain ⟨ba, oa, rfl, q0, q1, q2⟩ := (Hl.out.below HB.out).cells j hlt
        generalize l[j].1 = N at *
        generalize l[j].2.1 = Lg at *
        generalize l[j].2.2 = by8 at *
        have f0 : (0 : Int) ≤ (j : Int) := by omega
        have f1 : (j : Int) < (l.length : Int) := by omega
        have f2 : (j : Int) < 40 := by omega
        go_wp2_with (fail)
        refine (bytes_any N Lg by8 wr).mono ?_
        rintro e w3 ⟨vb, rfl, hvb, hb3⟩
        have hxl : (deedOf Lg by8).length ≤ 300 := by unfold deedOf; rw [List.length_replicate]; exact deedLen_le _
        generalize deedOf Lg by8 = x at *
        obtain ⟨ab, cb, rfl, hBy, hcb⟩ := bytes_of_own hvb
        have HV3 := hid hvb
        have HB3 := hid (HB.out.trans (hb3.mono HB.out.size))
        have Hge : Hid (∀ q, (Value.slice ab x.length cb).ownBlock = some q → w2.heap.size ≤ q) := fun q e => Nat.le_trans HB.out.size (HV3.out.lt q e).1
        have c0 := (hb3.cell (World.block_lt_of_cell? _ _ q0)).trans q0
        clear hvb hb3 hBy q0 q1 q2 hcb
        go_wp2
        go_region_held3 (fun w9 => w9.cell? ⟨ba, oa + j * 3, none⟩ = some (.int .i64 N)) (exact c0)
          (first
            | ((go_at_call 34; refine (write_nil _ _ _ _ _).mono ?_; rintro e w4 ⟨rfl, rfl⟩))
            | ((go_at_call 39; refine (refWrite_nil _ _ _ _ _).mono ?_; rintro e w5 ⟨rfl, rfl⟩)))
        clear c0
        go_wp2
        go_loopw [13] (fun i wq => ∃ (k : Nat) (xs : List UInt8), k ≤ x.length ∧ i = .int .i64 (k : Int) ∧ xs.length = x.length ∧ wq.ownsRow wr.heap.size 5 1 (.slice ab x.length cb) x.length (cellsOf xs) ∧ Below w2.heap.size w2 wq) (fun i _ => x.length - (intOf i).toNat)
        case atStart => exact ⟨0, x, by omega, rfl, rfl, own_keep HV3.out fun _ _ => rfl, ⟨HB3.out.os, HB3.out.tape, HB3.out.output, HB3.out.size, HB3.out.block⟩⟩
        case round =>
          obtain ⟨k, xs, hk, rfl, hxs, hown, hB⟩ := hrel
          have HB7 := hid hB
          have Hxs := hid hxs
          clear hB hxs
          by_cases hkl : k < x.length
          · obtain ⟨gb, cb', hab, hgb, hgl⟩ := hown.form (by omega)
            cases hab
            have k1 := (hown.cellAt k (by omega)).trans (cellsOf_get xs k (by rw [Hxs.out]; exact hkl))
            have k2 := hown.frozenAt k
            have Hs := hid (hown.stored k (.int .u8 99))
            have hge := Hge.out gb rfl
            generalize (xs[k]'(by rw [Hxs.out]; exact hkl)).toNat = c7 at k1
            have g0 : (0 : Int) ≤ (k : Int) := by omega
            have g1 : (k : Int) < (x.length : Int) := by omega
            clear hown
            go_wp2
            go_roundw
            case rel =>
              refine ⟨k + 1, xs.set k 99, by omega, by go_num, by rw [List.length_set]; exact Hxs.out, ?_, ?_⟩
              · rw [← cellsOf_set]; exact Hs.out.1
              · exact HB7.out.setCell hge _
            case measure => simp [intOf]; omega
          · clear hown
            have g1 : ¬ (k : Int) < (x.length : Int) := by omega
            go_wp2
            go_roundw
            case rel => exact ⟨j + 1, by omega, by omega, by go_num, HB7.out⟩
            case measure => simp [intOf]; omega
      · have hj40 : j = 40 := by omega
        subst hj40
        go_wp2
        go_ret3
        exact ⟨rfl, HB.out⟩
    · have f1 : ¬ (j : Int) < (l.length : Int) := by omega
      go_wp2
      go_ret3
      exact ⟨rfl, HB.out⟩

set_option maxHeartbeats 6400000 in
set_option maxRecDepth 20000 in
theorem blockPlays_walk (mm : Int) (l : List (Int × Int × UInt8)) (a : Option Addr) (ca : Nat) {w : World} (hl : DeedsIn w a l) (n : Int) :
    Calls Try.prog 3 #[.int .i64 mm, .slice a l.length ca, .int .i64 n] w fun e w' => e = .returned (.bool true) ∧ Below w.heap.size w w' := by
  have Hl := hid hl
  clear hl
  rcases (show mm < 1 ∨ (1 ≤ mm ∧ mm ≤ 20) ∨ (20 < mm ∧ mm ≤ 1024) ∨ (20 < mm ∧ 1024 < mm) by omega) with h | ⟨h1, h2⟩ | ⟨h1, h2⟩ | ⟨h1, h2⟩
  · have h3 : ¬ 20 < mm := by omega
    go_enter Try.func3, Try.ntmps3
    go_wp2_with (fail)
    refine (play_bad mm (by omega) w l a ca Hl.out).mono ?_
    rintro e w1 ⟨rfl, hB1⟩
    have HB1 := hid hB1
    clear hB1
    go_wp2_with (fail)
    refine (live_any w1).mono ?_
    rintro e w2 ⟨rfl, hB2⟩
    have HB2 := hid (HB1.out.trans (hB2.mono HB1.out.size))
    clear hB2 HB1
    go_wp2_with (fail)
    refine (read_nil n w2).mono ?_
    rintro e w3 ⟨rfl, rfl⟩
    go_wp2_with (fail)
    refine (refRead_nil n w3).mono ?_
    rintro e w3 ⟨rfl, rfl⟩
    have Hsb := hid (sameBytes_any [] [] none none 0 0 w3 (fun i hi => by simp at hi) (fun i hi => by simp at hi) (by simp) (by simp))
    simp only [decide_true, List.length_nil] at Hsb
    go_wp2_with (fail)
    refine Hsb.out.mono ?_
    rintro e w6 ⟨rfl, hB6⟩
    have HB6 := hid (HB2.out.trans (hB6.mono HB2.out.size))
    have Hsi := hid (sameInts_eq (w := w6) (B1 := 0) (B2 := 0) (l := []) (World.ownsRow_nil _ _ _ _) (World.ownsRow_nil _ _ _ _) (by simp))
    clear hB6 Hsb HB2
    go_wp2_with (first | (go_at_call 17; refine (blocks_nil _).mono ?_; rintro e w' ⟨rfl, rfl⟩) | (go_at_call 18; refine (refBlocks_nil _).mono ?_; rintro e w' ⟨rfl, rfl⟩) | (go_at_call 19; refine (count_nil _).mono ?_; rintro e w' ⟨rfl, rfl⟩) | (go_at_call 20; refine (refCount_nil _).mono ?_; rintro e w' ⟨rfl, rfl⟩) | (go_at_call 22; refine (writes_nil _).mono ?_; rintro e w' ⟨rfl, rfl⟩) | (go_at_call 23; refine (refWrites_nil _).mono ?_; rintro e w' ⟨rfl, rfl⟩))
    refine Hsi.out.mono ?_
    rintro e w7 ⟨rfl, hB7⟩
    have HB7 := hid (HB6.out.trans (hB7.mono HB6.out.size))
    clear hB7 Hsi HB6
    go_wp2_with (first | (go_at_call 25; refine (image_nil _).mono ?_; rintro e w' ⟨rfl, rfl⟩) | (go_at_call 26; refine (refImage_nil _).mono ?_; rintro e w' ⟨rfl, rfl⟩))
    refine (sameAll_nil _).mono ?_
    rintro e w8 ⟨rfl, rfl⟩
    go_wp2
    go_ret
    exact ⟨ret_bool (by simp), HB7.out⟩
  · obtain ⟨m, rfl⟩ : ∃ m : Nat, mm = (m : Int) := ⟨mm.toNat, by omega⟩
    have h3 : ¬ 20 < (m : Int) := by omega
    have h4 : 1 ≤ m ∧ m ≤ 1024 := by omega
    clear h1 h2
    go_enter Try.func3, Try.ntmps3
    go_wp2_with (fail)
    refine (play_ok m (by omega) (by omega) w l a ca Hl.out).mono ?_
    rintro e w1 ⟨d, g, cap, v, r, F, L, vs, us, ls, rfl, hP, hls, hB1⟩
    have HP := hid hP
    have HB1 := hid hB1
    clear hP hB1
    go_wp2_with (fail)
    refine (live_any w1).mono ?_
    rintro e w2 ⟨rfl, hB2⟩
    have HP2 := hid (HP.out.below hB2)
    have HB2 := hid (HB1.out.trans (hB2.mono HB1.out.size))
    clear hB2 HP HB1
    have hfl : (List.replicate m zpage).length = m := List.length_replicate
    have hff : ∀ p ∈ List.replicate m zpage, p.length = 256 := fun p hp => by rw [(List.mem_replicate.1 hp).2]; exact zpage_length
    have Hff := hid hff
    have Hfl := hid hfl
    clear hff hfl
    generalize List.replicate m zpage = fs at *
    by_cases hn : n < 0 ∨ (m : Int) ≤ n
    · go_wp2_with (fail)
      refine (read_bad HP2.out.pair.disk n (by rw [psOf_length, Hfl.out]; exact hn)).mono ?_
      rintro e w3 ⟨rfl, rfl⟩
      go_wp2_with (fail)
      refine (refRead_far HP2.out.pair.ref n (by rw [Hfl.out]; exact hn)).mono ?_
      rintro e w3 ⟨rfl, rfl⟩
      clear hn
      have Hsb := hid (sameBytes_any [] [] none none 0 0 w3 (fun i hi => by simp at hi) (fun i hi => by simp at hi) (by simp) (by simp))
      simp only [decide_true, List.length_nil] at Hsb
      go_wp2_with (fail)
      refine Hsb.out.mono ?_
      rintro e w6 ⟨rfl, hB6⟩
      have HP6 := hid (HP2.out.below hB6)
      have HB6 := hid (HB2.out.trans (hB6.mono HB2.out.size))
      clear hB6 Hsb HP2 HB2
      have HctD := hid (count_any HP6.out.pair.disk)
      rw [chOf_length] at HctD
      have HctR := hid (refCount_any HP6.out.pair.ref)
      have HblD := hid (blocks_any HP6.out.pair.disk)
      rw [psOf_length] at HblD
      have HblR := hid (refBlocks_any HP6.out.pair.ref)
      go_wp2_with (fail)
      refine HblD.out.mono ?_
      rintro e w7 ⟨rfl, rfl⟩
      go_wp2_with (fail)
      refine HblR.out.mono ?_
      rintro e w7 ⟨rfl, rfl⟩
      go_wp2_with (fail)
      refine HctD.out.mono ?_
      rintro e w7 ⟨rfl, rfl⟩
      go_wp2_with (fail)
      refine HctR.out.mono ?_
      rintro e w7 ⟨rfl, rfl⟩
      clear HctD HctR HblD HblR
      have Hw := hid (writes_ok HP6.out.pair.disk (by rw [chOf_length]; omega))
      rw [chOf_length, chOf_get] at Hw
      go_wp2_with (fail)
      refine Hw.out.mono ?_
      rintro e w8 ⟨bw, rfl, hW, hB8⟩
      have HW := hid hW
      have HP8 := hid (HP6.out.below hB8)
      have HB8 := hid (HB6.out.trans (hB8.mono HB6.out.size))
      clear hW hB8 Hw HP6 HB6
      go_wp2_with (fail)
      refine (refWrites_ok HP8.out.pair.ref (by omega)).mono ?_
      rintro e w9 ⟨V, rfl, hV, hB9⟩
      have hlm : (ls.map (·.1)).length = ls.length := by simp
      have Hsi := hid (sameInts_eq (l := ls.map (·.1)) (by rw [hlm]; exact own_below HW.out hB9) (by rw [hlm]; exact hV) (by rw [hlm]; omega))
      have HP9 := hid (HP8.out.below hB9)
      have HB9 := hid (HB8.out.trans (hB9.mono HB8.out.size))
      clear hV hB9 hlm HW HP8 HB8
      go_wp2_with (fail)
      refine Hsi.out.mono ?_
      rintro e w10 ⟨rfl, hB10⟩
      have HP10 := hid (HP9.out.below hB10)
      have HB10 := hid (HB9.out.trans (hB10.mono HB9.out.size))
      clear hB10 Hsi HP9 HB9
      go_wp2_with (fail)
      refine (image_ok HP10.out.pair.disk (by rw [psOf_length, Hfl.out]; omega) (by rw [psOf_length, Hfl.out]; omega)).mono ?_
      rintro e w11 ⟨b1, vs1, rfl, hI, hB11⟩
      rw [psOf_length, Hfl.out] at hI ⊢
      have HI := hid hI
      have HP11 := hid (HP10.out.below hB11)
      have HB11 := hid (HB10.out.trans (hB11.mono HB10.out.size))
      clear hI hB11 HP10 HB10
      go_wp2_with (fail)
      refine (refImage_ok HP11.out.pair.ref HP11.out.ok Hff.out (by rw [Hfl.out]; omega) (by rw [Hfl.out]; omega) (by omega)).mono ?_
      rintro e w12 ⟨b2, c2, vs2, rfl, hJ, hB12⟩
      rw [Hfl.out] at hJ ⊢
      have Hsa := hid (sameAll_eq (by rw [psOf_length, Hfl.out]) (HI.out.below hB12) hJ (by rw [psOf_length, Hfl.out]; omega) (fun p hp => by rw [psOf_full fs ls Hff.out (fun c hc => (HP11.out.ok c hc).2) p hp]; omega))
      have HB12 := hid (HB11.out.trans (hB12.mono HB11.out.size))
      clear hJ hB12 HI HP11 HB11
      go_wp2_with (fail)
      refine Hsa.out.mono ?_
      rintro e w13 ⟨rfl, hB13⟩
      have HB13 := hid (HB12.out.trans (hB13.mono HB12.out.size))
      clear hB13 Hsa HB12
      go_wp2
      go_ret
      exact ⟨ret_bool (by simp), HB13.out⟩
    · obtain ⟨q, rfl⟩ : ∃ q : Nat, n = (q : Int) := ⟨n.toNat, by omega⟩
      have hq : q < m := by omega
      have hq2 : q < (psOf fs ls).length := by rw [psOf_length, Hfl.out]; exact hq
      clear hn
      go_wp2_with (fail)
      refine (read_ok HP2.out.pair.disk q hq2).mono ?_
      rintro e w3 ⟨u1, rfl, hu1, hB3, hne⟩
      have Hx := hid (List.getElem?_eq_getElem hq2)
      have Hxl := hid (psOf_full fs ls Hff.out (fun c hc => (HP2.out.ok c hc).2) _ (List.getElem_mem hq2))
      generalize (psOf fs ls)[q] = x at *
      have Hu1 := hid hu1
      have HP3 := hid (HP2.out.below hB3)
      have HB3 := hid (HB2.out.trans (hB3.mono HB2.out.size))
      clear hu1 hB3 hne HP2 HB2 hq2
      go_wp2_with (fail)
      refine (refRead_ok HP3.out.pair.ref HP3.out.ok Hff.out (by rw [Hfl.out]; omega) (by omega) q (by rw [Hfl.out]; exact hq) x Hx.out).mono ?_
      rintro e w4 ⟨u2, rfl, hu2, hB4⟩
      obtain ⟨a1, e1, rfl, hb1, _⟩ := bytes_of_own (own_below Hu1.out hB4)
      obtain ⟨a2, e2, rfl, hb2, _⟩ := bytes_of_own hu2
      have Hsb := hid (sameBytes_any x x a1 a2 e1 e2 w4 hb1 hb2 (by rw [Hxl.out]; omega) (by rw [Hxl.out]; omega))
      simp only [decide_true] at Hsb
      have HP4 := hid (HP3.out.below hB4)
      have HB4 := hid (HB3.out.trans (hB4.mono HB3.out.size))
      clear hu2 hB4 hb1 hb2 Hu1 HP3 HB3 Hx
      go_wp2_with (fail)
      refine Hsb.out.mono ?_
      rintro e w6 ⟨rfl, hB6⟩
      have HP6 := hid (HP4.out.below hB6)
      have HB6 := hid (HB4.out.trans (hB6.mono HB4.out.size))
      clear hB6 Hsb HP4 HB4
      have HctD := hid (count_any HP6.out.pair.disk)
      rw [chOf_length] at HctD
      have HctR := hid (refCount_any HP6.out.pair.ref)
      have HblD := hid (blocks_any HP6.out.pair.disk)
      rw [psOf_length] at HblD
      have HblR := hid (refBlocks_any HP6.out.pair.ref)
      go_wp2_with (fail)
      refine HblD.out.mono ?_
      rintro e w7 ⟨rfl, rfl⟩
      go_wp2_with (fail)
      refine HblR.out.mono ?_
      rintro e w7 ⟨rfl, rfl⟩
      go_wp2_with (fail)
      refine HctD.out.mono ?_
      rintro e w7 ⟨rfl, rfl⟩
      go_wp2_with (fail)
      refine HctR.out.mono ?_
      rintro e w7 ⟨rfl, rfl⟩
      clear HctD HctR HblD HblR
      have Hw := hid (writes_ok HP6.out.pair.disk (by rw [chOf_length]; omega))
      rw [chOf_length, chOf_get] at Hw
      go_wp2_with (fail)
      refine Hw.out.mono ?_
      rintro e w8 ⟨bw, rfl, hW, hB8⟩
      have HW := hid hW
      have HP8 := hid (HP6.out.below hB8)
      have HB8 := hid (HB6.out.trans (hB8.mono HB6.out.size))
      clear hW hB8 Hw HP6 HB6
      go_wp2_with (fail)
      refine (refWrites_ok HP8.out.pair.ref (by omega)).mono ?_
      rintro e w9 ⟨V, rfl, hV, hB9⟩
      have hlm : (ls.map (·.1)).length = ls.length := by simp
      have Hsi := hid (sameInts_eq (l := ls.map (·.1)) (by rw [hlm]; exact own_below HW.out hB9) (by rw [hlm]; exact hV) (by rw [hlm]; omega))
      have HP9 := hid (HP8.out.below hB9)
      have HB9 := hid (HB8.out.trans (hB9.mono HB8.out.size))
      clear hV hB9 hlm HW HP8 HB8
      go_wp2_with (fail)
      refine Hsi.out.mono ?_
      rintro e w10 ⟨rfl, hB10⟩
      have HP10 := hid (HP9.out.below hB10)
      have HB10 := hid (HB9.out.trans (hB10.mono HB9.out.size))
      clear hB10 Hsi HP9 HB9
      go_wp2_with (fail)
      refine (image_ok HP10.out.pair.disk (by rw [psOf_length, Hfl.out]; omega) (by rw [psOf_length, Hfl.out]; omega)).mono ?_
      rintro e w11 ⟨b1, vs1, rfl, hI, hB11⟩
      rw [psOf_length, Hfl.out] at hI ⊢
      have HI := hid hI
      have HP11 := hid (HP10.out.below hB11)
      have HB11 := hid (HB10.out.trans (hB11.mono HB10.out.size))
      clear hI hB11 HP10 HB10
      go_wp2_with (fail)
      refine (refImage_ok HP11.out.pair.ref HP11.out.ok Hff.out (by rw [Hfl.out]; omega) (by rw [Hfl.out]; omega) (by omega)).mono ?_
      rintro e w12 ⟨b2, c2, vs2, rfl, hJ, hB12⟩
      rw [Hfl.out] at hJ ⊢
      have Hsa := hid (sameAll_eq (by rw [psOf_length, Hfl.out]) (HI.out.below hB12) hJ (by rw [psOf_length, Hfl.out]; omega) (fun p hp => by rw [psOf_full fs ls Hff.out (fun c hc => (HP11.out.ok c hc).2) p hp]; omega))
      have HB12 := hid (HB11.out.trans (hB12.mono HB11.out.size))
      clear hJ hB12 HI HP11 HB11
      go_wp2_with (fail)
      refine Hsa.out.mono ?_
      rintro e w13 ⟨rfl, hB13⟩
      have HB13 := hid (HB12.out.trans (hB13.mono HB12.out.size))
      clear hB13 Hsa HB12
      go_wp2
      go_ret
      exact ⟨ret_bool (by simp), HB13.out⟩
  · go_enter Try.func3, Try.ntmps3
    go_wp2_with (fail)
    obtain ⟨m, hm, h4⟩ : ∃ m : Nat, mm % 20 + 1 = (m : Int) ∧ (1 ≤ m ∧ m ≤ 1024) := ⟨(mm % 20 + 1).toNat, by omega, by omega⟩
    rw [hm]
    clear hm h1 h2
    refine (play_ok m (by omega) (by omega) w l a ca Hl.out).mono ?_
    rintro e w1 ⟨d, g, cap, v, r, F, L, vs, us, ls, rfl, hP, hls, hB1⟩
    have HP := hid hP
    have HB1 := hid hB1
    clear hP hB1
    go_wp2_with (fail)
    refine (live_any w1).mono ?_
    rintro e w2 ⟨rfl, hB2⟩
    have HP2 := hid (HP.out.below hB2)
    have HB2 := hid (HB1.out.trans (hB2.mono HB1.out.size))
    clear hB2 HP HB1
    have hfl : (List.replicate m zpage).length = m := List.length_replicate
    have hff : ∀ p ∈ List.replicate m zpage, p.length = 256 := fun p hp => by rw [(List.mem_replicate.1 hp).2]; exact zpage_length
    have Hff := hid hff
    have Hfl := hid hfl
    clear hff hfl
    generalize List.replicate m zpage = fs at *
    by_cases hn : n < 0 ∨ (m : Int) ≤ n
    · go_wp2_with (fail)
      refine (read_bad HP2.out.pair.disk n (by rw [psOf_length, Hfl.out]; exact hn)).mono ?_
      rintro e w3 ⟨rfl, rfl⟩
      go_wp2_with (fail)
      refine (refRead_far HP2.out.pair.ref n (by rw [Hfl.out]; exact hn)).mono ?_
      rintro e w3 ⟨rfl, rfl⟩
      clear hn
      have Hsb := hid (sameBytes_any [] [] none none 0 0 w3 (fun i hi => by simp at hi) (fun i hi => by simp at hi) (by simp) (by simp))
      simp only [decide_true, List.length_nil] at Hsb
      go_wp2_with (fail)
      refine Hsb.out.mono ?_
      rintro e w6 ⟨rfl, hB6⟩
      have HP6 := hid (HP2.out.below hB6)
      have HB6 := hid (HB2.out.trans (hB6.mono HB2.out.size))
      clear hB6 Hsb HP2 HB2
      have HctD := hid (count_any HP6.out.pair.disk)
      rw [chOf_length] at HctD
      have HctR := hid (refCount_any HP6.out.pair.ref)
      have HblD := hid (blocks_any HP6.out.pair.disk)
      rw [psOf_length] at HblD
      have HblR := hid (refBlocks_any HP6.out.pair.ref)
      go_wp2_with (fail)
      refine HblD.out.mono ?_
      rintro e w7 ⟨rfl, rfl⟩
      go_wp2_with (fail)
      refine HblR.out.mono ?_
      rintro e w7 ⟨rfl, rfl⟩
      go_wp2_with (fail)
      refine HctD.out.mono ?_
      rintro e w7 ⟨rfl, rfl⟩
      go_wp2_with (fail)
      refine HctR.out.mono ?_
      rintro e w7 ⟨rfl, rfl⟩
      clear HctD HctR HblD HblR
      have Hw := hid (writes_ok HP6.out.pair.disk (by rw [chOf_length]; omega))
      rw [chOf_length, chOf_get] at Hw
      go_wp2_with (fail)
      refine Hw.out.mono ?_
      rintro e w8 ⟨bw, rfl, hW, hB8⟩
      have HW := hid hW
      have HP8 := hid (HP6.out.below hB8)
      have HB8 := hid (HB6.out.trans (hB8.mono HB6.out.size))
      clear hW hB8 Hw HP6 HB6
      go_wp2_with (fail)
      refine (refWrites_ok HP8.out.pair.ref (by omega)).mono ?_
      rintro e w9 ⟨V, rfl, hV, hB9⟩
      have hlm : (ls.map (·.1)).length = ls.length := by simp
      have Hsi := hid (sameInts_eq (l := ls.map (·.1)) (by rw [hlm]; exact own_below HW.out hB9) (by rw [hlm]; exact hV) (by rw [hlm]; omega))
      have HP9 := hid (HP8.out.below hB9)
      have HB9 := hid (HB8.out.trans (hB9.mono HB8.out.size))
      clear hV hB9 hlm HW HP8 HB8
      go_wp2_with (fail)
      refine Hsi.out.mono ?_
      rintro e w10 ⟨rfl, hB10⟩
      have HP10 := hid (HP9.out.below hB10)
      have HB10 := hid (HB9.out.trans (hB10.mono HB9.out.size))
      clear hB10 Hsi HP9 HB9
      go_wp2_with (fail)
      refine (image_ok HP10.out.pair.disk (by rw [psOf_length, Hfl.out]; omega) (by rw [psOf_length, Hfl.out]; omega)).mono ?_
      rintro e w11 ⟨b1, vs1, rfl, hI, hB11⟩
      rw [psOf_length, Hfl.out] at hI ⊢
      have HI := hid hI
      have HP11 := hid (HP10.out.below hB11)
      have HB11 := hid (HB10.out.trans (hB11.mono HB10.out.size))
      clear hI hB11 HP10 HB10
      go_wp2_with (fail)
      refine (refImage_ok HP11.out.pair.ref HP11.out.ok Hff.out (by rw [Hfl.out]; omega) (by rw [Hfl.out]; omega) (by omega)).mono ?_
      rintro e w12 ⟨b2, c2, vs2, rfl, hJ, hB12⟩
      rw [Hfl.out] at hJ ⊢
      have Hsa := hid (sameAll_eq (by rw [psOf_length, Hfl.out]) (HI.out.below hB12) hJ (by rw [psOf_length, Hfl.out]; omega) (fun p hp => by rw [psOf_full fs ls Hff.out (fun c hc => (HP11.out.ok c hc).2) p hp]; omega))
      have HB12 := hid (HB11.out.trans (hB12.mono HB11.out.size))
      clear hJ hB12 HI HP11 HB11
      go_wp2_with (fail)
      refine Hsa.out.mono ?_
      rintro e w13 ⟨rfl, hB13⟩
      have HB13 := hid (HB12.out.trans (hB13.mono HB12.out.size))
      clear hB13 Hsa HB12
      go_wp2
      go_ret
      exact ⟨ret_bool (by simp), HB13.out⟩
    · obtain ⟨q, rfl⟩ : ∃ q : Nat, n = (q : Int) := ⟨n.toNat, by omega⟩
      have hq : q < m := by omega
      have hq2 : q < (psOf fs ls).length := by rw [psOf_length, Hfl.out]; exact hq
      clear hn
      go_wp2_with (fail)
      refine (read_ok HP2.out.pair.disk q hq2).mono ?_
      rintro e w3 ⟨u1, rfl, hu1, hB3, hne⟩
      have Hx := hid (List.getElem?_eq_getElem hq2)
      have Hxl := hid (psOf_full fs ls Hff.out (fun c hc => (HP2.out.ok c hc).2) _ (List.getElem_mem hq2))
      generalize (psOf fs ls)[q] = x at *
      have Hu1 := hid hu1
      have HP3 := hid (HP2.out.below hB3)
      have HB3 := hid (HB2.out.trans (hB3.mono HB2.out.size))
      clear hu1 hB3 hne HP2 HB2 hq2
      go_wp2_with (fail)
      refine (refRead_ok HP3.out.pair.ref HP3.out.ok Hff.out (by rw [Hfl.out]; omega) (by omega) q (by rw [Hfl.out]; exact hq) x Hx.out).mono ?_
      rintro e w4 ⟨u2, rfl, hu2, hB4⟩
      obtain ⟨a1, e1, rfl, hb1, _⟩ := bytes_of_own (own_below Hu1.out hB4)
      obtain ⟨a2, e2, rfl, hb2, _⟩ := bytes_of_own hu2
      have Hsb := hid (sameBytes_any x x a1 a2 e1 e2 w4 hb1 hb2 (by rw [Hxl.out]; omega) (by rw [Hxl.out]; omega))
      simp only [decide_true] at Hsb
      have HP4 := hid (HP3.out.below hB4)
      have HB4 := hid (HB3.out.trans (hB4.mono HB3.out.size))
      clear hu2 hB4 hb1 hb2 Hu1 HP3 HB3 Hx
      go_wp2_with (fail)
      refine Hsb.out.mono ?_
      rintro e w6 ⟨rfl, hB6⟩
      have HP6 := hid (HP4.out.below hB6)
      have HB6 := hid (HB4.out.trans (hB6.mono HB4.out.size))
      clear hB6 Hsb HP4 HB4
      have HctD := hid (count_any HP6.out.pair.disk)
      rw [chOf_length] at HctD
      have HctR := hid (refCount_any HP6.out.pair.ref)
      have HblD := hid (blocks_any HP6.out.pair.disk)
      rw [psOf_length] at HblD
      have HblR := hid (refBlocks_any HP6.out.pair.ref)
      go_wp2_with (fail)
      refine HblD.out.mono ?_
      rintro e w7 ⟨rfl, rfl⟩
      go_wp2_with (fail)
      refine HblR.out.mono ?_
      rintro e w7 ⟨rfl, rfl⟩
      go_wp2_with (fail)
      refine HctD.out.mono ?_
      rintro e w7 ⟨rfl, rfl⟩
      go_wp2_with (fail)
      refine HctR.out.mono ?_
      rintro e w7 ⟨rfl, rfl⟩
      clear HctD HctR HblD HblR
      have Hw := hid (writes_ok HP6.out.pair.disk (by rw [chOf_length]; omega))
      rw [chOf_length, chOf_get] at Hw
      go_wp2_with (fail)
      refine Hw.out.mono ?_
      rintro e w8 ⟨bw, rfl, hW, hB8⟩
      have HW := hid hW
      have HP8 := hid (HP6.out.below hB8)
      have HB8 := hid (HB6.out.trans (hB8.mono HB6.out.size))
      clear hW hB8 Hw HP6 HB6
      go_wp2_with (fail)
      refine (refWrites_ok HP8.out.pair.ref (by omega)).mono ?_
      rintro e w9 ⟨V, rfl, hV, hB9⟩
      have hlm : (ls.map (·.1)).length = ls.length := by simp
      have Hsi := hid (sameInts_eq (l := ls.map (·.1)) (by rw [hlm]; exact own_below HW.out hB9) (by rw [hlm]; exact hV) (by rw [hlm]; omega))
      have HP9 := hid (HP8.out.below hB9)
      have HB9 := hid (HB8.out.trans (hB9.mono HB8.out.size))
      clear hV hB9 hlm HW HP8 HB8
      go_wp2_with (fail)
      refine Hsi.out.mono ?_
      rintro e w10 ⟨rfl, hB10⟩
      have HP10 := hid (HP9.out.below hB10)
      have HB10 := hid (HB9.out.trans (hB10.mono HB9.out.size))
      clear hB10 Hsi HP9 HB9
      go_wp2_with (fail)
      refine (image_ok HP10.out.pair.disk (by rw [psOf_length, Hfl.out]; omega) (by rw [psOf_length, Hfl.out]; omega)).mono ?_
      rintro e w11 ⟨b1, vs1, rfl, hI, hB11⟩
      rw [psOf_length, Hfl.out] at hI ⊢
      have HI := hid hI
      have HP11 := hid (HP10.out.below hB11)
      have HB11 := hid (HB10.out.trans (hB11.mono HB10.out.size))
      clear hI hB11 HP10 HB10
      go_wp2_with (fail)
      refine (refImage_ok HP11.out.pair.ref HP11.out.ok Hff.out (by rw [Hfl.out]; omega) (by rw [Hfl.out]; omega) (by omega)).mono ?_
      rintro e w12 ⟨b2, c2, vs2, rfl, hJ, hB12⟩
      rw [Hfl.out] at hJ ⊢
      have Hsa := hid (sameAll_eq (by rw [psOf_length, Hfl.out]) (HI.out.below hB12) hJ (by rw [psOf_length, Hfl.out]; omega) (fun p hp => by rw [psOf_full fs ls Hff.out (fun c hc => (HP11.out.ok c hc).2) p hp]; omega))
      have HB12 := hid (HB11.out.trans (hB12.mono HB11.out.size))
      clear hJ hB12 HI HP11 HB11
      go_wp2_with (fail)
      refine Hsa.out.mono ?_
      rintro e w13 ⟨rfl, hB13⟩
      have HB13 := hid (HB12.out.trans (hB13.mono HB12.out.size))
      clear hB13 Hsa HB12
      go_wp2
      go_ret
      exact ⟨ret_bool (by simp), HB13.out⟩
  · have h3 : ¬ mm ≤ 1024 := by omega
    go_enter Try.func3, Try.ntmps3
    go_wp2_with (fail)
    refine (play_bad mm (by omega) w l a ca Hl.out).mono ?_
    rintro e w1 ⟨rfl, hB1⟩
    have HB1 := hid hB1
    clear hB1
    go_wp2_with (fail)
    refine (live_any w1).mono ?_
    rintro e w2 ⟨rfl, hB2⟩
    have HB2 := hid (HB1.out.trans (hB2.mono HB1.out.size))
    clear hB2 HB1
    go_wp2_with (fail)
    refine (read_nil n w2).mono ?_
    rintro e w3 ⟨rfl, rfl⟩
    go_wp2_with (fail)
    refine (refRead_nil n w3).mono ?_
    rintro e w3 ⟨rfl, rfl⟩
    have Hsb := hid (sameBytes_any [] [] none none 0 0 w3 (fun i hi => by simp at hi) (fun i hi => by simp at hi) (by simp) (by simp))
    simp only [decide_true, List.length_nil] at Hsb
    go_wp2_with (fail)
    refine Hsb.out.mono ?_
    rintro e w6 ⟨rfl, hB6⟩
    have HB6 := hid (HB2.out.trans (hB6.mono HB2.out.size))
    have Hsi := hid (sameInts_eq (w := w6) (B1 := 0) (B2 := 0) (l := []) (World.ownsRow_nil _ _ _ _) (World.ownsRow_nil _ _ _ _) (by simp))
    clear hB6 Hsb HB2
    go_wp2_with (first | (go_at_call 17; refine (blocks_nil _).mono ?_; rintro e w' ⟨rfl, rfl⟩) | (go_at_call 18; refine (refBlocks_nil _).mono ?_; rintro e w' ⟨rfl, rfl⟩) | (go_at_call 19; refine (count_nil _).mono ?_; rintro e w' ⟨rfl, rfl⟩) | (go_at_call 20; refine (refCount_nil _).mono ?_; rintro e w' ⟨rfl, rfl⟩) | (go_at_call 22; refine (writes_nil _).mono ?_; rintro e w' ⟨rfl, rfl⟩) | (go_at_call 23; refine (refWrites_nil _).mono ?_; rintro e w' ⟨rfl, rfl⟩))
    refine Hsi.out.mono ?_
    rintro e w7 ⟨rfl, hB7⟩
    have HB7 := hid (HB6.out.trans (hB7.mono HB6.out.size))
    clear hB7 Hsi HB6
    go_wp2_with (first | (go_at_call 25; refine (image_nil _).mono ?_; rintro e w' ⟨rfl, rfl⟩) | (go_at_call 26; refine (refImage_nil _).mono ?_; rintro e w' ⟨rfl, rfl⟩))
    refine (sameAll_nil _).mono ?_
    rintro e w8 ⟨rfl, rfl⟩
    go_wp2
    go_ret
    exact ⟨ret_bool (by simp), HB7.out⟩
end Go.Proofs.Ytgiifodhofdpaaa
