/- The walk of BlockForks. -/
import Derived.Test.YtgiifodhofdpaaaBFork
namespace Go.Proofs.Ytgiifodhofdpaaa
open Go.RowKit
set_option linter.unusedVariables false

/-- rows of 256 bytes, whatever they are -/
def Pages256 (w : World) (B : Nat) (vs : List Value) : Prop := ∀ u ∈ vs, ∃ xs : List UInt8, xs.length = 256 ∧ w.ownsRow B 5 1 u 256 (cellsOf xs)
theorem Pages256.store {w : World} {B : Nat} {vs : List Value} (h : Pages256 w B vs) (q : Nat) (b : UInt8) : Pages256 (w.setCell ⟨q, 0, none⟩ (.int .u8 (b.toNat : Int))) B vs := fun u hu => by
  obtain ⟨xs, hl, ho⟩ := h u hu
  obtain ⟨q', c', rfl, _, _⟩ := ho.form (by omega)
  by_cases hq : q' = q
  · subst hq
    refine ⟨xs.set 0 b, by rw [List.length_set]; exact hl, ?_⟩
    rw [← cellsOf_set]
    exact (ho.stored 0 (.int .u8 (b.toNat : Int))).1
  · exact ⟨xs, hl, own_keep ho fun j e => heap_setCell_other _ _ _ _ (fun e' => hq (by rw [← own_slice e]; exact e'))⟩

set_option maxHeartbeats 6400000 in
set_option maxRecDepth 20000 in
theorem blockForks_walk (l : List (Int × Int × UInt8)) (a : Option Addr) (ca : Nat) {w : World} (hl : DeedsIn w a l) (m : List (Int × Int × UInt8)) (am : Option Addr) (cm : Nat) (hm : DeedsIn w am m) :
    Calls Try.prog 6 #[.slice a l.length ca, .slice am m.length cm] w fun e w' => e = .returned (.bool true) ∧ Below w.heap.size w w' := by
  have Hl := hid hl
  have Hm := hid hm
  have hml := hm.length
  unfold maxLen at hml
  clear hl hm
  go_enter Try.func6, Try.ntmps6
  go_wp2_with (fail)
  refine (play_ok 4 (by omega) (by omega) w l a ca Hl.out).mono ?_
  rintro e w1 ⟨d, g, cap, v, r, F, L, vs, us, ls, rfl, hP, hls, hB1⟩
  have HP := hid hP
  have HB1 := hid hB1
  clear hP hB1
  go_wp2_with (fail)
  refine (live_any w1).mono ?_
  rintro e w2 ⟨rfl, hB2⟩
  have HP2 := hid (HP.out.below hB2)
  have HB2 := hid (HB1.out.trans (hB2.mono HB1.out.size))
  clear hB2 HP HB1
  have hfl : (List.replicate 4 zpage).length = 4 := List.length_replicate
  have hff : ∀ p ∈ List.replicate 4 zpage, p.length = 256 := fun p hp => by rw [(List.mem_replicate.1 hp).2]; exact zpage_length
  have Hff := hid hff
  have Hfl := hid hfl
  clear hff hfl
  generalize List.replicate 4 zpage = fs at *
  have Hpl := hid (show (psOf fs ls).length = 4 by rw [psOf_length]; exact Hfl.out)
  have Hcl := hid (chOf_length fs ls)
  go_wp2_with (fail)
  refine (fork_ok HP2.out.pair.disk (by rw [Hpl.out]; omega) (by rw [Hpl.out]; omega) (by rw [Hcl.out]; omega)).mono ?_
  rintro e w3 ⟨f, gf, cf, vf, rfl, hF, hB3⟩
  have HF := hid hF
  have HB3 := hid hB3
  clear hF hB3
  obtain ⟨H, hH⟩ : ∃ H, H = w2.heap.size := ⟨_, rfl⟩
  rw [← hH] at HF HB3
  have HH := hid hH
  clear hH
  go_wp2
  go_loopw [9] (fun i wr => ∃ (j : Nat) (v' : Value) (psf : List (List UInt8)) (chf : List (Nat × List UInt8)), j ≤ 40 ∧ j ≤ m.length ∧ i = .int .i64 (j : Int) ∧ DiskAt wr H f gf cf v' psf chf ∧ ls.length ≤ chf.length ∧ chf.length ≤ ls.length + j ∧ Below H w2 wr) (fun i _ => 40 - (intOf i).toNat)
  case atStart => exact ⟨0, _, _, _, by omega, by omega, rfl, HF.out, by rw [Hcl.out]; omega, by rw [Hcl.out]; omega, HB3.out⟩
  case round =>
    obtain ⟨j, v', psf, chf, hj, hjm, rfl, hD, hc1, hc2, hB⟩ := hrel
    have HD := hid hD
    have HB := hid hB
    clear hD hB HF HB3
    have HBw := hid (HB2.out.trans (HB.out.mono (by rw [HH.out]; exact HB2.out.size)))
    by_cases hlt : j < m.length
    · by_cases hlt2 : j < 40
      · obtain ⟨ba, oa, rfl, c0, c1, c2⟩ := (Hm.out.below HBw.out).cells j hlt
        have hba : ba < H := by
          obtain ⟨b', o', e', c', _⟩ := Hm.out.cells j hlt
          cases e'
          have h1 := World.block_lt_of_cell? _ _ c'
          have h2 := HB2.out.size
          rw [HH.out]
          exact Nat.lt_of_lt_of_le h1 h2
        generalize m[j].1 = N at *
        generalize m[j].2.1 = Lg at *
        generalize m[j].2.2 = by8 at *
        have f0 : (0 : Int) ≤ (j : Int) := by omega
        have f1 : (j : Int) < (m.length : Int) := by omega
        have f2 : (j : Int) < 40 := by omega
        have hHr : H ≤ wr.heap.size := by have := HB.out.size; rw [← HH.out] at this; exact this
        have hbr : ba < wr.heap.size := by omega
        go_wp2
        go_region_held3 (fun w9 => w9.cell? ⟨ba, oa + j * 3, none⟩ = some (.int .i64 N) ∧ w9.cell? ⟨ba, oa + j * 3 + 1, none⟩ = some (.int .i64 Lg) ∧ w9.cell? ⟨ba, oa + j * 3 + 2, none⟩ = some (.int .u8 (by8.toNat : Int))) (first | exact ⟨c0, c1, c2⟩ | exact k.out | exact q.out)
          (first
            | ((go_at_call 30; refine (bytes_any N Lg by8 _).mono ?_; rintro e u4 ⟨vx, rfl, hox, hbx0⟩; have hbx := undrew hbx0; have k := hid (And.intro ((hbx.cell (World.block_lt_of_cell? _ _ c0)).trans c0) (And.intro ((hbx.cell (World.block_lt_of_cell? _ _ c1)).trans c1) ((hbx.cell (World.block_lt_of_cell? _ _ c2)).trans c2))); have Hox := hid hox; have HDu := hid (HD.out.below hbx); have Hbx := hid hbx; clear hox hbx hbx0))
            | ((go_at_call 34; refine (write_any HDu.out N (deedOf Lg by8) Hox.out HD.out.lts (by omega) (Nat.le_trans hHr Hbx.out.size)).mono ?_; rintro e w4 ⟨rfl, v4, hD4, hv4, ho4⟩; have hB4 := ho4.below HDu.out H (Nat.le_refl _) (Nat.le_trans hHr Hbx.out.size); have q := hid (And.intro ((hB4.cell (show (⟨ba, oa + j * 3, none⟩ : Addr).block < H from hba)).trans k.out.1) (And.intro ((hB4.cell (show (⟨ba, oa + j * 3 + 1, none⟩ : Addr).block < H from hba)).trans k.out.2.1) ((hB4.cell (show (⟨ba, oa + j * 3 + 2, none⟩ : Addr).block < H from hba)).trans k.out.2.2))); have HD4 := hid hD4; have HB4 := hid (((HB.out.trans (Hbx.out.mono hHr)).trans hB4)); clear hD4 hv4 ho4 hB4)))
        have hle := wCh_le psf chf N (deedOf Lg by8)
        have hge : chf.length ≤ (wCh psf chf N (deedOf Lg by8)).length := by rw [wCh_length]; omega
        clear c0 c1 c2 k q Hox HDu Hbx
        go_wp2
        go_roundw
        case rel => exact ⟨j + 1, v4, _, _, by omega, by omega, by go_num, HD4.out, by omega, by omega, HB4.out⟩
        case measure => simp [intOf]; omega
      · have f2 : ¬ (j : Int) < 40 := by omega
        have f1 : (j : Int) < (m.length : Int) := by omega
        obtain ⟨wA, rfl⟩ : ∃ wA, wA = wr := ⟨_, rfl⟩
        have hPr := HP2.out.below (w' := wA) (by rw [← HH.out]; exact HB.out)
        have HPr := hid hPr
        clear hPr
        go_wp2_with (fail)
        refine (image_ap HPr.out.pair.disk (by rw [Hpl.out]; omega) (by rw [Hpl.out]; omega)).mono ?_
        rintro e w5 ⟨b1, vs1, rfl, hI, hB5, hap5⟩
        rw [Hpl.out] at hI ⊢
        have hvl : vs1.length = 4 := by rw [hI.vlen]; exact Hpl.out
        have hrow5 := hI.row
        rw [Hpl.out] at hrow5
        have hpg5 : Pages256 w5 wA.heap.size vs1 := fun u hu => by
          obtain ⟨i, hi, rfl⟩ := List.getElem_of_mem hu
          have hi2 : i < (psOf fs ls).length := by rw [Hpl.out]; omega
          have h256 := psOf_full fs ls Hff.out (fun c hc => (HPr.out.ok c hc).2) _ (List.getElem_mem hi2)
          have := hI.rows i hi2 hi
          rw [h256] at this
          exact ⟨_, h256, this⟩
        have Hrow5 := hid hrow5
        have Hpg5 := hid hpg5
        have Hap5 := hid hap5
        have HB5 := hid hB5
        have Hvl := hid hvl
        obtain ⟨HX, hHX⟩ : ∃ HX, HX = wA.heap.size := ⟨_, rfl⟩
        rw [← hHX] at Hrow5 Hpg5 HB5
        have HHX := hid hHX
        clear hI hB5 hap5 hrow5 hpg5 hvl hHX
        go_wp2
        go_loopw [11] (fun i wq => ∃ k : Nat, k ≤ 4 ∧ i = .int .i64 (k : Int) ∧ wq.ownsRow HX 28 1 (.slice (some ⟨b1, 0, none⟩) 4 4) 4 vs1 ∧ Pages256 wq HX vs1 ∧ Below HX wA wq) (fun i _ => 4 - (intOf i).toNat)
        case atStart => exact ⟨0, by omega, rfl, Hrow5.out, Hpg5.out, HB5.out⟩
        case round =>
          obtain ⟨k, hk, rfl, hrw, hpw, hBq⟩ := hrel
          have Hrw := hid hrw
          have Hpw := hid hpw
          have HBq := hid hBq
          clear hrw hpw hBq Hrow5 Hpg5 HB5
          by_cases hk4 : k < 4
          · have hkv : k < vs1.length := by rw [Hvl.out]; exact hk4
            obtain ⟨xs, hxl, hox⟩ := Hpw.out _ (List.getElem_mem hkv)
            obtain ⟨q, cq, hue, hqb, hql⟩ := hox.form (by omega)
            have k1 := (Hrw.out.cellAt k (by omega)).trans (List.getElem?_eq_getElem hkv)
            rw [hue] at k1 hox
            have k2 := (hox.cellAt 0 (by omega)).trans (cellsOf_get xs 0 (by omega))
            have k3 := hox.frozenAt 0
            have hqne : q ≠ b1 := fun e => Hap5.out _ (List.getElem_mem hkv) (by rw [hue, e]; rfl)
            generalize (xs[0]'(by omega)).toNat = c7 at k2
            have g0 : (0 : Int) ≤ (k : Int) := by omega
            have g1 : (k : Int) < 4 := by omega
            clear hox hue hkv
            go_wp2
            go_roundw
            case rel =>
              refine ⟨k + 1, by omega, by go_num, own_keep Hrw.out fun t e => heap_setCell_other _ _ _ _ (fun e' => hqne (by rw [← own_slice e]; exact e'.symm)), Hpw.out.store q 200, HBq.out.setCell hqb _⟩
            case measure => simp [intOf]; omega
          · have g1 : ¬ (k : Int) < 4 := by omega
            have hBq' : Below wA.heap.size wA wr := by rw [← HHX.out]; exact HBq.out
            have HPq := hid (HPr.out.below hBq')
            have HDq := hid (HD.out.below hBq')
            have HBwq := hid (HBw.out.trans (hBq'.mono HBw.out.size))
            clear hBq' Hrw Hpw HBq HPr
            obtain ⟨wB, rfl⟩ : ∃ wB, wB = wr := ⟨_, rfl⟩
            have Hw := hid (writes_ok HPq.out.pair.disk (by rw [Hcl.out]; omega))
            rw [Hcl.out] at Hw
            go_wp2_with (fail)
            refine Hw.out.mono ?_
            rintro e w6 ⟨bw, rfl, hW, hB6⟩
            have HW := hid hW
            have HB6 := hid hB6
            obtain ⟨HY, hHY⟩ : ∃ HY, HY = wB.heap.size := ⟨_, rfl⟩
            rw [← hHY] at HW HB6
            have HHY := hid hHY
            clear hW hB6 Hw hHY
            go_wp2
            go_loopw [13] (fun i wz => ∃ (k : Nat) (xs : List Value), k ≤ ls.length ∧ i = .int .i64 (k : Int) ∧ wz.ownsRow HY 3 1 (.slice (some ⟨bw, 0, none⟩) ls.length ls.length) ls.length xs ∧ Below HY wB wz) (fun i _ => ls.length - (intOf i).toNat)
            case atStart => exact ⟨0, _, by omega, rfl, HW.out, HB6.out⟩
            case round =>
              obtain ⟨k, xs, hk, rfl, hox, hBz⟩ := hrel
              have Hox := hid hox
              have HBz := hid hBz
              clear hox hBz HW HB6
              by_cases hkl : k < ls.length
              · have hxl : xs.length = ls.length := by have := Hox.out.1; omega
                have k1 := (Hox.out.cellAt k (by omega)).trans (List.getElem?_eq_getElem (by omega))
                have k2 := Hox.out.frozenAt k
                have hbw := (Hox.out.lt bw rfl).1
                have Hs := hid (Hox.out.stored k (.int .i64 (-5)))
                generalize xs[k]'(by omega) = old at k1
                have g0 : (0 : Int) ≤ (k : Int) := by omega
                have g1 : (k : Int) < (ls.length : Int) := by omega
                clear hxl
                go_wp2
                go_roundw
                case rel => exact ⟨k + 1, _, by omega, by go_num, Hs.out.1, HBz.out.setCell hbw _⟩
                case measure => simp [intOf]; omega
              · have g1 : ¬ (k : Int) < (ls.length : Int) := by omega
                have hBz' : Below wB.heap.size wB wr := by rw [← HHY.out]; exact HBz.out
                have HPz := hid (HPq.out.below hBz')
                have HDz := hid (HDq.out.below hBz')
                have HBwz := hid (HBwq.out.trans (hBz'.mono HBwq.out.size))
                clear hBz' Hox HBz HPq HDq HBwq
                have h0p : 0 < (psOf fs ls).length := by rw [Hpl.out]; omega
                have Hrd := hid (read_ok HPz.out.pair.disk 0 h0p)
                have h256 := psOf_full fs ls Hff.out (fun c hc => (HPz.out.ok c hc).2) _ (List.getElem_mem h0p)
                rw [h256] at Hrd
                generalize (psOf fs ls)[0] = x0 at *
                go_wp2_with (fail)
                refine Hrd.out.mono ?_
                rintro e w7 ⟨u, rfl, hu, hB7, _⟩
                obtain ⟨bb, cb, rfl, hbb, _⟩ := hu.form (by omega)
                have k1 := (hu.cellAt 0 (by omega)).trans (cellsOf_get x0 0 (by omega))
                have k2 := hu.frozenAt 0
                generalize (x0[0]'(by omega)).toNat = c7 at k1
                have hB7' : Below wr.heap.size wr (w7.setCell ⟨bb, 0, none⟩ (.int .u8 201)) := hB7.setCell hbb _
                have HP7 := hid (HPz.out.below hB7')
                have HD7 := hid (HDz.out.below hB7')
                have HB7 := hid (HBwz.out.trans (hB7'.mono HBwz.out.size))
                clear hu hB7 hB7' Hrd HPz HDz HBwz h256 h0p
                go_wp2_with (fail)
                generalize w7.setCell ⟨bb, 0, none⟩ (.int .u8 201) = w8 at *
                refine (image_ok HP7.out.pair.disk (by rw [Hpl.out]; omega) (by rw [Hpl.out]; omega)).mono ?_
                rintro e w9 ⟨c1, vs2, rfl, hI, hB9⟩
                rw [Hpl.out] at hI ⊢
                have HI := hid hI
                have HP9 := hid (HP7.out.below hB9)
                have HD9 := hid (HD7.out.below hB9)
                have HB9 := hid (HB7.out.trans (hB9.mono HB7.out.size))
                clear hI hB9 HP7 HD7 HB7 k1 k2
                go_wp2_with (fail)
                refine (refImage_ok HP9.out.pair.ref HP9.out.ok Hff.out (by rw [Hfl.out]; omega) (by rw [Hfl.out]; omega) (by omega)).mono ?_
                rintro e w10 ⟨c2, d2, vs3, rfl, hJ, hB10⟩
                rw [Hfl.out] at hJ ⊢
                have Hsa := hid (sameAll_eq Hpl.out.symm (HI.out.below hB10) hJ (by rw [Hpl.out]; omega) (fun p hp => by rw [psOf_full fs ls Hff.out (fun c hc => (HP9.out.ok c hc).2) p hp]; omega))
                have HP10 := hid (HP9.out.below hB10)
                have HD10 := hid (HD9.out.below hB10)
                have HB10 := hid (HB9.out.trans (hB10.mono HB9.out.size))
                clear hJ hB10 HI HP9 HD9 HB9
                go_wp2_with (fail)
                refine Hsa.out.mono ?_
                rintro e w11 ⟨rfl, hB11⟩
                have HP11 := hid (HP10.out.below hB11)
                have HD11 := hid (HD10.out.below hB11)
                have HB11 := hid (HB10.out.trans (hB11.mono HB10.out.size))
                clear hB11 Hsa HP10 HD10 HB10
                have Hw := hid (writes_ok HP11.out.pair.disk (by rw [Hcl.out]; omega))
                rw [Hcl.out, chOf_get] at Hw
                go_wp2_with (fail)
                refine Hw.out.mono ?_
                rintro e w12 ⟨bw2, rfl, hW2, hB12⟩
                have HW2 := hid hW2
                have HP12 := hid (HP11.out.below hB12)
                have HD12 := hid (HD11.out.below hB12)
                have HB12 := hid (HB11.out.trans (hB12.mono HB11.out.size))
                clear hW2 hB12 Hw HP11 HD11 HB11
                go_wp2_with (fail)
                refine (refWrites_ok HP12.out.pair.ref (by omega)).mono ?_
                rintro e w13 ⟨V, rfl, hV, hB13⟩
                have hlm : (ls.map (·.1)).length = ls.length := by simp
                have Hsi := hid (sameInts_eq (l := ls.map (·.1)) (by rw [hlm]; exact own_below HW2.out hB13) (by rw [hlm]; exact hV) (by rw [hlm]; omega))
                have HP13 := hid (HP12.out.below hB13)
                have HD13 := hid (HD12.out.below hB13)
                have HB13 := hid (HB12.out.trans (hB13.mono HB12.out.size))
                clear hV hB13 hlm HW2 HP12 HD12 HB12
                go_wp2_with (fail)
                refine Hsi.out.mono ?_
                rintro e w14 ⟨rfl, hB14⟩
                have HP14 := hid (HP13.out.below hB14)
                have HD14 := hid (HD13.out.below hB14)
                have HB14 := hid (HB13.out.trans (hB14.mono HB13.out.size))
                clear hB14 Hsi HP13 HD13 HB13
                have Hcd := hid (count_any HP14.out.pair.disk)
                rw [Hcl.out] at Hcd
                go_wp2_with (fail)
                refine (count_any HD14.out).mono ?_
                rintro e w15 ⟨rfl, rfl⟩
                go_wp2_with (fail)
                refine Hcd.out.mono ?_
                rintro e w15 ⟨rfl, rfl⟩
                have g9 : (ls.length : Int) ≤ (chf.length : Int) := by omega
                go_wp2_with (fail)
                refine (fork_ok HP14.out.pair.disk (by rw [Hpl.out]; omega) (by rw [Hpl.out]; omega) (by rw [Hcl.out]; omega)).mono ?_
                rintro e w16 ⟨f2, g2, cf2, vf2, rfl, hF2, hB16⟩
                have Hs := hid (same_any (HP14.out.below hB16).pair.disk hF2 rfl)
                simp only [decide_true] at Hs
                have HB16 := hid (HB14.out.trans (hB16.mono HB14.out.size))
                clear hF2 hB16 HP14 HD14 HB14
                go_wp2_with (fail)
                refine Hs.out.mono ?_
                rintro e w17 ⟨rfl, hB17⟩
                have HB17 := hid (HB16.out.trans (hB17.mono HB16.out.size))
                clear hB17 Hs
                go_wp2
                go_ret
                exact ⟨ret_bool (by simp), HB17.out⟩
    · have f1 : ¬ (j : Int) < (m.length : Int) := by omega
      obtain ⟨wA, rfl⟩ : ∃ wA, wA = wr := ⟨_, rfl⟩
      have hPr := HP2.out.below (w' := wA) (by rw [← HH.out]; exact HB.out)
      have HPr := hid hPr
      clear hPr
      go_wp2_with (fail)
      refine (image_ap HPr.out.pair.disk (by rw [Hpl.out]; omega) (by rw [Hpl.out]; omega)).mono ?_
      rintro e w5 ⟨b1, vs1, rfl, hI, hB5, hap5⟩
      rw [Hpl.out] at hI ⊢
      have hvl : vs1.length = 4 := by rw [hI.vlen]; exact Hpl.out
      have hrow5 := hI.row
      rw [Hpl.out] at hrow5
      have hpg5 : Pages256 w5 wA.heap.size vs1 := fun u hu => by
        obtain ⟨i, hi, rfl⟩ := List.getElem_of_mem hu
        have hi2 : i < (psOf fs ls).length := by rw [Hpl.out]; omega
        have h256 := psOf_full fs ls Hff.out (fun c hc => (HPr.out.ok c hc).2) _ (List.getElem_mem hi2)
        have := hI.rows i hi2 hi
        rw [h256] at this
        exact ⟨_, h256, this⟩
      have Hrow5 := hid hrow5
      have Hpg5 := hid hpg5
      have Hap5 := hid hap5
      have HB5 := hid hB5
      have Hvl := hid hvl
      obtain ⟨HX, hHX⟩ : ∃ HX, HX = wA.heap.size := ⟨_, rfl⟩
      rw [← hHX] at Hrow5 Hpg5 HB5
      have HHX := hid hHX
      clear hI hB5 hap5 hrow5 hpg5 hvl hHX
      go_wp2
      go_loopw [11] (fun i wq => ∃ k : Nat, k ≤ 4 ∧ i = .int .i64 (k : Int) ∧ wq.ownsRow HX 28 1 (.slice (some ⟨b1, 0, none⟩) 4 4) 4 vs1 ∧ Pages256 wq HX vs1 ∧ Below HX wA wq) (fun i _ => 4 - (intOf i).toNat)
      case atStart => exact ⟨0, by omega, rfl, Hrow5.out, Hpg5.out, HB5.out⟩
      case round =>
        obtain ⟨k, hk, rfl, hrw, hpw, hBq⟩ := hrel
        have Hrw := hid hrw
        have Hpw := hid hpw
        have HBq := hid hBq
        clear hrw hpw hBq Hrow5 Hpg5 HB5
        by_cases hk4 : k < 4
        · have hkv : k < vs1.length := by rw [Hvl.out]; exact hk4
          obtain ⟨xs, hxl, hox⟩ := Hpw.out _ (List.getElem_mem hkv)
          obtain ⟨q, cq, hue, hqb, hql⟩ := hox.form (by omega)
          have k1 := (Hrw.out.cellAt k (by omega)).trans (List.getElem?_eq_getElem hkv)
          rw [hue] at k1 hox
          have k2 := (hox.cellAt 0 (by omega)).trans (cellsOf_get xs 0 (by omega))
          have k3 := hox.frozenAt 0
          have hqne : q ≠ b1 := fun e => Hap5.out _ (List.getElem_mem hkv) (by rw [hue, e]; rfl)
          generalize (xs[0]'(by omega)).toNat = c7 at k2
          have g0 : (0 : Int) ≤ (k : Int) := by omega
          have g1 : (k : Int) < 4 := by omega
          clear hox hue hkv
          go_wp2
          go_roundw
          case rel =>
            refine ⟨k + 1, by omega, by go_num, own_keep Hrw.out fun t e => heap_setCell_other _ _ _ _ (fun e' => hqne (by rw [← own_slice e]; exact e'.symm)), Hpw.out.store q 200, HBq.out.setCell hqb _⟩
          case measure => simp [intOf]; omega
        · have g1 : ¬ (k : Int) < 4 := by omega
          have hBq' : Below wA.heap.size wA wr := by rw [← HHX.out]; exact HBq.out
          have HPq := hid (HPr.out.below hBq')
          have HDq := hid (HD.out.below hBq')
          have HBwq := hid (HBw.out.trans (hBq'.mono HBw.out.size))
          clear hBq' Hrw Hpw HBq HPr
          obtain ⟨wB, rfl⟩ : ∃ wB, wB = wr := ⟨_, rfl⟩
          have Hw := hid (writes_ok HPq.out.pair.disk (by rw [Hcl.out]; omega))
          rw [Hcl.out] at Hw
          go_wp2_with (fail)
          refine Hw.out.mono ?_
          rintro e w6 ⟨bw, rfl, hW, hB6⟩
          have HW := hid hW
          have HB6 := hid hB6
          obtain ⟨HY, hHY⟩ : ∃ HY, HY = wB.heap.size := ⟨_, rfl⟩
          rw [← hHY] at HW HB6
          have HHY := hid hHY
          clear hW hB6 Hw hHY
          go_wp2
          go_loopw [13] (fun i wz => ∃ (k : Nat) (xs : List Value), k ≤ ls.length ∧ i = .int .i64 (k : Int) ∧ wz.ownsRow HY 3 1 (.slice (some ⟨bw, 0, none⟩) ls.length ls.length) ls.length xs ∧ Below HY wB wz) (fun i _ => ls.length - (intOf i).toNat)
          case atStart => exact ⟨0, _, by omega, rfl, HW.out, HB6.out⟩
          case round =>
            obtain ⟨k, xs, hk, rfl, hox, hBz⟩ := hrel
            have Hox := hid hox
            have HBz := hid hBz
            clear hox hBz HW HB6
            by_cases hkl : k < ls.length
            · have hxl : xs.length = ls.length := by have := Hox.out.1; omega
              have k1 := (Hox.out.cellAt k (by omega)).trans (List.getElem?_eq_getElem (by omega))
              have k2 := Hox.out.frozenAt k
              have hbw := (Hox.out.lt bw rfl).1
              have Hs := hid (Hox.out.stored k (.int .i64 (-5)))
              generalize xs[k]'(by omega) = old at k1
              have g0 : (0 : Int) ≤ (k : Int) := by omega
              have g1 : (k : Int) < (ls.length : Int) := by omega
              clear hxl
              go_wp2
              go_roundw
              case rel => exact ⟨k + 1, _, by omega, by go_num, Hs.out.1, HBz.out.setCell hbw _⟩
              case measure => simp [intOf]; omega
            · have g1 : ¬ (k : Int) < (ls.length : Int) := by omega
              have hBz' : Below wB.heap.size wB wr := by rw [← HHY.out]; exact HBz.out
              have HPz := hid (HPq.out.below hBz')
              have HDz := hid (HDq.out.below hBz')
              have HBwz := hid (HBwq.out.trans (hBz'.mono HBwq.out.size))
              clear hBz' Hox HBz HPq HDq HBwq
              have h0p : 0 < (psOf fs ls).length := by rw [Hpl.out]; omega
              have Hrd := hid (read_ok HPz.out.pair.disk 0 h0p)
              have h256 := psOf_full fs ls Hff.out (fun c hc => (HPz.out.ok c hc).2) _ (List.getElem_mem h0p)
              rw [h256] at Hrd
              generalize (psOf fs ls)[0] = x0 at *
              go_wp2_with (fail)
              refine Hrd.out.mono ?_
              rintro e w7 ⟨u, rfl, hu, hB7, _⟩
              obtain ⟨bb, cb, rfl, hbb, _⟩ := hu.form (by omega)
              have k1 := (hu.cellAt 0 (by omega)).trans (cellsOf_get x0 0 (by omega))
              have k2 := hu.frozenAt 0
              generalize (x0[0]'(by omega)).toNat = c7 at k1
              have hB7' : Below wr.heap.size wr (w7.setCell ⟨bb, 0, none⟩ (.int .u8 201)) := hB7.setCell hbb _
              have HP7 := hid (HPz.out.below hB7')
              have HD7 := hid (HDz.out.below hB7')
              have HB7 := hid (HBwz.out.trans (hB7'.mono HBwz.out.size))
              clear hu hB7 hB7' Hrd HPz HDz HBwz h256 h0p
              go_wp2_with (fail)
              generalize w7.setCell ⟨bb, 0, none⟩ (.int .u8 201) = w8 at *
              refine (image_ok HP7.out.pair.disk (by rw [Hpl.out]; omega) (by rw [Hpl.out]; omega)).mono ?_
              rintro e w9 ⟨c1, vs2, rfl, hI, hB9⟩
              rw [Hpl.out] at hI ⊢
              have HI := hid hI
              have HP9 := hid (HP7.out.below hB9)
              have HD9 := hid (HD7.out.below hB9)
              have HB9 := hid (HB7.out.trans (hB9.mono HB7.out.size))
              clear hI hB9 HP7 HD7 HB7 k1 k2
              go_wp2_with (fail)
              refine (refImage_ok HP9.out.pair.ref HP9.out.ok Hff.out (by rw [Hfl.out]; omega) (by rw [Hfl.out]; omega) (by omega)).mono ?_
              rintro e w10 ⟨c2, d2, vs3, rfl, hJ, hB10⟩
              rw [Hfl.out] at hJ ⊢
              have Hsa := hid (sameAll_eq Hpl.out.symm (HI.out.below hB10) hJ (by rw [Hpl.out]; omega) (fun p hp => by rw [psOf_full fs ls Hff.out (fun c hc => (HP9.out.ok c hc).2) p hp]; omega))
              have HP10 := hid (HP9.out.below hB10)
              have HD10 := hid (HD9.out.below hB10)
              have HB10 := hid (HB9.out.trans (hB10.mono HB9.out.size))
              clear hJ hB10 HI HP9 HD9 HB9
              go_wp2_with (fail)
              refine Hsa.out.mono ?_
              rintro e w11 ⟨rfl, hB11⟩
              have HP11 := hid (HP10.out.below hB11)
              have HD11 := hid (HD10.out.below hB11)
              have HB11 := hid (HB10.out.trans (hB11.mono HB10.out.size))
              clear hB11 Hsa HP10 HD10 HB10
              have Hw := hid (writes_ok HP11.out.pair.disk (by rw [Hcl.out]; omega))
              rw [Hcl.out, chOf_get] at Hw
              go_wp2_with (fail)
              refine Hw.out.mono ?_
              rintro e w12 ⟨bw2, rfl, hW2, hB12⟩
              have HW2 := hid hW2
              have HP12 := hid (HP11.out.below hB12)
              have HD12 := hid (HD11.out.below hB12)
              have HB12 := hid (HB11.out.trans (hB12.mono HB11.out.size))
              clear hW2 hB12 Hw HP11 HD11 HB11
              go_wp2_with (fail)
              refine (refWrites_ok HP12.out.pair.ref (by omega)).mono ?_
              rintro e w13 ⟨V, rfl, hV, hB13⟩
              have hlm : (ls.map (·.1)).length = ls.length := by simp
              have Hsi := hid (sameInts_eq (l := ls.map (·.1)) (by rw [hlm]; exact own_below HW2.out hB13) (by rw [hlm]; exact hV) (by rw [hlm]; omega))
              have HP13 := hid (HP12.out.below hB13)
              have HD13 := hid (HD12.out.below hB13)
              have HB13 := hid (HB12.out.trans (hB13.mono HB12.out.size))
              clear hV hB13 hlm HW2 HP12 HD12 HB12
              go_wp2_with (fail)
              refine Hsi.out.mono ?_
              rintro e w14 ⟨rfl, hB14⟩
              have HP14 := hid (HP13.out.below hB14)
              have HD14 := hid (HD13.out.below hB14)
              have HB14 := hid (HB13.out.trans (hB14.mono HB13.out.size))
              clear hB14 Hsi HP13 HD13 HB13
              have Hcd := hid (count_any HP14.out.pair.disk)
              rw [Hcl.out] at Hcd
              go_wp2_with (fail)
              refine (count_any HD14.out).mono ?_
              rintro e w15 ⟨rfl, rfl⟩
              go_wp2_with (fail)
              refine Hcd.out.mono ?_
              rintro e w15 ⟨rfl, rfl⟩
              have g9 : (ls.length : Int) ≤ (chf.length : Int) := by omega
              go_wp2_with (fail)
              refine (fork_ok HP14.out.pair.disk (by rw [Hpl.out]; omega) (by rw [Hpl.out]; omega) (by rw [Hcl.out]; omega)).mono ?_
              rintro e w16 ⟨f2, g2, cf2, vf2, rfl, hF2, hB16⟩
              have Hs := hid (same_any (HP14.out.below hB16).pair.disk hF2 rfl)
              simp only [decide_true] at Hs
              have HB16 := hid (HB14.out.trans (hB16.mono HB14.out.size))
              clear hF2 hB16 HP14 HD14 HB14
              go_wp2_with (fail)
              refine Hs.out.mono ?_
              rintro e w17 ⟨rfl, hB17⟩
              have HB17 := hid (HB16.out.trans (hB17.mono HB16.out.size))
              clear hB17 Hs
              go_wp2
              go_ret
              exact ⟨ret_bool (by simp), HB17.out⟩
end Go.Proofs.Ytgiifodhofdpaaa
