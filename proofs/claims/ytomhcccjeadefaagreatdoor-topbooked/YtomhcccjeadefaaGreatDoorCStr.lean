/- YtomhcccjeadefaaGreatDoorCB18 + YtomhcccjeadefaaGreatDoorCBL + YtomhcccjeadefaaGreatDoorCStr -/
import Derived.Test.YtomhcccjeadefaaGreatDoorCB17
import Derived.Test.YtomhcccjeadefaaGreatDoorCards
import Derived.Test.YtomhcccjeadefaaGreatDoorTie
import Derived.ProofKit
import Derived.OpenShut
import Derived.ShutString
import Derived.ChangeOld
import Derived.Deep.DeepHandedRow
import Derived.Lib.LaidTab
import Derived.Stop.LaidErr
import Derived.SizedLaws
import Derived.SliceStrings
/- TopBooked walked. (UNFINISHED: it stands at the loop over the columns.) -/
namespace Go.Proofs.YtomhcccjeadefaaGreatDoor
open Go.RowKit Go.Maps
set_option linter.unusedVariables false
set_option maxRecDepth 20000
set_option maxHeartbeats 4000000 in
theorem topBooked_walk {W : World} (p : ByteArray) (hp : p.size ≤ 140737488351232) (x : Nat) (hx : x ≤ 255) (hTK : TabAt W ∧ KAt W) :
    Calls Tryz.prog 3 #[.string p, .int .u8 (x : Int)] W fun e w' => e = .returned (.bool true) ∧ Below W.heap.size W w' := by
  have HTK := hid hTK
  clear hTK
  go_enter Tryz.func3, Tryz.ntmps3
  go_wp2_with fail
  refine (newBook_any W).mono ?_
  rintro _ w1 ⟨gb, mb, rfl, h1, b1⟩
  have H1 := hid h1
  have B1 := hid b1
  clear h1 b1
  have hcv := Lib.run_convert_bytes_const (P := Tryz.prog) w1 29 5 #[.int .u8 114, .int .u8 111, .int .u8 111, .int .u8 116] 4 4 Tryz.underlying29 Tryz.underlying5
  go_wp2_with fail
  have b1a : ∀ f, Below w1.heap.size w1 (w1.alloc (.cells #[.int .u8 114, .int .u8 111, .int .u8 111, .int .u8 116] 5 f)) := fun f => (Below.refl _ w1).alloc (Nat.le_refl _) _
  refine (hsum_any [114, 111, 111, 116] (some ⟨w1.heap.size, 0, none⟩) 4 4 rfl (bytes_fr [114, 111, 111, 116] 5 (heap_alloc_fr w1 _)) (by decide) (by decide) (HTK.out.2.below (Below.on' B1.out (b1a _)))).mono ?_
  rintro _ w2 ⟨O, rfl, hO, b2⟩
  have B2 := hid (Below.on' (Below.on' B1.out (b1a _)) b2)
  have hOe := hO.out.eq
  have hOl := hO.out.len
  generalize sha [114, 111, 111, 116] = root at hO hOe hOl
  rw [hOe]
  have H2 := hid ((H1.out.below (b1a _)).below b2)
  clear hO hOe b1a hcv H1 B1 b2
  go_wp2_with fail
  refine (new_tB w2 root hOl).mono ?_
  rintro _ w3 ⟨g, mv, mg, rfl, t3, b3⟩
  have H3 := hid (H2.out.below b3)
  have T3 := hid t3
  have B3 := hid (Below.on' B2.out b3)
  have Hap : Hid (∀ j, Mine g mv mg j → j ≠ mb) := fun j hj e => by
    have h1 := t3.bgs j hj
    have h2 := H2.out.mp.lt
    omega
  have HtO : Hid (∀ j, Mine g mv mg j → j < w3.heap.size) := Bk.tlt t3
  have Hs02 := hid B2.out.size
  clear t3 b3 B2 H2
  obtain ⟨w4, hw4⟩ : ∃ w4, w4 = w3.alloc (.cells #[.string oT, .string oU] 31) := ⟨_, rfl⟩
  have b4 : Below w3.heap.size w3 w4 := by rw [hw4]; exact (Below.refl _ w3).alloc (Nat.le_refl _) _
  have x4 : w4.heap[w3.heap.size]? = some (.cells #[.string oT, .string oU] 31 (0, 0)) := by rw [hw4]; exact heap_alloc_new w3 _
  have y0 : w4.cell? ⟨w3.heap.size, 0, none⟩ = some (.string oT) := cell_of_row _ _ 0 _ _ _ x4
  have y1 : w4.cell? ⟨w3.heap.size, 1, none⟩ = some (.string oU) := cell_of_row _ _ 1 _ _ _ x4
  have H4 := hid (H3.out.below b4)
  have T4 := hid (T3.out.below b4)
  have B4 := hid (Below.on' B3.out b4)
  have X4 := hid x4
  have HW4 := hid hw4
  clear b4 x4 hw4
  go_wp2_with fail
  rw [show w3.alloc (.cells #[.string ⟨#[116]⟩, .string ⟨#[117]⟩] 31) = w4 from HW4.out.symm]
  refine (addBook_any (B := W.heap.size) H4.out B4.out.size p (by omega) (tab_kat HTK.out B4.out).2).mono ?_
  rintro _ w5 (⟨hlong, rfl, b5⟩ | ⟨hshort, rfl, o5, r, hb5, hr5, hBr⟩)
  · have B5 := hid (Below.on' B4.out b5)
    have H5 := hid (H4.out.below b5)
    clear b5
    go_wp2_with (go_at_call 8; refine (rowsNone H5.out).mono ?_; rintro _ w6 ⟨rfl, b6⟩; have B6 := hid (Below.on' B5.out b6); clear b6)
    go_ret
    exact ⟨rfl, B6.out⟩
  · have B5 : Hid (Below W.heap.size W w5) := B4.out.trans (o5.below B4.out.size (fun k hk => hk ▸ H4.out.bm))
    have T5 := hid (T4.out.outB o5 (fun j hj e => Hap.out j hj e))
    have X5 := hid ((o5.block _ (heap_lt X4.out) (fun e => by have := H3.out.mp.lt; omega)).trans X4.out)
    have H5 := hid hb5
    have R5 := hid hr5
    have HBr := hid hBr
    have hl := iterN_length p.data.toList saltB.data.toList 2
    obtain ⟨h, hh⟩ : ∃ h, h = iterN p.data.toList saltB.data.toList 2 := ⟨_, rfl⟩
    rw [← hh] at hl R5
    have Hh := hid hh
    have Hl := hid hl
    clear o5 hb5 hr5 hBr hh hl y0 y1 H4 T4 X4 H3 T3
    go_wp2_with (go_at_call 8; refine (rowsOne H5.out (⟨R5.out, (tab_kat HTK.out B5.out).1⟩ : RecS r 0 0 h 2 w5) Hl.out (by omega) (by omega) (by omega)).mono ?_; rintro _ w6 ⟨gr, cr, rfl, hcr, hrow, b6⟩; have B6 := hid (Below.on' B5.out b6); have T6 := hid (T5.out.below b6); have X6 := hid ((b6.block _ (heap_lt X5.out)).trans X5.out); have Hrow := hid hrow; have Hcr := hid hcr; have HtB : Hid (∀ j, Mine g mv mg j → j < w5.heap.size) := Bk.tlt T5.out; have HoB : Hid (w3.heap.size < w5.heap.size) := heap_lt X5.out; clear b6 hrow hcr)
    have HTB0 : Hid (TB W w6 w2.heap.size w5.heap.size w3.heap.size g mv mg gr 0 root h) := ⟨0, 0, 0, by omega, by omega, by omega, T6.out, Hrow.out, B6.out, X6.out⟩
    have Hsz : Hid (w3.heap.size < w5.heap.size ∧ w2.heap.size ≤ w5.heap.size ∧ W.heap.size ≤ w2.heap.size) := ⟨HoB.out, by have := HoB.out; have := T5.out.bgs g (.inl rfl); have := HtB.out g (.inl rfl); omega, Hs02.out⟩
    clear T6 X6 Hrow T5 X5 H5 R5 HBr B5 B6 B3
    go_loopw [10] (fun i wr => (i = .int .i64 0 ∧ TB W wr w2.heap.size w5.heap.size w3.heap.size g mv mg gr 0 root h) ∨ (i = .int .i64 1 ∧ TB W wr w2.heap.size w5.heap.size w3.heap.size g mv mg gr 5 root h)) (fun i _ => 1 - (intOf i).toNat)
    case atStart => exact .inl ⟨rfl, HTB0.out⟩
    case round =>
      clear HTB0
      rcases hrel with ⟨rfl, ht⟩ | ⟨rfl, ht⟩
      · have Ht := hid ht
        clear ht
        go_wp2_with fail
        go_loopw [11] (fun jv wr => ∃ j : Nat, j ≤ 5 ∧ jv = .int .i64 (j : Int) ∧ TB W wr w2.heap.size w5.heap.size w3.heap.size g mv mg gr j root h) (fun jv _ => 5 - (intOf jv).toNat)
        case atStart => exact ⟨0, by omega, rfl, Ht.out⟩
        case round =>
          clear Ht
          obtain ⟨j, hj5, rfl, k, n, d, hk, hn, hd, ht, hrow, hbw, hox⟩ := hrel
          obtain ⟨q, cA, hqB, hqlt, hqh, hcs, hqf⟩ := hrow.col
          have Hrow := hid hrow
          have Ht := hid ht
          have Hbw := hid hbw
          have Hox := hid hox
          have Hq := hid (And.intro hqB (And.intro hqlt (And.intro hqh hqf)))
          by_cases hj : j < 5
          · obtain ⟨c, hc⟩ : ∃ c, c = (colsB h)[j]'(by rw [colsB_len]; exact hj) := ⟨_, rfl⟩
            have hsz := colsB_size Hl.out c (by rw [hc]; exact List.getElem_mem _)
            have cB := hcs j hj
            rw [← hc] at cB
            obtain ⟨cap, w7, hcv, hB7, hcap, hb7⟩ := conv_str wr c
            have Hsz2 := hid hsz
            have Hc := hid hc
            have HB7 := hid hB7
            have B7 := hid hb7
            have HTK7 := hid (tab_kat HTK.out (Below.on' hbw hb7))
            have T7 := hid (ht.below hb7)
            clear hrow ht hbw hox hqB hqlt hqh hqf hcs hc hB7 hb7 hsz
            go_wp2_with (go_at_call 9; refine (Bk.seal_c T7.out (by omega) c.data.toList Hsz2.out.2.1 (some ⟨wr.heap.size, 0, none⟩) c.size cap (Lib.size_eq c) HB7.out HTK7.out.1 HTK7.out.2).mono ?_; rintro _ w8 ⟨gs, cp, rfl, hcp, hB8, hgs, t8, o8⟩; have HB8 := hid hB8; have T8 := hid t8; have O8 := hid o8; have Hgs := hid hgs; have Hcp := hid hcp; clear hB8 t8 o8 hgs hcp)
            have Hgm : Hid (¬ Mine g mv mg gs) := fun hm => by have := Bk.tlt T7.out gs hm; have := Hgs.out; omega
            go_loopw [14] (fun tv wr3 => ∃ t k1 : Nat, t ≤ x % 15 ∧ tv = .int .i64 (t : Int) ∧ k ≤ k1 ∧ k1 ≤ 15 ∧ TreeM wr3 w2.heap.size g mv mg root (Bk.bs k1 (n + 1)) (d + t) ∧ Bytes wr3 (some ⟨gs, 0, none⟩) (Bk.sealK root k n c.data.toList) ∧ OutJ (Mine g mv mg) w7 wr3) (fun tv _ => 15 - (intOf tv).toNat)
            case atStart => exact ⟨0, k, by omega, rfl, Nat.le_refl _, hk, T8.out, HB8.out, O8.out⟩
            case round =>
              clear T8 HB8 O8
              obtain ⟨t, k1, htx, rfl, hk1, hk2, t9, hB9, o9⟩ := hrel
              have T9 := hid t9
              have HB9 := hid hB9
              have O9 := hid o9
              clear t9 hB9 o9
              by_cases hlt : t < x % 15
              · have dlt : (t : Int) < (x : Int) % 15 := by omega
                go_wp2_with (go_at_call 10; refine (Bk.rot_c T9.out hk2 (by omega)).mono ?_; rintro _ w10 ⟨⟨v10, rfl⟩, t10, o10⟩; have T10 := hid t10; have O10 := hid (O9.out.trans o10); have HB10 := hid (HB9.out.outJ o10 Hgm.out); clear t10 o10)
                exact ⟨⟨t + 1, Bk.stepK k1, by omega, rfl, by have := Bk.stepK_le hk2; omega, (Bk.stepK_le hk2).1, T10.out, HB10.out, O10.out⟩, by simp [intOf]; omega⟩
              · obtain rfl : t = x % 15 := by omega
                have dlt : ¬ ((x % 15 : Nat) : Int) < (x : Int) % 15 := by omega
                have hbn : Hid (Below W.heap.size W wr) := (Below.on' Hbw.out B7.out).trans (O9.out.below (Below.on' Hbw.out B7.out).size (fun y hy => by have := T7.out.bgs y hy; have := Hsz.out.2.2; omega))
                have HR := Bk.reseal_c T9.out hk2 (by omega) c.data.toList Hsz2.out.2.1 k n hk1 (by omega) gs cp Hcp.out HB9.out (tab_kat HTK.out hbn.out).1 (tab_kat HTK.out hbn.out).2
                rw [← Lib.size_eq c] at HR
                have HRh := hid HR
                clear HR
                go_wp2_with (first
                  | (go_at_call 11; refine HRh.out.mono ?_; rintro _ w11 ⟨gn, cp2, b, n2, k3, o3, rfl, q1, hB11, q2, t11, q3, q4, q5, q6, o11⟩; have O11 := hid (O9.out.trans o11); have T11 := hid t11; have Q := hid (And.intro q3 (And.intro q4 q2)); have hbn2 : Hid (Below W.heap.size W w11) := hbn.out.trans (o11.below hbn.out.size (fun y hy => by have := T7.out.bgs y hy; have := Hsz.out.2.2; omega)); have HO := Bk.open_c t11 hk2 c.data.toList Hsz2.out.2.1 Hsz2.out.1 k3 o3 q5 q6 gn cp2 (by rw [← Lib.size_eq c]; exact q1) hB11 (tab_kat HTK.out hbn2.out).1 (tab_kat HTK.out hbn2.out).2; rw [← Lib.size_eq c] at HO; have HOh := hid HO; clear HO q1 hB11 q2 t11 q3 q4 q5 q6 o11)
                  | (go_at_call 12; refine HOh.out.mono ?_; rintro _ w12 ⟨v12, rfl, hcv12, b12⟩; have B12 := hid b12; clear b12))
                have hr12 := ((Hrow.out.below B7.out).outJ O11.out HtB.out).below B12.out
                have ho12 := ((B7.out.block _ (heap_lt Hox.out)).trans Hox.out)
                have ho13 := (O11.out.block _ (heap_lt ho12) (fun hm => by have := HtO.out _ hm; omega)).trans ho12
                have hTB : Hid (TB W w12 w2.heap.size w5.heap.size w3.heap.size g mv mg gr (j + 1) root h) := ⟨k1, n2, d + x % 15, hk2, by have := Q.out; omega, by omega, T11.out.below B12.out, hr12, Below.on' hbn2.out B12.out, (B12.out.block _ (heap_lt ho13)).trans ho13⟩
                obtain ⟨q', cA', hqB', hqlt', hqh', hcs', hqf'⟩ := hr12.col
                have cB' := hcs' j hj
                rw [← Hc.out] at cB'
                have fB' := hqf' j
                have hjc : Hid (((colsB h).map Value.string)[j]? = some (.string c)) := by
                  show _ = _
                  rw [List.getElem?_map, List.getElem?_eq_getElem (by rw [colsB_len]; exact hj), ← Hc.out]
                  rfl
                have Hqh := hid hqh'
                have hjI : (j : Int) < 5 := by omega
                clear hqB' hqlt' hqh' hcs' hqf' ho12 ho13 hr12
                go_region
                all_goals (try go_wp2_with fail)
                exact ⟨⟨j + 1, by omega, rfl, hTB.out.eqv Hqh.out hjc.out⟩, by simp [intOf]; omega⟩
          · obtain rfl : j = 5 := by omega
            clear hrow ht hbw hox hqB hqlt hqh hqf hcs
            go_wp2_with fail
            exact ⟨.inr ⟨rfl, k, n, d, hk, hn, hd, Ht.out, Hrow.out, Hbw.out, Hox.out⟩, by simp [intOf]⟩
      · obtain ⟨k, n, d, _, _, _, _, hrow, hbw, hox⟩ := ht
        have Hbw := hid hbw
        have Hox := hid hox
        have HL := hid (load_ok (c := cr) hrow Hl.out)
        clear hrow hbw hox
        go_wp2_with (first
          | (go_at_call 13; refine HL.out.mono ?_; rintro _ v1 ⟨gl, ml, rl, rfl, hb1, hr1, hB1, b1⟩; have Hb1 := hid hb1; have Hr1 := hid hr1; have HB1 := hid hB1; have Bv1 := hid b1; have Xv1 := hid ((b1.block _ (heap_lt Hox.out)).trans Hox.out); clear hb1 hr1 hB1 b1; have y0 : v1.cell? ⟨w3.heap.size, 0, none⟩ = some (.string oT) := cell_of_row _ _ 0 _ _ _ Xv1.out; have y1 : v1.cell? ⟨w3.heap.size, 1, none⟩ = some (.string oU) := cell_of_row _ _ 1 _ _ _ Xv1.out)
          | (go_at_call 14; refine (try_ok Hb1.out Hr1.out Bv1.out.size HB1.out).mono ?_; rintro _ v2 ⟨rfl, hb2, hr2, b2⟩; have Hb2 := hid hb2; have Hr2 := hid hr2; rw [Hh.out] at Hr2; have Bv2 := hid b2; have Xv2 := hid ((b2.block _ (heap_lt Hox.out)).trans Xv1.out); clear hb2 hr2 b2 y0 y1; have bw2 : Hid (Below W.heap.size W v2) := (Below.on' Hbw.out Bv1.out).trans (Bv2.out.mono Hbw.out.size); have y0 : v2.cell? ⟨w3.heap.size, 0, none⟩ = some (.string oT) := cell_of_row _ _ 0 _ _ _ Xv2.out; have y1 : v2.cell? ⟨w3.heap.size, 1, none⟩ = some (.string oU) := cell_of_row _ _ 1 _ _ _ Xv2.out; have hsz2 : Hid (wr.heap.size ≤ v2.heap.size) := Nat.le_trans Bv1.out.size Bv2.out.size)
          | (go_at_call 15; refine (check_ok hshort Hb2.out Hr2.out hsz2.out HB1.out (tab_kat HTK.out bw2.out).2 (tab_kat HTK.out bw2.out).1).mono ?_; rintro _ v3 ⟨rfl, hb3, hr3, b3⟩; have Hb3 := hid hb3; have Hr3 := hid hr3; rw [← Hh.out] at Hr3; have bw3 : Hid (Below W.heap.size W v3) := bw2.out.trans (b3.mono Hbw.out.size); clear hb3 hr3 b3)
          | (go_at_call 8; refine (rowsOne Hb3.out (⟨Hr3.out, (tab_kat HTK.out bw3.out).1⟩ : RecS rl 0 0 h 2 v3) Hl.out (by omega) (by omega) (by omega)).mono ?_; rintro _ v4 ⟨g9, c9, rfl, hc9, hrow9, b9⟩; have B9 := hid (Below.on' bw3.out b9); clear hc9 hrow9 b9))
        go_ret
        exact ⟨rfl, B9.out⟩
end Go.Proofs.YtomhcccjeadefaaGreatDoor
/- What the card of TopBooked wants: the listed tables' witness (six tables), and what a walk is told of them. -/
namespace Go.Proofs.YtomhcccjeadefaaGreatDoor
open Go.ChangeShapes Go.WideShapes Go.ChangeAt Go.RowKit Go.Deep
set_option maxRecDepth 20000
theorem own : ownKnob Tryz.prog.godebug = none := by kernel_rfl
theorem gTab : Tryz.prog.globalNamed "holdfast/hash.roundWords" = some 0 := by kernel_rfl
theorem gTabType : (Tryz.prog.globals[0]?).map (·.type) = some 124 := by kernel_rfl
theorem cellsTab : Tryz.prog.cellsOf 124 = 64 := by kernel_rfl
theorem cellsWord : Tryz.prog.cellsOf 59 = 1 := by kernel_rfl
theorem cellsByte : Tryz.prog.cellsOf 5 = 1 := by kernel_rfl
theorem gTab8 : Tryz.prog.globalNamed "math/bits.deBruijn64tab" = some 6 := by kernel_rfl
theorem gTabType8 : (Tryz.prog.globals[6]?).map (·.type) = some 62 := by kernel_rfl
theorem cellsTab8 : Tryz.prog.cellsOf 62 = 64 := by kernel_rfl
abbrev laidList : List (String × DataW Unit) := Rows.topBookedRow.laid
def KZ : List Int := [1116352408, 1899447441, 3049323471, 3921009573, 961987163, 1508970993, 2453635748, 2870763221, 3624381080, 310598401, 607225278, 1426881987, 1925078388, 2162078206, 2614888103, 3248222580, 3835390401, 4022224774, 264347078, 604807628, 770255983, 1249150122, 1555081692, 1996064986, 2554220882, 2821834349, 2952996808, 3210313671, 3336571891, 3584528711, 113926993, 338241895, 666307205, 773529912, 1294757372, 1396182291, 1695183700, 1986661051, 2177026350, 2456956037, 2730485921, 2820302411, 3259730800, 3345764771, 3516065817, 3600352804, 4094571909, 275423344, 430227734, 506948616, 659060556, 883997877, 958139571, 1322822218, 1537002063, 1747873779, 1955562222, 2024104815, 2227730452, 2361852424, 2428436474, 2756734187, 3204031479, 3329325298]
theorem kz_at : ∀ i : Fin 64, KZ[i.val]'i.isLt = ((KL[i.val]'(by rw [KL_length]; exact i.isLt)).toNat : Int) := by decide +kernel
theorem kat_of {W : World} (h : laidMetH Tryz.prog laidList W) : KAt W := by
  have h0 : laidMet Tryz.prog laidList W := h
  have h1 := laidMet.tail (laidMet.tail (laidMet.tail (laidMet.tail h0)))
  have h2 : Lib.TabIs Tryz.prog W "holdfast/hash.roundWords" .u32 KZ :=
    Lib.tabIs_of_head (rest := [("unicode/utf8.first", Rows.laid_unicode_utf8_first)]) gTab gTabType Tryz.underlying124 Tryz.underlying59 cellsWord cellsTab h1
  intro i hi
  have h3 := h2.cell gTab i hi
  rw [h3]
  have h4 := kz_at ⟨i, hi⟩
  simp only at h4
  show some (Value.int .u32 (KZ.getD i 0)) = some (.int .u32 _)
  rw [← h4, List.getD_eq_getElem?_getD, List.getElem?_eq_getElem (show i < KZ.length from hi)]
  rfl
theorem tab8_of {W : World} (h : laidMetH Tryz.prog laidList W) : TabAt W := by
  have h0 : laidMet Tryz.prog laidList W := h
  have h1 := laidMet.tail h0
  have h2 : Lib.TabIs Tryz.prog W "math/bits.deBruijn64tab" .u8 [0, 1, 56, 2, 57, 49, 28, 3, 61, 58, 42, 50, 38, 29, 17, 4, 62, 47, 59, 36, 45, 43, 51, 22, 53, 39, 33, 30, 24, 18, 12, 5, 63, 55, 48, 27, 60, 41, 37, 16, 46, 35, 44, 21, 52, 32, 23, 11, 54, 26, 40, 15, 34, 20, 31, 10, 25, 14, 19, 9, 13, 8, 7, 6] :=
    Lib.tabIs_of_head (rest := [("internal/strconv.uint64pow10", Rows.laid_internal_strconv_uint64pow10), ("unicode/utf8.acceptRanges", Rows.laid_unicode_utf8_acceptRanges), ("holdfast/hash.roundWords", Rows.laid_holdfast_hash_roundWords), ("unicode/utf8.first", Rows.laid_unicode_utf8_first)]) gTab8 gTabType8 Tryz.underlying62 Tryz.underlying5 cellsByte cellsTab8 h1
  exact h2.cell gTab8 15 (by decide)
def firstCells : Array Value := (Go.Pinned.utf8FirstZ.map fun (n : Nat) => Value.int .u8 (n : Int)).toArray
def laidAs (c : Array Value) : Obj → Obj
  | .cells _ t frozen => .cells c t frozen
  | o => o
def laidWorld (w : World) : World :=
  { w with heap := (((((w.heap.modify 3 (laidAs firstCells)).modify 4 (laidAs #[.int .u8 128, .int .u8 191, .int .u8 160, .int .u8 191, .int .u8 128, .int .u8 159, .int .u8 144, .int .u8 191, .int .u8 128, .int .u8 143, .int .u8 0, .int .u8 0, .int .u8 0, .int .u8 0, .int .u8 0, .int .u8 0, .int .u8 0, .int .u8 0, .int .u8 0, .int .u8 0, .int .u8 0, .int .u8 0, .int .u8 0, .int .u8 0, .int .u8 0, .int .u8 0, .int .u8 0, .int .u8 0, .int .u8 0, .int .u8 0, .int .u8 0, .int .u8 0])).modify 2 (laidAs #[.int .u64 1, .int .u64 10, .int .u64 100, .int .u64 1000, .int .u64 10000, .int .u64 100000, .int .u64 1000000, .int .u64 10000000, .int .u64 100000000, .int .u64 1000000000, .int .u64 10000000000, .int .u64 100000000000, .int .u64 1000000000000, .int .u64 10000000000000, .int .u64 100000000000000, .int .u64 1000000000000000, .int .u64 10000000000000000, .int .u64 100000000000000000, .int .u64 1000000000000000000, .int .u64 10000000000000000000])).modify 5 (laidAs #[.int .u8 0, .int .u8 1, .int .u8 28, .int .u8 2, .int .u8 29, .int .u8 14, .int .u8 24, .int .u8 3, .int .u8 30, .int .u8 22, .int .u8 20, .int .u8 15, .int .u8 25, .int .u8 17, .int .u8 4, .int .u8 8, .int .u8 31, .int .u8 27, .int .u8 13, .int .u8 23, .int .u8 21, .int .u8 19, .int .u8 16, .int .u8 7, .int .u8 26, .int .u8 12, .int .u8 18, .int .u8 6, .int .u8 11, .int .u8 5, .int .u8 10, .int .u8 9])).modify 6 (laidAs #[.int .u8 0, .int .u8 1, .int .u8 56, .int .u8 2, .int .u8 57, .int .u8 49, .int .u8 28, .int .u8 3, .int .u8 61, .int .u8 58, .int .u8 42, .int .u8 50, .int .u8 38, .int .u8 29, .int .u8 17, .int .u8 4, .int .u8 62, .int .u8 47, .int .u8 59, .int .u8 36, .int .u8 45, .int .u8 43, .int .u8 51, .int .u8 22, .int .u8 53, .int .u8 39, .int .u8 33, .int .u8 30, .int .u8 24, .int .u8 18, .int .u8 12, .int .u8 5, .int .u8 63, .int .u8 55, .int .u8 48, .int .u8 27, .int .u8 60, .int .u8 41, .int .u8 37, .int .u8 16, .int .u8 46, .int .u8 35, .int .u8 44, .int .u8 21, .int .u8 52, .int .u8 32, .int .u8 23, .int .u8 11, .int .u8 54, .int .u8 26, .int .u8 40, .int .u8 15, .int .u8 34, .int .u8 20, .int .u8 31, .int .u8 10, .int .u8 25, .int .u8 14, .int .u8 19, .int .u8 9, .int .u8 13, .int .u8 8, .int .u8 7, .int .u8 6])).modify 0 (laidAs #[.int .u32 1116352408, .int .u32 1899447441, .int .u32 3049323471, .int .u32 3921009573, .int .u32 961987163, .int .u32 1508970993, .int .u32 2453635748, .int .u32 2870763221, .int .u32 3624381080, .int .u32 310598401, .int .u32 607225278, .int .u32 1426881987, .int .u32 1925078388, .int .u32 2162078206, .int .u32 2614888103, .int .u32 3248222580, .int .u32 3835390401, .int .u32 4022224774, .int .u32 264347078, .int .u32 604807628, .int .u32 770255983, .int .u32 1249150122, .int .u32 1555081692, .int .u32 1996064986, .int .u32 2554220882, .int .u32 2821834349, .int .u32 2952996808, .int .u32 3210313671, .int .u32 3336571891, .int .u32 3584528711, .int .u32 113926993, .int .u32 338241895, .int .u32 666307205, .int .u32 773529912, .int .u32 1294757372, .int .u32 1396182291, .int .u32 1695183700, .int .u32 1986661051, .int .u32 2177026350, .int .u32 2456956037, .int .u32 2730485921, .int .u32 2820302411, .int .u32 3259730800, .int .u32 3345764771, .int .u32 3516065817, .int .u32 3600352804, .int .u32 4094571909, .int .u32 275423344, .int .u32 430227734, .int .u32 506948616, .int .u32 659060556, .int .u32 883997877, .int .u32 958139571, .int .u32 1322822218, .int .u32 1537002063, .int .u32 1747873779, .int .u32 1955562222, .int .u32 2024104815, .int .u32 2227730452, .int .u32 2361852424, .int .u32 2428436474, .int .u32 2756734187, .int .u32 3204031479, .int .u32 3329325298]) }
theorem laid_met (os : Os) (args : Array Value) : laidMet Tryz.prog laidList ((laidWorld (World.holding Tryz.prog os ⟨#[], #[], []⟩)).forCall (fun _ _ => 0) ⟨#[], args, []⟩).memory :=
  laidMet_of_run' 8 (by kernel_rfl) (by kernel_rfl)
theorem topBooked_row (p : ByteArray) (hp : p.size ≤ 140737488351232) (nk : Int) (hnk : (Lit.int .u8 nk).wf = true) {W : World} (hT : TabAt W ∧ KAt W) : Calls Tryz.prog 3 #[.string p, .int .u8 nk] W fun e w' => e = .returned (.bool true) ∧ Below W.heap.size W w' := by
  have hn0 : 0 ≤ nk ∧ nk ≤ 255 := by simpa [Lit.wf, IntKind.min, IntKind.max, IntKind.signed, IntKind.bits] using hnk
  obtain ⟨kk, rfl⟩ : ∃ m : Nat, nk = m := ⟨nk.toNat, by omega⟩
  exact topBooked_walk p hp kk (by omega) hT
end Go.Proofs.YtomhcccjeadefaaGreatDoor
/- How long a text is that came in. -/
namespace Go.Proofs.YtomhcccjeadefaaGreatDoor
open Go.ChangeShapes Go.WideShapes Go.ChangeAt Go.RowKit
theorem size_str {H : Type} {ts : List TypeId} {ds : List (DataW H)} {j : Nat} {l : List UInt8}
    (hsz : (DataW.weightsEach Tryz.prog ts ds).all (· ≤ reachBytes) = true) (ht : ts[j]? = some 9) (hd : ds[j]? = some (.lit (.string l))) : l.length ≤ 140737488351232 := by
  have := List.all_eq_true.1 hsz _ (DataW.weights_mem_each ht hd l.length (by simp [DataW.weights]))
  exact of_decide_eq_true this
end Go.Proofs.YtomhcccjeadefaaGreatDoor
