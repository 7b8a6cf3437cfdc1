/- live of the laws of layer 1: it tells true. -/
import Derived.Test.YtgiifodhofdpaaaBSame
namespace Go.Proofs.Ytgiifodhofdpaaa
open Go.RowKit
set_option linter.unusedVariables false

theorem two_pages : List.replicate 2 zpage = [zpage, zpage] := rfl
theorem zpage_length : zpage.length = 256 := List.length_replicate
theorem zpage_cell {w : World} {b : Nat} (h : Bytes w (some ⟨b, 0, none⟩) zpage) : w.cell? ⟨b, 0, none⟩ = some (.int .u8 0) := by
  obtain ⟨b', o', e, hc⟩ := h 0 (by rw [zpage_length]; omega)
  cases e
  have : (zpage[0]'(by rw [zpage_length]; omega)) = 0 := List.getElem_replicate ..
  rw [this] at hc
  exact hc

set_option maxHeartbeats 1600000 in
set_option maxRecDepth 20000 in
theorem live_any (w : World) : Calls Try.prog 13 #[] w fun e w' => e = .returned (.bool true) ∧ Below w.heap.size w w' := by
  have hlen : (deedOf 256 7).length = 256 := by simp [deedOf, deedLen]
  generalize hx : deedOf 256 7 = x at *
  go_enter Try.func13, Try.ntmps13
  go_wp2_with (fail)
  refine (new_ok 2 w (by omega) (by omega)).mono ?_
  rintro e w1 ⟨d, g, cap, rfl, hD, hB1⟩
  rw [two_pages] at hD
  have HD := hid hD
  have HB1 := hid hB1
  clear hD hB1
  go_wp2_with (fail)
  refine (bytes_any 1 256 7 w1).mono ?_
  rintro e w2 ⟨v, rfl, hv, hB2⟩
  rw [hx] at hv
  obtain ⟨b, c, rfl, hb, hbl, hbs⟩ := own_form hv (by omega)
  rw [hlen]
  have HD2 := hid (HD.out.below hB2)
  have HB2 := hid (HB1.out.trans (hB2.mono HB1.out.size))
  have hap : b ≠ d ∧ b ≠ g ∧ some b ≠ (Value.slice none 0 0).ownBlock := ⟨by have := HD.out.lts.1; omega, by have := HD.out.lts.2.1; omega, fun h => by cases h⟩
  have Hb := hid hb
  have Hap := hid hap
  have Hbl := hid hbl
  have Hbs := hid hbs
  clear hv hB2 hb hap HD HB1 hbl hbs
  go_wp2_with (fail)
  refine (write_ok HD2.out 1 (by simp) x hlen b 0 c Hb.out Hap.out (by simp) HB2.out.size).mono ?_
  rintro e w3 ⟨rfl, v', hD3, hv', ho⟩
  have HB3 := hid (HB2.out.trans (ho.below HD2.out _ (Nat.le_refl _) HB2.out.size))
  have Hb3 := hid (Hb.out.keep (ho.block b Hbs.out Hap.out.1 Hap.out.2.1 Hap.out.2.2))
  have hD3' : DiskAt w3 w.heap.size d g cap v' [zpage, x] [(1, zpage)] := hD3
  have HD3 := hid hD3'
  clear hD3 hD3' hv' ho HD2 HB2 Hb Hap Hbl Hbs
  go_wp2_with (fail)
  refine (cut_ok HD3.out 0 (by simp) (by simp) (by simp) (by simp)).mono ?_
  rintro e w4 ⟨d', g', cap', rfl, hC, hB4⟩
  have hC' : DiskAt w4 w3.heap.size d' g' cap' (.slice none 0 0) [zpage, zpage] [] := hC
  have HC := hid hC'
  have HD4 := hid (HD3.out.below hB4)
  have Hb4 := hid (Hb3.out.below hB4)
  have HB4 := hid (HB3.out.trans (hB4.mono HB3.out.size))
  clear hC hC' hB4 HD3 Hb3 HB3
  go_wp2_with (fail)
  refine (read_ok HD4.out 1 (by simp)).mono ?_
  rintro e w5 ⟨vx, rfl, hvx, hB5, hne⟩
  have hvx' : w5.ownsRow w4.heap.size 5 1 vx x.length (cellsOf x) := hvx
  obtain ⟨bx, cx, rfl, hbx, _, hbsx⟩ := own_form hvx' (by omega)
  rw [hlen]
  have HC5 := hid (HC.out.below hB5)
  have HD5 := hid (HD4.out.below hB5)
  have Hb5 := hid (Hb4.out.below hB5)
  have HB5 := hid (HB4.out.trans (hB5.mono HB4.out.size))
  have Hx5 := hid hbx
  clear hvx hvx' hB5 hne HC HD4 Hb4 HB4 hbx hbsx
  go_wp2_with (fail)
  refine (read_ok HC5.out 1 (by simp)).mono ?_
  rintro e w6 ⟨vy, rfl, hvy, hB6, hne⟩
  have hvy' : w6.ownsRow w5.heap.size 5 1 vy zpage.length (cellsOf zpage) := hvy
  obtain ⟨by_, cy, rfl, hby, _, _⟩ := own_form hvy' (by rw [zpage_length]; omega)
  rw [zpage_length]
  have HD6 := hid (HD5.out.below hB6)
  have Hb6 := hid (Hb5.out.below hB6)
  have Hx6 := hid (Hx5.out.below hB6)
  have HB6 := hid (HB5.out.trans (hB6.mono HB5.out.size))
  have Hy6 := hid hby
  clear hvy hvy' hB6 hne HC5 HD5 Hb5 HB5 Hx5 hby
  have Hcnt := hid (count_any HD6.out)
  have Hsame := hid (sameBytes_any x x _ _ cx c w6 Hx6.out Hb6.out (by omega) (by omega))
  rw [hlen] at Hsame
  go_wp2_with (first | (go_at_call 19; refine Hcnt.out.mono ?_; rintro e w' ⟨rfl, rfl⟩) | (go_at_call 16; refine Hsame.out.mono ?_; rintro e w7 ⟨rfl, hB7⟩; have hy7 := zpage_cell (Hy6.out.below hB7)))
  go_ret
  exact ⟨ret_bool (by simp), HB6.out.trans (hB7.mono HB6.out.size)⟩
end Go.Proofs.Ytgiifodhofdpaaa
