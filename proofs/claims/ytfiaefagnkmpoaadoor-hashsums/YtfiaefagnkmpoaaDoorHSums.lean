/- HashSums of the laws on hashes, walked, given the reference's Sum. -/
import Derived.Test.YtfiaefagnkmpoaaDoorHRefTag
import Derived.Test.YtfiaefagnkmpoaaDoorHCopy
namespace Go.Proofs.YtfiaefagnkmpoaaDoor
open Go.RowKit
set_option linter.unusedVariables false
set_option maxRecDepth 20000

set_option maxHeartbeats 4000000 in
theorem hashSums_walk (hS : SumOk) {w : World} (key : List UInt8) (a : Option Addr) (cap : Nat) (hk : BytesIn w a cap key) (b : List UInt8) (a' : Option Addr) (cap' : Nat) (hb : BytesIn w a' cap' b) (hK : KAt w) :
    Calls Tryd.prog 3 #[.slice a key.length cap, .slice a' b.length cap'] w fun e w' => e = .returned (.bool true) ∧ Below w.heap.size w w' := by
  have HA := hid hk
  have HB := hid hb
  have HK := hid hK
  have la := hk.length
  have lb := hb.length
  obtain ⟨na, hna⟩ : ∃ na, na = key.length := ⟨_, rfl⟩
  obtain ⟨nb, hnb⟩ : ∃ nb, nb = b.length := ⟨_, rfl⟩
  rw [← hna] at la ⊢
  rw [← hnb] at lb ⊢
  have Hna := hid hna
  have Hnb := hid hnb
  have ea : key.length = na := hna.symm
  have eb : b.length = nb := hnb.symm
  have HLive : Hid (∀ W, Below w.heap.size w W → Calls Tryd.prog 10 #[] W fun e w' => e = .returned (.bool true) ∧ Below W.heap.size W w') := fun W hW => live_any (HK.out.below hW)
  clear hk hb hK hna hnb
  go_enter Tryd.func3, Tryd.ntmps3
  go_wp2_with fail
  refine (copy_any key a na cap _ Hna.out HA.out.bytes HA.out.nilcap (by omega)).mono ?_
  rintro _ W1 ⟨v5, rfl, hown5, hb1⟩
  obtain ⟨a5, c5, rfl, hB5, hc5, hn5⟩ := bytes_of_own0 hown5
  rw [ea] at hc5 ⊢
  have HB5 := hid hB5
  have Hn5 := hid hn5
  have b1 := hid hb1
  clear hown5 hb1 hB5 hn5
  go_wp2_with fail
  refine (copy_any b a' nb cap' _ Hnb.out (HB.out.bytes.below b1.out) HB.out.nilcap (by omega)).mono ?_
  rintro _ W2 ⟨v6, rfl, hown6, hb2⟩
  obtain ⟨a6, c6, rfl, hB6, hc6, hn6⟩ := bytes_of_own0 hown6
  rw [eb] at hc6 ⊢
  have HB62 := hid hB6
  have Hn6 := hid hn6
  have HB52 : Hid (Bytes W2 a5 key) := HB5.out.below hb2
  have b2 : Hid (Below w.heap.size w W2) := Below.on' b1.out hb2
  clear hown6 hb2 hB6 hn6 b1 HB5
  go_wp2_with fail
  refine (HLive.out _ b2.out).mono ?_
  rintro _ W3 ⟨rfl, hb3⟩
  have HB53 : Hid (Bytes W3 a5 key) := HB52.out.below hb3
  have HB63 : Hid (Bytes W3 a6 b) := HB62.out.below hb3
  have b3 : Hid (Below w.heap.size w W3) := Below.on' b2.out hb3
  clear hb3 b2 HB52 HB62
  go_wp2_with fail
  refine (hsum_any b a6 nb c6 Hnb.out HB63.out (by omega) (by omega) (HK.out.below b3.out)).mono ?_
  rintro _ W4 ⟨X, rfl, hX, hb4⟩
  have HB54 : Hid (Bytes W4 a5 key) := HB53.out.below hb4
  have HB64 : Hid (Bytes W4 a6 b) := HB63.out.below hb4
  have b4 : Hid (Below w.heap.size w W4) := Below.on' b3.out hb4
  clear hb4 b3 HB53 HB63
  go_wp2_with fail
  refine (hS _ b a' nb cap' Hnb.out (HB.out.bytes.below b4.out) HB.out.nilcap (by omega) HB.out.cap).mono ?_
  rintro _ W5 ⟨Y, rfl, hY, hb5⟩
  have HB55 : Hid (Bytes W5 a5 key) := HB54.out.below hb5
  have HB65 : Hid (Bytes W5 a6 b) := HB64.out.below hb5
  have b5 : Hid (Below w.heap.size w W5) := Below.on' b4.out hb5
  have hq := hash_same hX.out hY.out W5
  clear hb5 b4 HB54 HB64
  go_wp2_with fail
  refine (tag_any key a5 na c5 Hna.out HB55.out (by omega) (by omega) b a6 nb c6 Hnb.out HB65.out (by omega) (by omega) (HK.out.below b5.out)).mono ?_
  rintro _ W6 ⟨X2, rfl, hX2, hb6⟩
  have HB56 : Hid (Bytes W6 a5 key) := HB55.out.below hb6
  have HB66 : Hid (Bytes W6 a6 b) := HB65.out.below hb6
  have b6 : Hid (Below w.heap.size w W6) := Below.on' b5.out hb6
  have HX2 := hid hX2
  clear hb6 b5 HB55 HB65 hq hX hY hX2
  go_wp2_with fail
  refine (refTag_any hS key a na cap Hna.out (HA.out.bytes.below b6.out) HA.out.nilcap (by omega) HA.out.cap b a' nb cap' Hnb.out (HB.out.bytes.below b6.out) HB.out.nilcap (by omega) HB.out.cap).mono ?_
  rintro _ W7 ⟨Y2, rfl, hY2, hb7⟩
  have HB57 : Hid (Bytes W7 a5 key) := HB56.out.below hb7
  have HB67 : Hid (Bytes W7 a6 b) := HB66.out.below hb7
  have b7 : Hid (Below w.heap.size w W7) := Below.on' b6.out hb7
  have hq := hash_same HX2.out hY2 W7
  clear hb7 b6 HB56 HB66 hY2
  have HS1 : Hid (Calls Tryd.prog 15 #[.slice a5 na c5, .slice a na cap] W7 fun e w' => e = .returned (.bool true) ∧ Below W7.heap.size W7 w') := by
    show Calls _ _ _ _ _
    have h := sameBytes_any key key a5 a c5 cap W7 HB57.out (HA.out.bytes.below b7.out) (by omega) (by omega)
    rw [ea] at h
    exact h.mono fun e w' hh => by rw [decide_eq_true (rfl : key = key)] at hh; exact hh
  go_wp2_with fail
  refine HS1.out.mono ?_
  rintro _ W8 ⟨rfl, hb8⟩
  have HB68 : Hid (Bytes W8 a6 b) := HB67.out.below hb8
  have b8 : Hid (Below w.heap.size w W8) := Below.on' b7.out hb8
  clear hb8 b7 HB57 HB67 HS1 hq
  have HS2 : Hid (Calls Tryd.prog 15 #[.slice a6 nb c6, .slice a' nb cap'] W8 fun e w' => e = .returned (.bool true) ∧ Below W8.heap.size W8 w') := by
    show Calls _ _ _ _ _
    have h := sameBytes_any b b a6 a' c6 cap' W8 HB68.out (HB.out.bytes.below b8.out) (by omega) (by omega)
    rw [eb] at h
    exact h.mono fun e w' hh => by rw [decide_eq_true (rfl : b = b)] at hh; exact hh
  go_wp2_with fail
  refine HS2.out.mono ?_
  rintro _ W9 ⟨rfl, hb9⟩
  have b9 : Hid (Below w.heap.size w W9) := Below.on' b8.out hb9
  clear hb9 b8
  go_wp2
  go_ret
  exact ⟨ret_bool (by simp), b9.out⟩
end Go.Proofs.YtfiaefagnkmpoaaDoor
