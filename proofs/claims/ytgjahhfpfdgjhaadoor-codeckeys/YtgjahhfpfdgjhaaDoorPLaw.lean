/- CodecKeys of the laws on codecs, walked. -/
import Derived.Test.YtgjahhfpfdgjhaaDoorPParts
import Derived.Test.YtgjahhfpfdgjhaaDoorKeyLaws
namespace Go.Proofs.YtgjahhfpfdgjhaaDoor
open Go.RowKit
set_option linter.unusedVariables false
set_option maxRecDepth 20000
set_option maxHeartbeats 4000000 in
theorem codecKeys_walk {w : World} (x : List ByteArray) (a : Option Addr) (ca : Nat) (hx : TextsIn w a ca x) (y : List UInt8) (b : Option Addr) (cb : Nat) (hy : BytesIn w b cb y) (ht : TabAt w) :
    Calls Tryd.prog 3 #[.slice a x.length ca, .slice b y.length cb] w fun e w' => e = .returned (.bool true) ∧ Below w.heap.size w w' := by
  have Hx := hid hx
  have Hy := hid hy
  have Ht := hid ht
  have Hyl := hid hy.length
  have Hyc := hid hy.cap
  have Hback := hid (key_back x)
  have Hcback := hid (par_back y)
  have Hrl := hid (keyRes_le x)
  have Hcs := hid (parRes_sizes y)
  have Hcl := hid (parRes_length y)
  have Hrow := hid (key_any x a ca w Hx.out.texts Hx.out.sizes Hx.out.length)
  clear hx hy ht
  go_enter Tryd.func3, Tryd.ntmps3
  go_wp2_with fail
  refine Hrow.out.mono ?_
  rintro e w1 ⟨a1, c1, rfl, hB1, hb1, hc1⟩
  have HB1 := hid hB1
  have Hb1 := hid hb1
  clear hB1 hb1
  go_wp2_with fail
  refine (refKey_any x a ca w1 (Hx.out.below Hb1.out).texts Hx.out.sizes Hx.out.length).mono ?_
  rintro e w2 ⟨a2, c2, rfl, hB2, hb2, hc2⟩
  have HB2 := hid hB2
  have HB1' := hid (HB1.out.below hb2)
  have Hb2 := hid (Below.on' Hb1.out hb2)
  clear hB2 hb2 HB1
  go_wp2_with fail
  refine (parts_any y b cb w2 (Hy.out.bytes.below Hb2.out) Hy.out.cap Hyl.out).mono ?_
  rintro e w3 ⟨a3, c3, rfl, hT3, hb3, hc3⟩
  have HT3 := hid hT3
  have HB13 := hid (HB1'.out.below hb3)
  have HB23 := hid (HB2.out.below hb3)
  have Hb3 := hid (Below.on' Hb2.out hb3)
  clear hT3 hb3 HB1' HB2
  go_wp2_with fail
  refine (refParts_any y b cb w3 (Hy.out.bytes.below Hb3.out) Hyl.out).mono ?_
  rintro e w4 ⟨a4, c4, rfl, hT4, hb4, hc4⟩
  have HT4 := hid hT4
  have HT34 := hid (HT3.out.below hb4)
  have HB14 := hid (HB13.out.below hb4)
  have HB24 := hid (HB23.out.below hb4)
  have Hb4 := hid (Below.on' Hb3.out hb4)
  clear hT4 hb4 HB13 HB23 HT3
  go_wp2_with fail
  refine (live_any _ (Ht.out.below Hb4.out)).mono ?_
  rintro e w5 ⟨rfl, hb5⟩
  have Hb5 := hid (Below.on' Hb4.out hb5)
  have HB15 := hid (HB14.out.below hb5)
  have HB25 := hid (HB24.out.below hb5)
  have HT35 := hid (HT34.out.below hb5)
  have HT45 := hid (HT4.out.below hb5)
  clear hb5 HB14 HB24 HT34 HT4
  go_wp2_with fail
  refine (sameBytes_any (keyRes x) (keyRes x) a1 a2 c1 c2 _ HB15.out HB25.out (by have := Hrl.out; omega) (by have := Hrl.out; omega)).mono ?_
  rintro e w6 ⟨rfl, hb6⟩
  rw [show decide (keyRes x = keyRes x) = true by simp]
  have Hb6 := hid (Below.on' Hb5.out hb6)
  have HB16 := hid (HB15.out.below hb6)
  have HT36 := hid (HT35.out.below hb6)
  have HT46 := hid (HT45.out.below hb6)
  clear hb6 HB15 HB25 HT35 HT45
  go_wp2_with fail
  refine (sameTexts_any (parRes y) (parRes y) a3 a4 c3 c4 _ HT36.out HT46.out (by have := Hcl.out; omega) (by have := Hcl.out; omega)).mono ?_
  rintro e w7 ⟨rfl, hb7⟩
  rw [show decide (parRes y = parRes y) = true by simp]
  have Hb7 := hid (Below.on' Hb6.out hb7)
  have HB17 := hid (HB16.out.below hb7)
  have HT37 := hid (HT36.out.below hb7)
  clear hb7 HB16 HT36 HT46
  have Hrow2 := fun w' h => hid (key_any (parRes y) a3 c3 w' h (fun s hs => by have := Hcs.out s hs; omega) (by have := Hcl.out; omega))
  generalize parErr y = ce at *
  generalize keyErr x = re at *
  clear Hrow
  by_cases h1 : ce = 0
  · obtain ⟨e1, e2⟩ := Hcback.out h1
    have Hr2 := Hrow2 w7 HT37.out
    rw [e1, e2] at Hr2
    subst h1
    clear Hrow2 Hcback e1 e2
    go_wp2_with fail
    refine Hr2.out.mono ?_
    rintro e w8 ⟨a8, c8, rfl, hB8, hb8, hc8⟩
    have HB8 := hid hB8
    have Hb8 := hid (Below.on' Hb7.out hb8)
    have HB18 := hid (HB17.out.below hb8)
    clear hB8 hb8 Hr2
    go_wp2_with fail
    refine (sameBytes_any y y a8 b c8 cb _ HB8.out (Hy.out.bytes.below Hb8.out) Hyl.out Hyl.out).mono ?_
    rintro e w9 ⟨rfl, hb9⟩
    rw [show decide (y = y) = true by simp]
    have Hb9 := hid (Below.on' Hb8.out hb9)
    have HB19 := hid (HB18.out.below hb9)
    clear hb9
    by_cases h2 : re = 0
    · obtain ⟨e1, e2⟩ := Hback.out h2
      subst h2
      have Hcol2 := hid (parts_any (keyRes x) a1 c1 w9 HB19.out hc1 (by have := Hrl.out; omega))
      rw [e1, e2] at Hcol2
      clear e1 e2 Hback
      go_wp2_with fail
      refine Hcol2.out.mono ?_
      rintro e w10 ⟨a10, c10, rfl, hT10, hb10, hc10⟩
      have HT10 := hid hT10
      have Hb10 := hid (Below.on' Hb9.out hb10)
      clear hT10 hb10 Hcol2
      go_wp2_with fail
      refine (sameTexts_any x x a10 a c10 ca _ HT10.out (Hx.out.below Hb10.out).texts Hx.out.length Hx.out.length).mono ?_
      rintro e w11 ⟨rfl, hb11⟩
      rw [show decide (x = x) = true by simp]
      go_wp2
      go_ret
      exact ⟨rfl, Below.on' Hb10.out hb11⟩
    · have d2 : ((re : Int) != 0) = true := by rw [bne_iff_ne]; omega
      go_wp2
      go_ret
      exact ⟨rfl, Hb9.out⟩
  · have d1 : ((ce : Int) == 0) = false := by rw [beq_eq_false_iff_ne]; omega
    have Hb9 := Hb7
    have HB19 := HB17
    by_cases h2 : re = 0
    · obtain ⟨e1, e2⟩ := Hback.out h2
      subst h2
      have Hcol2 := hid (parts_any (keyRes x) a1 c1 w7 HB19.out hc1 (by have := Hrl.out; omega))
      rw [e1, e2] at Hcol2
      clear e1 e2 Hback
      go_wp2_with fail
      refine Hcol2.out.mono ?_
      rintro e w10 ⟨a10, c10, rfl, hT10, hb10, hc10⟩
      have HT10 := hid hT10
      have Hb10 := hid (Below.on' Hb9.out hb10)
      clear hT10 hb10 Hcol2
      go_wp2_with fail
      refine (sameTexts_any x x a10 a c10 ca _ HT10.out (Hx.out.below Hb10.out).texts Hx.out.length Hx.out.length).mono ?_
      rintro e w11 ⟨rfl, hb11⟩
      rw [show decide (x = x) = true by simp]
      go_wp2
      go_ret
      exact ⟨rfl, Below.on' Hb10.out hb11⟩
    · have d2 : ((re : Int) != 0) = true := by rw [bne_iff_ne]; omega
      go_wp2
      go_ret
      exact ⟨rfl, Hb9.out⟩
end Go.Proofs.YtgjahhfpfdgjhaaDoor
