/- The walks of holdfastlaw02.CodecOrders and CodecApart: each answers true, and writes nothing that was there. -/
import Derived.Test.YtgjahhfpfdgjhaaDoorLive
import Derived.Test.YtgjahhfpfdgjhaaDoorCmp
import Derived.Test.YtgjahhfpfdgjhaaDoorArgs
namespace Go.Proofs.YtgjahhfpfdgjhaaDoor
open Go.RowKit

theorem Below.on' {w w1 w2 : World} (h : Below w.heap.size w w1) (k : Below w1.heap.size w1 w2) : Below w.heap.size w w2 := h.trans (k.mono h.size)

theorem TextsIn.key {w : World} {a : Option Addr} {cap : Nat} {l : List ByteArray} (h : TextsIn w a cap l) :
    Calls Tryd.prog 12 #[.slice a l.length cap] w fun e w' => ∃ a' cap', e = .returned (.tuple #[.slice a' (keyRes l).length cap', .int .i64 (keyErr l : Int)]) ∧ Bytes w' a' (keyRes l) ∧ Below w.heap.size w w' ∧ (keyRes l).length ≤ cap' :=
  key_any l a cap w h.texts h.sizes h.length
theorem TextsIn.below {w w' : World} {a : Option Addr} {cap : Nat} {l : List ByteArray} (h : TextsIn w a cap l) (hb : Below w.heap.size w w') : TextsIn w' a cap l := ⟨h.texts.below hb, h.cap, h.length, h.sizes⟩
theorem keyRes_le (l : List ByteArray) : (keyRes l).length ≤ 64 := by
  unfold keyRes
  by_cases h : keyErr l = 0
  · rw [if_pos h]
    unfold keyErr at h
    split at h
    · cases h
    · split at h
      · cases h
      · omega
  · rw [if_neg h]; simp
theorem keyRes_ok (l : List ByteArray) (h : keyErr l = 0) : keyRes l = keyOf (bs l) := by unfold keyRes; rw [if_pos h]

set_option maxHeartbeats 1000000 in
theorem codecOrders_walk {w : World} (x : List ByteArray) (a : Option Addr) (ca : Nat) (hx : TextsIn w a ca x) (y : List ByteArray) (b : Option Addr) (cb : Nat) (hy : TextsIn w b cb y) (ht : TabAt w) :
    Calls Tryd.prog 6 #[.slice a x.length ca, .slice b y.length cb] w fun e w' => e = .returned (.bool true) ∧ Below w.heap.size w w' := by
  have Hx := hid hx
  have Hy := hid hy
  have Ht := hid ht
  clear hx hy ht
  go_enter Tryd.func6, Tryd.ntmps6
  go_wp2_with fail
  refine Hx.out.key.mono ?_
  rintro e w1 ⟨a1, c1, rfl, hB1, hb1, hc1⟩
  have HB1 := hid hB1
  have Hb1 := hid hb1
  clear hB1 hb1
  go_wp2_with fail
  refine (Hy.out.below Hb1.out).key.mono ?_
  rintro e w2 ⟨a2, c2, rfl, hB2, hb2, hc2⟩
  have HB2 := hid hB2
  have HB1' := hid (HB1.out.below hb2)
  have Hb2 := hid (Below.on' Hb1.out hb2)
  clear hB2 hb2
  have Hl1 := hid (keyRes_le x)
  have Hl2 := hid (keyRes_le y)
  have Heq : Hid (keyErr x = 0 → keyErr y = 0 → Op.bytesLess (keyRes x) (keyRes y) = ahead (bs x) (bs y)) := fun h1 h2 => by
    rw [keyRes_ok x h1, keyRes_ok y h2, key_less]
  generalize keyRes x = kx at *
  generalize keyRes y = ky at *
  generalize keyErr x = ex at *
  generalize keyErr y = ey at *
  by_cases h1 : ex = 0
  · by_cases h2 : ey = 0
    · have He := hid (Heq.out h1 h2)
      subst h1
      subst h2
      go_wp2_with fail
      refine (live_any _ (Ht.out.below Hb2.out)).mono ?_
      rintro e w3 ⟨rfl, hb3⟩
      have Hb3 := hid (Below.on' Hb2.out hb3)
      have HB13 := hid (HB1'.out.below hb3)
      have HB23 := hid (HB2.out.below hb3)
      clear hb3
      go_wp2_with fail
      refine (less_any kx ky a1 a2 c1 c2 _ HB13.out HB23.out (by have := Hl1.out; omega) (by have := Hl2.out; omega)).mono ?_
      rintro e w4 ⟨rfl, hb4⟩
      have Hb4 := hid (Below.on' Hb3.out hb4)
      clear hb4
      rw [He.out]
      go_wp2_with fail
      refine (before_any x y a b ca cb _ (Hx.out.below Hb4.out).texts (Hy.out.below Hb4.out).texts Hx.out.length Hy.out.length).mono ?_
      rintro e w5 ⟨rfl, hb5⟩
      have Hb5 := hid (Below.on' Hb4.out hb5)
      clear hb5
      go_wp2
      go_ret
      exact ⟨rfl, Hb5.out⟩
    · have d2 : ((ey : Int) != 0) = true := by rw [bne_iff_ne]; omega
      subst h1
      go_wp2_with (go_at_call 16; refine (live_any _ (Ht.out.below Hb2.out)).mono ?_; rintro e w3 ⟨rfl, hb3⟩)
      go_ret
      exact ⟨rfl, Below.on' Hb2.out hb3⟩
  · have d1 : ((ex : Int) != 0) = true := by rw [bne_iff_ne]; omega
    go_wp2_with (go_at_call 16; refine (live_any _ (Ht.out.below Hb2.out)).mono ?_; rintro e w3 ⟨rfl, hb3⟩)
    go_ret
    exact ⟨rfl, Below.on' Hb2.out hb3⟩

theorem bs_inj (x y : List ByteArray) : bs x = bs y ↔ x = y := by
  constructor
  · intro h
    refine List.map_inj_right (f := fun s : ByteArray => s.data.toList) ?_ |>.1 h
    intro s t e
    rw [← Lib.mk_data s, ← Lib.mk_data t]
    exact congrArg (fun l : List UInt8 => (⟨l.toArray⟩ : ByteArray)) e
  · intro h; rw [h]
theorem bs_pre (x y : List ByteArray) : bs x <+: bs y ↔ x <+: y := by
  rw [List.prefix_iff_eq_take, List.prefix_iff_eq_take]
  have : (bs x).length = x.length := by simp [bs]
  rw [this]
  have h2 : (bs y).take x.length = bs (y.take x.length) := by simp [bs, List.map_take]
  rw [h2, bs_inj]

/-- 'b begins with a', as the laws ask it -/
theorem begins_iff {α : Type} [DecidableEq α] (x y : List α) : (decide ((x.length : Int) ≤ (y.length : Int)) && decide (y.take x.length = x)) = decide (x <+: y) := by
  rw [Bool.eq_iff_iff]
  simp only [Bool.and_eq_true, decide_eq_true_eq]
  constructor
  · rintro ⟨_, h⟩
    rw [List.prefix_iff_eq_take]
    exact h.symm
  · intro h
    exact ⟨by have := h.length_le; omega, (List.prefix_iff_eq_take.1 h).symm⟩

/-- s[:n], n at most the capacity -/
theorem slice_to (t e : TypeId) (ht : Tryd.prog.underlying t = some (.slice e)) (a : Option Addr) (len cap n : Nat) (hn : n ≤ cap) (he : Tryd.prog.elem t = e) (size : Nat) (hs : ∀ W, (sizeOf e).run Tryd.prog W = .ok size W) (W : World) :
    (Instr.slice t (.slice a len cap) none (some (.int .i64 (n : Int))) none).run Tryd.prog W = .ok (.slice a n cap) W := by
  have hz : (sizeOf (Tryd.prog.elem t)).run Tryd.prog W = .ok size W := by rw [he]; exact hs W
  rw [run_slice_h W t a len cap (by rw [he]; exact ht) .i64 (n : Int) (by omega) (by omega), hz]
  simp only [Result.andThen, sliced, Nat.zero_mul, Int.toNat_natCast, Nat.sub_zero]
  congr 2
  by_cases h0 : cap = 0
  · rw [if_pos h0]
  · rw [if_neg h0]
    cases a with
    | none => rfl
    | some x => simp [Addr.add]

theorem Bytes.take {w : World} {a : Option Addr} {l : List UInt8} (h : Bytes w a l) (n : Nat) : Bytes w a (l.take n) := fun i hi => by
  rw [List.length_take] at hi
  obtain ⟨b, o, e, hc⟩ := h i (by omega)
  exact ⟨b, o, e, by rw [hc, List.getElem_take]⟩
theorem Texts.take {w : World} {a : Option Addr} {l : List ByteArray} (h : Texts w a l) (n : Nat) : Texts w a (l.take n) := fun i hi => by
  rw [List.length_take] at hi
  obtain ⟨b, o, e, hc⟩ := h i (by omega)
  exact ⟨b, o, e, by rw [hc, List.getElem_take]⟩
theorem pre_of_take {α : Type} [DecidableEq α] (x y : List α) : decide (y.take x.length = x) = decide (x <+: y) := by
  rw [decide_eq_decide, List.prefix_iff_eq_take]
  exact eq_comm
theorem not_pre {α : Type} [DecidableEq α] (x y : List α) (h : ¬ x.length ≤ y.length) : decide (x <+: y) = false := by
  rw [decide_eq_false_iff_not]
  exact fun hp => h hp.length_le
theorem sizeByte (W : World) : (sizeOf 5).run Tryd.prog W = .ok 1 W := by kernel_rfl
theorem sizeText (W : World) : (sizeOf 9).run Tryd.prog W = .ok 1 W := by kernel_rfl

set_option maxHeartbeats 1000000 in
theorem codecApart_walk {w : World} (x : List ByteArray) (a : Option Addr) (ca : Nat) (hx : TextsIn w a ca x) (y : List ByteArray) (b : Option Addr) (cb : Nat) (hy : TextsIn w b cb y) (ht : TabAt w) :
    Calls Tryd.prog 9 #[.slice a x.length ca, .slice b y.length cb] w fun e w' => e = .returned (.bool true) ∧ Below w.heap.size w w' := by
  have Hx := hid hx
  have Hy := hid hy
  have Ht := hid ht
  clear hx hy ht
  go_enter Tryd.func9, Tryd.ntmps9
  go_wp2_with fail
  refine Hx.out.key.mono ?_
  rintro e w1 ⟨a1, c1, rfl, hB1, hb1, hc1⟩
  have HB1 := hid hB1
  have Hb1 := hid hb1
  clear hB1 hb1
  go_wp2_with fail
  refine (Hy.out.below Hb1.out).key.mono ?_
  rintro e w2 ⟨a2, c2, rfl, hB2, hb2, hc2⟩
  have HB2 := hid hB2
  have HB1' := hid (HB1.out.below hb2)
  have Hb2 := hid (Below.on' Hb1.out hb2)
  clear hB2 hb2
  have Hl1 := hid (keyRes_le x)
  have Hl2 := hid (keyRes_le y)
  have Heq : Hid (keyErr x = 0 → keyErr y = 0 → decide (keyRes x <+: keyRes y) = decide (x <+: y) ∧ decide (keyRes x = keyRes y) = decide (x = y)) := fun h1 h2 => by
    rw [keyRes_ok x h1, keyRes_ok y h2]
    constructor
    · rw [decide_eq_decide, key_pre, bs_pre]
    · rw [decide_eq_decide, key_inj, bs_inj]
  generalize keyRes x = kx at *
  generalize keyRes y = ky at *
  generalize keyErr x = ex at *
  generalize keyErr y = ey at *
  by_cases h1 : ex = 0
  · by_cases h2 : ey = 0
    · have He := hid (Heq.out h1 h2)
      subst h1
      subst h2
      have Hp := hid (He.out.1)
      have Hq := hid (He.out.2)
      have Hp1 : Hid (¬ kx.length ≤ ky.length → decide (x <+: y) = false) := fun h => by rw [← Hp.out]; exact not_pre kx ky h
      have Hp2 : Hid (¬ x.length ≤ y.length → decide (x <+: y) = false) := fun h => not_pre x y h
      have Hp3 : Hid (decide (ky.take kx.length = kx) = decide (x <+: y)) := by rw [Hid, pre_of_take]; exact Hp.out
      have Hp4 : Hid (decide (y.take x.length = x) = decide (x <+: y)) := pre_of_take x y
      clear Heq He Hp
      generalize decide (x <+: y) = p at *
      by_cases hle : kx.length ≤ ky.length
      · have f1 : decide ((kx.length : Int) ≤ (ky.length : Int)) = true := by simp; omega
        have hsl := slice_to 23 5 Tryd.underlying23 a2 ky.length c2 kx.length (by omega) (by kernel_rfl) 1 sizeByte
        have hT : (ky.take kx.length).length = kx.length := by rw [List.length_take]; omega
        have Hsame := hid (sameBytes_any (ky.take kx.length) kx a2 a1 c2 c1 w2 (HB2.out.take _) HB1'.out (by rw [hT]; have := Hl1.out; omega) (by have := Hl1.out; omega))
        rw [hT] at Hsame
        clear hT
        go_wp2_with fail
        refine Hsame.out.mono ?_
        rintro e w3 ⟨rfl, hb3⟩
        rw [Hp3.out]
        have Hb3 := hid (Below.on' Hb2.out hb3)
        have HB13 := hid (HB1'.out.below hb3)
        have HB23 := hid (HB2.out.below hb3)
        clear hb3 Hsame hsl
        by_cases hle2 : x.length ≤ y.length
        · have f2 : decide ((x.length : Int) ≤ (y.length : Int)) = true := by simp; omega
          have hcy := Hy.out.cap
          have hsl := slice_to 22 9 Tryd.underlying22 b y.length cb x.length (by omega) (by kernel_rfl) 1 sizeText
          have hT : (y.take x.length).length = x.length := by rw [List.length_take]; omega
          have Hsame := hid (sameTexts_any (y.take x.length) x b a cb ca w3 ((Hy.out.below Hb3.out).texts.take _) (Hx.out.below Hb3.out).texts (by rw [hT]; exact Hx.out.length) Hx.out.length)
          rw [hT] at Hsame
          clear hT
          go_wp2_with fail
          refine Hsame.out.mono ?_
          rintro e w4 ⟨rfl, hb4⟩
          rw [Hp4.out]
          have Hb4 := hid (Below.on' Hb3.out hb4)
          have HB14 := hid (HB13.out.below hb4)
          have HB24 := hid (HB23.out.below hb4)
          clear hb4 Hsame hsl
          go_wp2_with fail
          refine (live_any _ (Ht.out.below Hb4.out)).mono ?_
          rintro e w5 ⟨rfl, hb5⟩
          have Hb5 := hid (Below.on' Hb4.out hb5)
          have HB15 := hid (HB14.out.below hb5)
          have HB25 := hid (HB24.out.below hb5)
          clear hb5
          go_wp2_with fail
          refine (sameBytes_any kx ky a1 a2 c1 c2 _ HB15.out HB25.out (by have := Hl1.out; omega) (by have := Hl2.out; omega)).mono ?_
          rintro e w6 ⟨rfl, hb6⟩
          rw [Hq.out]
          have Hb6 := hid (Below.on' Hb5.out hb6)
          clear hb6
          go_wp2_with fail
          refine (sameTexts_any x y a b ca cb _ (Hx.out.below Hb6.out).texts (Hy.out.below Hb6.out).texts Hx.out.length Hy.out.length).mono ?_
          rintro e w7 ⟨rfl, hb7⟩
          have Hb7 := hid (Below.on' Hb6.out hb7)
          clear hb7
          generalize decide (x = y) = q at *
          go_wp2
          go_ret
          exact ⟨rfl, Hb7.out⟩
        · have f2 : decide ((x.length : Int) ≤ (y.length : Int)) = false := by simp; omega
          have hpf := Hp2.out hle2
          subst hpf
          have Hb4 := Hb3
          have HB14 := HB13
          have HB24 := HB23
          go_wp2_with fail
          refine (live_any _ (Ht.out.below Hb4.out)).mono ?_
          rintro e w5 ⟨rfl, hb5⟩
          have Hb5 := hid (Below.on' Hb4.out hb5)
          have HB15 := hid (HB14.out.below hb5)
          have HB25 := hid (HB24.out.below hb5)
          clear hb5
          go_wp2_with fail
          refine (sameBytes_any kx ky a1 a2 c1 c2 _ HB15.out HB25.out (by have := Hl1.out; omega) (by have := Hl2.out; omega)).mono ?_
          rintro e w6 ⟨rfl, hb6⟩
          rw [Hq.out]
          have Hb6 := hid (Below.on' Hb5.out hb6)
          clear hb6
          go_wp2_with fail
          refine (sameTexts_any x y a b ca cb _ (Hx.out.below Hb6.out).texts (Hy.out.below Hb6.out).texts Hx.out.length Hy.out.length).mono ?_
          rintro e w7 ⟨rfl, hb7⟩
          have Hb7 := hid (Below.on' Hb6.out hb7)
          clear hb7
          generalize decide (x = y) = q at *
          go_wp2
          go_ret
          exact ⟨rfl, Hb7.out⟩
      · have f1 : decide ((kx.length : Int) ≤ (ky.length : Int)) = false := by simp; omega
        have hpf := Hp1.out hle
        subst hpf
        have Hb3 := Hb2
        have HB13 := HB1'
        have HB23 := HB2
        by_cases hle2 : x.length ≤ y.length
        · have f2 : decide ((x.length : Int) ≤ (y.length : Int)) = true := by simp; omega
          have hcy := Hy.out.cap
          have hsl := slice_to 22 9 Tryd.underlying22 b y.length cb x.length (by omega) (by kernel_rfl) 1 sizeText
          have hT : (y.take x.length).length = x.length := by rw [List.length_take]; omega
          have Hsame := hid (sameTexts_any (y.take x.length) x b a cb ca w2 ((Hy.out.below Hb3.out).texts.take _) (Hx.out.below Hb3.out).texts (by rw [hT]; exact Hx.out.length) Hx.out.length)
          rw [hT] at Hsame
          clear hT
          go_wp2_with fail
          refine Hsame.out.mono ?_
          rintro e w4 ⟨rfl, hb4⟩
          rw [Hp4.out]
          have Hb4 := hid (Below.on' Hb3.out hb4)
          have HB14 := hid (HB13.out.below hb4)
          have HB24 := hid (HB23.out.below hb4)
          clear hb4 Hsame hsl
          go_wp2_with fail
          refine (live_any _ (Ht.out.below Hb4.out)).mono ?_
          rintro e w5 ⟨rfl, hb5⟩
          have Hb5 := hid (Below.on' Hb4.out hb5)
          have HB15 := hid (HB14.out.below hb5)
          have HB25 := hid (HB24.out.below hb5)
          clear hb5
          go_wp2_with fail
          refine (sameBytes_any kx ky a1 a2 c1 c2 _ HB15.out HB25.out (by have := Hl1.out; omega) (by have := Hl2.out; omega)).mono ?_
          rintro e w6 ⟨rfl, hb6⟩
          rw [Hq.out]
          have Hb6 := hid (Below.on' Hb5.out hb6)
          clear hb6
          go_wp2_with fail
          refine (sameTexts_any x y a b ca cb _ (Hx.out.below Hb6.out).texts (Hy.out.below Hb6.out).texts Hx.out.length Hy.out.length).mono ?_
          rintro e w7 ⟨rfl, hb7⟩
          have Hb7 := hid (Below.on' Hb6.out hb7)
          clear hb7
          generalize decide (x = y) = q at *
          go_wp2
          go_ret
          exact ⟨rfl, Hb7.out⟩
        · have f2 : decide ((x.length : Int) ≤ (y.length : Int)) = false := by simp; omega
          have Hb4 := Hb3
          have HB14 := HB13
          have HB24 := HB23
          go_wp2_with fail
          refine (live_any _ (Ht.out.below Hb4.out)).mono ?_
          rintro e w5 ⟨rfl, hb5⟩
          have Hb5 := hid (Below.on' Hb4.out hb5)
          have HB15 := hid (HB14.out.below hb5)
          have HB25 := hid (HB24.out.below hb5)
          clear hb5
          go_wp2_with fail
          refine (sameBytes_any kx ky a1 a2 c1 c2 _ HB15.out HB25.out (by have := Hl1.out; omega) (by have := Hl2.out; omega)).mono ?_
          rintro e w6 ⟨rfl, hb6⟩
          rw [Hq.out]
          have Hb6 := hid (Below.on' Hb5.out hb6)
          clear hb6
          go_wp2_with fail
          refine (sameTexts_any x y a b ca cb _ (Hx.out.below Hb6.out).texts (Hy.out.below Hb6.out).texts Hx.out.length Hy.out.length).mono ?_
          rintro e w7 ⟨rfl, hb7⟩
          have Hb7 := hid (Below.on' Hb6.out hb7)
          clear hb7
          generalize decide (x = y) = q at *
          go_wp2
          go_ret
          exact ⟨rfl, Hb7.out⟩
    · have d2 : ((ey : Int) != 0) = true := by rw [bne_iff_ne]; omega
      subst h1
      go_wp2_with (go_at_call 16; refine (live_any _ (Ht.out.below Hb2.out)).mono ?_; rintro e w3 ⟨rfl, hb3⟩)
      go_ret
      exact ⟨rfl, Below.on' Hb2.out hb3⟩
  · have d1 : ((ex : Int) != 0) = true := by rw [bne_iff_ne]; omega
    go_wp2_with (go_at_call 16; refine (live_any _ (Ht.out.below Hb2.out)).mono ?_; rintro e w3 ⟨rfl, hb3⟩)
    go_ret
    exact ⟨rfl, Below.on' Hb2.out hb3⟩
end Go.Proofs.YtgjahhfpfdgjhaaDoor
