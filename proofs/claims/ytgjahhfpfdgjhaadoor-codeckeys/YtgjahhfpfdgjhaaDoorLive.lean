/- holdfastlaw02.live: what must be whatever is asked. It answers true in every world that has strconv's table. -/
import Derived.Test.YtgjahhfpfdgjhaaDoorKey
import Derived.Test.YtgjahhfpfdgjhaaDoorNumber
namespace Go.Proofs.YtgjahhfpfdgjhaaDoor
open Go.RowKit

theorem TabAt.below {w w' : World} (h : TabAt w) (hb : Below w.heap.size w w') : TabAt w' :=
  (hb.cell (World.block_lt_of_cell? _ _ h)).trans h

/-- string(b), b not empty -/
theorem conv_bytes (w : World) (a : Option Addr) (cap : Nat) (l : List UInt8) (h : Bytes w a l) (h0 : 0 < l.length) :
    (convert 23 9 (.slice a l.length cap)).run Tryd.prog w = .ok (.string ⟨l.toArray⟩) w := by
  obtain ⟨b, o, rfl, _⟩ := h 0 h0
  refine run_convert_bytes_back (P := Tryd.prog) w 23 9 5 ⟨b, o, none⟩ cap l Tryd.underlying23 Tryd.underlying5 Tryd.underlying9 (fun j hj => ?_)
  obtain ⟨b', o', e, hc⟩ := h j hj
  cases e
  rw [addr_add]
  exact hc

abbrev ab : List ByteArray := [⟨#[97]⟩, ⟨#[98]⟩]
theorem ab_err : keyErr ab = 0 := by decide +kernel
theorem ab_res : keyRes ab = [97, 0, 1, 98, 0, 1] := by decide +kernel
theorem n255 : numT 255 = [99, 102, 102] := by decide +kernel

theorem ab_texts (w : World) : Texts (w.alloc (.cells #[.string ⟨#[97]⟩, .string ⟨#[98]⟩] 9)) (some ⟨w.heap.size, 0, none⟩) ab := fun i hi => by
  refine ⟨_, _, rfl, ?_⟩
  match i, hi with
  | 0, _ => simp
  | 1, _ => simp

set_option maxHeartbeats 400000 in
theorem live_any (w : World) (ht : TabAt w) :
    Calls Tryd.prog 16 #[] w fun e w' => e = .returned (.bool true) ∧ Below w.heap.size w w' := by
  have Ht := hid ht
  have Hab := hid (ab_texts w)
  clear ht
  go_enter Tryd.func16, Tryd.ntmps16
  go_wp2_with fail
  refine (key_any ab _ _ _ Hab.out (by decide) (by decide)).mono ?_
  rintro e w1 ⟨a', cap', rfl, hB, hb, _⟩
  rw [ab_err, ab_res] at *
  have HB := hid hB
  have Hb := hid (((Below.refl w.heap.size w).alloc (Nat.le_refl _) _).trans (hb.mono (by simp)))
  clear hB hb
  go_wp2_with fail
  refine (number_pos 255 (by omega) (by omega) _ (Ht.out.below Hb.out)).mono ?_
  rintro e w2 ⟨rfl, hb2⟩
  rw [n255]
  have hcv := conv_bytes w2 a' cap' _ (HB.out.below hb2) (by decide)
  simp only [List.length_cons, List.length_nil] at hcv
  have Hb2 := hid (Hb.out.trans (hb2.mono Hb.out.size))
  clear hb2
  go_wp2
  go_ret
  exact ⟨rfl, Hb2.out⟩
end Go.Proofs.YtgjahhfpfdgjhaaDoor
