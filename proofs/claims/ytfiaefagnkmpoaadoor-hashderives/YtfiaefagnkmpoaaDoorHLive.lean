/- The laws' own look: live, of the laws on hashes. -/
import Derived.Test.YtfiaefagnkmpoaaDoorHHex
import Derived.Lib.SlBytesConst
namespace Go.Proofs.YtfiaefagnkmpoaaDoor
open Go.RowKit
set_option linter.unusedVariables false
set_option maxRecDepth 100000

def hexNone : List UInt8 := [101, 51, 98, 48, 99, 52, 52, 50, 57, 56, 102, 99, 49, 99, 49, 52, 57, 97, 102, 98, 102, 52, 99, 56, 57, 57, 54, 102, 98, 57, 50, 52, 50, 55, 97, 101, 52, 49, 101, 52, 54, 52, 57, 98, 57, 51, 52, 99, 97, 52, 57, 53, 57, 57, 49, 98, 55, 56, 53, 50, 98, 56, 53, 53]
def hexAbc : List UInt8 := [98, 97, 55, 56, 49, 54, 98, 102, 56, 102, 48, 49, 99, 102, 101, 97, 52, 49, 52, 49, 52, 48, 100, 101, 53, 100, 97, 101, 50, 50, 50, 51, 98, 48, 48, 51, 54, 49, 97, 51, 57, 54, 49, 55, 55, 97, 57, 99, 98, 52, 49, 48, 102, 102, 54, 49, 102, 50, 48, 48, 49, 53, 97, 100]
theorem hex_none : hexOf (sha []) = hexNone := by decide +kernel
theorem hex_abc : hexOf (sha [97, 98, 99]) = hexAbc := by decide +kernel
theorem is_none : ((⟨(hexOf (sha [])).toArray⟩ : ByteArray).toList == (⟨#[101, 51, 98, 48, 99, 52, 52, 50, 57, 56, 102, 99, 49, 99, 49, 52, 57, 97, 102, 98, 102, 52, 99, 56, 57, 57, 54, 102, 98, 57, 50, 52, 50, 55, 97, 101, 52, 49, 101, 52, 54, 52, 57, 98, 57, 51, 52, 99, 97, 52, 57, 53, 57, 57, 49, 98, 55, 56, 53, 50, 98, 56, 53, 53]⟩ : ByteArray).toList) = true := by
  rw [hex_none, beq_iff_eq]
  rfl
theorem is_abc : ((⟨(hexOf (sha [97, 98, 99])).toArray⟩ : ByteArray).toList == (⟨#[98, 97, 55, 56, 49, 54, 98, 102, 56, 102, 48, 49, 99, 102, 101, 97, 52, 49, 52, 49, 52, 48, 100, 101, 53, 100, 97, 101, 50, 50, 50, 51, 98, 48, 48, 51, 54, 49, 97, 51, 57, 54, 49, 55, 55, 97, 57, 99, 98, 52, 49, 48, 102, 102, 54, 49, 102, 50, 48, 48, 49, 53, 97, 100]⟩ : ByteArray).toList) = true := by
  rw [hex_abc, beq_iff_eq]
  rfl

theorem bytes_fr (l : List UInt8) (t : TypeId) {w : World} {g : Nat} {fr : Nat × Nat} (hg : w.heap[g]? = some (.cells (cellsOf l).toArray t fr)) : Bytes w (some ⟨g, 0, none⟩) l := fun i hi =>
  ⟨g, 0, rfl, by rw [Nat.zero_add]; simp [World.cell?, hg, cellsOf, hi]⟩
theorem heap_alloc_fr (w : World) (o : Obj) : (w.alloc o).heap[w.heap.size]? = some o := heap_alloc_last w o

set_option maxHeartbeats 2000000 in
theorem live_any {w : World} (hK : KAt w) :
    Calls Tryd.prog 10 #[] w fun e w' => e = .returned (.bool true) ∧ Below w.heap.size w w' := by
  have HK := hid hK
  clear hK
  obtain ⟨n0, hn0⟩ : ∃ n0 : ByteArray, n0 = ⟨#[101, 51, 98, 48, 99, 52, 52, 50, 57, 56, 102, 99, 49, 99, 49, 52, 57, 97, 102, 98, 102, 52, 99, 56, 57, 57, 54, 102, 98, 57, 50, 52, 50, 55, 97, 101, 52, 49, 101, 52, 54, 52, 57, 98, 57, 51, 52, 99, 97, 52, 57, 53, 57, 57, 49, 98, 55, 56, 53, 50, 98, 56, 53, 53]⟩ := ⟨_, rfl⟩
  obtain ⟨n1, hn1⟩ : ∃ n1 : ByteArray, n1 = ⟨#[98, 97, 55, 56, 49, 54, 98, 102, 56, 102, 48, 49, 99, 102, 101, 97, 52, 49, 52, 49, 52, 48, 100, 101, 53, 100, 97, 101, 50, 50, 50, 51, 98, 48, 48, 51, 54, 49, 97, 51, 57, 54, 49, 55, 55, 97, 57, 99, 98, 52, 49, 48, 102, 102, 54, 49, 102, 50, 48, 48, 49, 53, 97, 100]⟩ := ⟨_, rfl⟩
  obtain ⟨s0, hs0⟩ : ∃ s0 : ByteArray, s0 = ⟨(hexOf (sha [])).toArray⟩ := ⟨_, rfl⟩
  obtain ⟨s1, hs1⟩ : ∃ s1 : ByteArray, s1 = ⟨(hexOf (sha [97, 98, 99])).toArray⟩ := ⟨_, rfl⟩
  have q0 : (s0.toList == n0.toList) = true := by rw [hs0, hn0]; exact is_none
  have q1 : (s1.toList == n1.toList) = true := by rw [hs1, hn1]; exact is_abc
  have Hs0 := hid hs0
  have Hs1 := hid hs1
  have Hn0 := hid hn0.symm
  have Hn1 := hid hn1.symm
  clear hs0 hs1 hn0 hn1
  go_enter Tryd.func10, Tryd.ntmps10
  rw [Hn0.out, Hn1.out]
  clear Hn0 Hn1
  go_wp2_with fail
  refine (hsum_any [] none 0 0 rfl (fun i hi => absurd hi (by simp)) (by simp) (by simp) HK.out).mono ?_
  rintro _ w1 ⟨O, rfl, hO, hb1⟩
  have b1 := hid hb1
  clear hb1
  go_wp2_with fail
  refine (hex_any hO.out).mono ?_
  rintro _ w2 ⟨rfl, hb2⟩
  have b2 : Hid (Below w.heap.size w w2) := Below.on' b1.out hb2
  rw [← Hs0.out]
  clear hb2 b1 hO Hs0
  have hcv := Lib.run_convert_bytes_const (P := Tryd.prog) w2 22 5 #[.int .u8 97, .int .u8 98, .int .u8 99] 3 3 Tryd.underlying22 Tryd.underlying5
  go_wp2_with fail
  refine (hsum_any [97, 98, 99] (some ⟨w2.heap.size, 0, none⟩) 3 3 rfl (bytes_fr [97, 98, 99] 5 (heap_alloc_fr w2 _)) (by simp) (by simp) (HK.out.below (b2.out.alloc b2.out.size _))).mono ?_
  rintro _ w3 ⟨O, rfl, hO, hb3⟩
  have b3 : Hid (Below w.heap.size w w3) := Below.on' (b2.out.alloc b2.out.size _) hb3
  clear hb3 b2
  go_wp2_with fail
  refine (hex_any hO.out).mono ?_
  rintro _ w4 ⟨rfl, hb4⟩
  have b4 : Hid (Below w.heap.size w w4) := Below.on' b3.out hb4
  rw [← Hs1.out]
  clear hb4 b3 hO Hs1
  go_wp2
  go_ret
  exact ⟨rfl, b4.out⟩
end Go.Proofs.YtfiaefagnkmpoaaDoor
