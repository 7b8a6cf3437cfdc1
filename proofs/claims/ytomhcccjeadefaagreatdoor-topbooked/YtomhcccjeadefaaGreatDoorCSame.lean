/- Two hashes compared: hash.Same. -/
import Derived.Test.YtomhcccjeadefaaGreatDoorCB5
namespace Go.Proofs.YtomhcccjeadefaaGreatDoor
open Go.RowKit
set_option linter.unusedVariables false
set_option maxRecDepth 20000
theorem or_zero (a b : UInt8) : a ||| b = 0 ↔ a = 0 ∧ b = 0 := by
  constructor
  · intro h
    have h1 := congrArg UInt8.toBitVec h
    have h2 : a.toBitVec ||| b.toBitVec = 0#8 := h1
    rw [BitVec.or_eq_zero_iff] at h2
    exact ⟨UInt8.toBitVec_inj.1 h2.1, UInt8.toBitVec_inj.1 h2.2⟩
  · rintro ⟨rfl, rfl⟩; rfl
theorem xor_zero (a b : UInt8) : a ^^^ b = 0 ↔ a = b := UInt8.xor_eq_zero_iff
theorem take_eq_step (a b : List UInt8) (k : Nat) (ha : k < a.length) (hb : k < b.length) : a.take (k + 1) = b.take (k + 1) ↔ a.take k = b.take k ∧ a[k] = b[k] := by
  rw [List.take_succ_eq_append_getElem ha, List.take_succ_eq_append_getElem hb]
  constructor
  · intro h
    have := List.append_inj h (by simp; omega)
    exact ⟨this.1, by simpa using this.2⟩
  · rintro ⟨h1, h2⟩; rw [h1, h2]
set_option maxHeartbeats 2000000 in
theorem same_any {w : World} {a b : List UInt8} {A B : Array Value} (hA : HV A a) (hB : HV B b) :
    Calls Tryz.prog 35 #[.agg A, .agg B] w fun e w' => e = .returned (.bool (decide (a = b))) ∧ Below w.heap.size w w' := by
  have la := hA.len
  have lb := hB.len
  have x0 := hid (heap_alloc2_old w (.cells A 27) (.cells B 27))
  have y0 := hid (heap_alloc2_new w (.cells A 27) (.cells B 27))
  have b0 : Hid (Below w.heap.size w ((w.alloc (.cells A 27)).alloc (.cells B 27))) := ((Below.refl _ w).alloc (Nat.le_refl _) _).alloc (by simp) _
  have HA := hid hA
  have HB := hid hB
  clear hA hB
  go_enter Tryz.func35, Tryz.ntmps35
  go_wp2_with fail
  go_loopw [5, 7] (fun v5 v7 wr => ∃ (k : Nat) (u : UInt8), k ≤ 32 ∧ v7 = .int .i64 k ∧ v5 = .int .u8 (u.toNat : Int) ∧ (u = 0 ↔ a.take k = b.take k) ∧ wr.heap[w.heap.size]? = some (.cells A 27 (0, 0)) ∧ wr.heap[w.heap.size + 1]? = some (.cells B 27 (0, 0)) ∧ Below w.heap.size w wr) (fun _ v7 _ => 32 - (intOf v7).toNat)
  case atStart => exact ⟨0, 0, Nat.zero_le _, rfl, rfl, by simp, x0.out, y0.out, b0.out⟩
  case round =>
    clear x0 y0 b0
    obtain ⟨k, u, hk, rfl, rfl, hu, hx, hy, hbel⟩ := hrel
    have Hu := hid hu
    have Hx := hid hx
    have Hy := hid hy
    have Hb := hid hbel
    clear hu hx hy hbel
    by_cases hlt : k < 32
    · have hka : k < a.length := by omega
      have hkb : k < b.length := by omega
      have c1 : wr.cell? ⟨w.heap.size, k, none⟩ = some (.int .u8 (a[k].toNat : Int)) := by rw [cell_of_row _ _ _ _ _ _ Hx.out, HA.out.eq, bvs_get a k hka]
      have c2 : wr.cell? ⟨w.heap.size + 1, k, none⟩ = some (.int .u8 (b[k].toNat : Int)) := by rw [cell_of_row _ _ _ _ _ _ Hy.out, HB.out.eq, bvs_get b k hkb]
      have Hst := hid (take_eq_step a b k hka hkb)
      obtain ⟨x, hxx⟩ : ∃ x, x = a[k] := ⟨_, rfl⟩
      obtain ⟨y, hyy⟩ : ∃ y, y = b[k] := ⟨_, rfl⟩
      rw [← hxx, ← hyy] at Hst
      rw [← hxx] at c1
      rw [← hyy] at c2
      obtain ⟨z, hz⟩ : ∃ z, z = x ^^^ y := ⟨_, rfl⟩
      obtain ⟨t, ht⟩ : ∃ t, t = u ||| z := ⟨_, rfl⟩
      have q1 : bits .xor .u8 (x.toNat : Int) (y.toNat : Int) = (z.toNat : Int) := by rw [hz]; exact b_xor x y
      have q2 : bits .or .u8 (u.toNat : Int) (z.toNat : Int) = (t.toNat : Int) := by rw [ht]; exact b_or u z
      have Hz : Hid (t = 0 ↔ a.take (k + 1) = b.take (k + 1)) := by
        show _ ↔ _
        rw [ht, or_zero, hz, xor_zero, Hu.out, Hst.out]
      clear hz ht hxx hyy Hu Hst hka hkb
      go_wp2_with fail
      go_region
      go_wp2
      go_roundw
      case rel => exact ⟨k + 1, t, by omega, by go_num, rfl, Hz.out, Hx.out, Hy.out, Hb.out.drew⟩
      case measure => simp [intOf]; omega
    · have hk32 : k = 32 := by omega
      have He : Hid (u = 0 ↔ a = b) := by
        have h := Hu.out
        rw [hk32, List.take_of_length_le (by omega), List.take_of_length_le (by omega)] at h
        exact h
      have q1 : ((u.toNat : Int) == 0) = decide (a = b) := by
        rw [Bool.eq_iff_iff, decide_eq_true_iff, ← He.out, beq_iff_eq]
        constructor
        · intro h; exact UInt8.toNat_inj.1 (by show u.toNat = 0; omega)
        · rintro rfl; rfl
      clear Hu hk32 hk He
      go_wp2
      go_ret
      exact ⟨ret_bool (by rw [← q1]), Hb.out⟩
end Go.Proofs.YtomhcccjeadefaaGreatDoor
