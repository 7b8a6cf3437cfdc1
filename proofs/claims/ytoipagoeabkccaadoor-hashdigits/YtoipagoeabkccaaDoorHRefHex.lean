/- The reference's Hex. -/
import Derived.Test.YtoipagoeabkccaaDoorHRefUnhex
import Derived.Laws.Concat
namespace Go.Proofs.YtoipagoeabkccaaDoor
open Go.RowKit
set_option linter.unusedVariables false
set_option maxRecDepth 20000

theorem dig_piece : ∀ x : Fin 16, ((⟨#[48, 49, 50, 51, 52, 53, 54, 55, 56, 57, 97, 98, 99, 100, 101, 102]⟩ : ByteArray).extract x.val (x.val + 1)).data.toList = [dig x.val] := by decide +kernel

/-- two texts joined, kept whole in the walk -/
def addS (x y : Value) : Sem Value := binOp .add 9 x y
theorem addS_fold (x y : Value) : binOp .add 9 x y = addS x y := rfl
theorem addS_run (a b : List UInt8) (ha : a.length ≤ 1000) (hb : b.length ≤ 1000) (w : World) : (addS (.string ⟨a.toArray⟩) (.string ⟨b.toArray⟩)).run Tryd.prog w = .ok (.string ⟨(a ++ b).toArray⟩) w := by
  unfold addS
  rw [binOp_string_add]
  exact run_string_add_lists w a b (by omega) (by omega)
theorem piece_eq (x : Nat) (hx : x < 16) : (⟨#[48, 49, 50, 51, 52, 53, 54, 55, 56, 57, 97, 98, 99, 100, 101, 102]⟩ : ByteArray).extract x (x + 1) = ⟨[dig x].toArray⟩ := by
  have h := dig_piece ⟨x, hx⟩
  simp only at h
  generalize (⟨#[48, 49, 50, 51, 52, 53, 54, 55, 56, 57, 97, 98, 99, 100, 101, 102]⟩ : ByteArray).extract x (x + 1) = p at h
  obtain ⟨d⟩ := p
  obtain ⟨l⟩ := d
  have h' : l = [dig x] := h
  rw [h']
attribute [local go_sem ↓] addS_fold

set_option maxHeartbeats 4000000 in
theorem refHex_any {w : World} {h : List UInt8} {H : Array Value} (hH : HV H h) :
    Calls Tryd.prog 34 #[.agg H] w (TextPost w (hexOf h)) := by
  have HH := hid hH
  have lh : h.length = 32 := hH.len
  have x0 := hid (heap_alloc_new w (.cells H 26))
  clear hH
  go_enter Tryd.func34, Tryd.ntmps34
  go_wp2_with fail
  go_loopw [3, 4] (fun v3 v4 wr => ∃ k : Nat, k ≤ 32 ∧ v4 = .int .i64 k ∧ v3 = .string ⟨(hexOf (h.take k)).toArray⟩ ∧ wr.heap[w.heap.size]? = some (.cells H 26 (0, 0)) ∧ Below w.heap.size w wr) (fun _ v4 _ => 32 - (intOf v4).toNat)
  case atStart => exact ⟨0, Nat.zero_le _, rfl, rfl, x0.out, (Below.refl _ w).alloc (Nat.le_refl _) _⟩
  case round =>
    clear x0
    obtain ⟨k, hk, rfl, rfl, hx, hbel⟩ := hrel
    have Hx := hid hx
    have Hb := hid hbel
    clear hx hbel
    by_cases hlt : k < 32
    · have hkh : k < h.length := by omega
      have c1 : wr.cell? ⟨w.heap.size, k, none⟩ = some (.int .u8 (h[k].toNat : Int)) := by rw [cell_of_row _ _ _ _ _ _ Hx.out, HH.out.eq, bvs_get h k hkh]
      have Hst := hid (hexOf_take h k hkh)
      obtain ⟨b, hb⟩ : ∃ b, b = h[k] := ⟨_, rfl⟩
      rw [← hb] at c1 Hst
      obtain ⟨x, hx⟩ : ∃ x, x = b.toNat / 16 := ⟨_, rfl⟩
      obtain ⟨y, hy⟩ : ∃ y, y = b.toNat % 16 := ⟨_, rfl⟩
      have b256 := b.toNat_lt
      have x16 : x < 16 := by omega
      have y16 : y < 16 := by omega
      have q1 : (b.toNat : Int) / 16 = (x : Int) := by omega
      have q2 : bits .and .u8 (b.toNat : Int) 15 = (y : Int) := by
        have h : bits .and .u8 (b.toNat : Int) 15 = IntKind.u8.wrap ((BitVec.ofInt 8 (b.toNat : Int) &&& BitVec.ofInt 8 15).toNat : Int) := rfl
        rw [h, b_of, hy]
        have e : (b.toBitVec &&& BitVec.ofInt 8 15).toNat = b.toNat % 16 := by
          rw [BitVec.toNat_and, show (BitVec.ofInt 8 15).toNat = 2 ^ 4 - 1 from rfl, Nat.and_two_pow_sub_one_eq_mod]
          rfl
        rw [e, IntKind.wrap_u8]
        omega
      rw [← hx, ← hy] at Hst
      have q3 : IntKind.u8.wrap ((x : Int) + 1) = ((x + 1 : Nat) : Int) := by rw [IntKind.wrap_u8]; omega
      have q4 : IntKind.u8.wrap ((y : Int) + 1) = ((y + 1 : Nat) : Int) := by rw [IntKind.wrap_u8]; omega
      have r1 : (0 : Int) ≤ (x : Int) := by omega
      have r2 : (x : Int) ≤ ((x + 1 : Nat) : Int) := by omega
      have r3 : ((x + 1 : Nat) : Int) ≤ 16 := by omega
      have r4 : (0 : Int) ≤ (y : Int) := by omega
      have r5 : (y : Int) ≤ ((y + 1 : Nat) : Int) := by omega
      have r6 : ((y + 1 : Nat) : Int) ≤ 16 := by omega
      have p1 := piece_eq x x16
      have p2 := piece_eq y y16
      have a1 := addS_run [dig x] [dig y] (by simp) (by simp)
      have a2 := addS_run (hexOf (h.take k)) [dig x, dig y] (by rw [hexOf_length]; simp; omega) (by simp)
      simp only [List.cons_append, List.nil_append] at a1
      rw [← Hst.out] at a2
      have HE : Hid (hexOf (h.take (k + 1)) = hexOf (h.take (k + 1))) := rfl
      obtain ⟨S0, hS0⟩ : ∃ S0 : ByteArray, S0 = ⟨(hexOf (h.take k)).toArray⟩ := ⟨_, rfl⟩
      obtain ⟨S1, hS1⟩ : ∃ S1 : ByteArray, S1 = ⟨(hexOf (h.take (k + 1))).toArray⟩ := ⟨_, rfl⟩
      rw [← hS0, ← hS1] at a2
      rw [← hS0]
      have HS1 := hid hS1
      have HS0 := hid hS0
      clear hb hx hy hkh b256 Hst hS1 hS0
      go_wp2_with fail
      go_region
      all_goals
        go_wp2_with fail
        go_roundw
        case rel => exact ⟨k + 1, by omega, by go_num, by rw [HS1.out], Hx.out, Hb.out.drew⟩
        case measure => simp [intOf]; omega
    · have hk32 : k = 32 := by omega
      have He : Hid (hexOf (h.take k) = hexOf h) := by
        show _ = _
        rw [List.take_of_length_le (by omega)]
      clear hk32 hk
      go_wp2
      go_ret
      exact ⟨by rw [He.out]; rfl, Hb.out⟩
end Go.Proofs.YtoipagoeabkccaaDoor
