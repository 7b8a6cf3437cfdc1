/- codec.Number and codec.ToNumber, and their references, each by a contract. -/
import Derived.Test.YtgjahhfpfdgjhaaDoorNum
namespace Go.Proofs.YtgjahhfpfdgjhaaDoor
open Go.RowKit

/-- the letter of k + 1 digits -/
def letr (k : Nat) : UInt8 := UInt8.ofNat (98 + k)
/-- a number's text -/
def numT (n : Nat) : List UInt8 := if n = 0 then [97] else letr (n.log2 / 4) :: lo (n.log2 / 4 + 1) n

theorem log_of (n k : Nat) (h0 : n ≠ 0) (h1 : k = 0 ∨ 16 ^ k ≤ n) (h2 : n < 16 ^ (k + 1)) : n.log2 / 4 = k := by
  have e1 : (16 : Nat) ^ (k + 1) = 2 ^ (4 * (k + 1)) := by rw [Nat.pow_mul]
  have e2 : (16 : Nat) ^ k = 2 ^ (4 * k) := by rw [Nat.pow_mul]
  have a := (Nat.log2_lt h0).2 (e1 ▸ h2)
  have b : 4 * k ≤ n.log2 := by
    rcases h1 with rfl | h1
    · omega
    · exact (Nat.le_log2 h0).2 (e2 ▸ h1)
  omega

set_option maxHeartbeats 400000 in
theorem number_low (n : Int) (h : n < 0) (w : World) :
    Calls Tryd.prog 23 #[.int .i64 n] w fun e w' => e = .returned (.tuple #[.string ⟨#[]⟩, .int .i64 2]) ∧ w' = w := by
  go_enter Tryd.func23, Tryd.ntmps23
  go_wp2
  go_ret2
  exact ⟨rfl, rfl⟩

set_option maxHeartbeats 400000 in
theorem number_high (n : Int) (h : 4611686018427387904 < n) (w : World) :
    Calls Tryd.prog 23 #[.int .i64 n] w fun e w' => e = .returned (.tuple #[.string ⟨#[]⟩, .int .i64 2]) ∧ w' = w := by
  have d1 : decide (n < 0) = false := by simp; omega
  have d2 : decide (4611686018427387904 < n) = true := by simp; omega
  go_enter Tryd.func23, Tryd.ntmps23
  go_wp2
  go_ret2
  exact ⟨rfl, rfl⟩

set_option maxHeartbeats 400000 in
theorem number_zero (w : World) :
    Calls Tryd.prog 23 #[.int .i64 0] w fun e w' => e = .returned (.tuple #[.string ⟨(numT 0).toArray⟩, .int .i64 0]) ∧ w' = w := by
  go_enter Tryd.func23, Tryd.ntmps23
  go_wp2
  go_ret2
  exact ⟨rfl, rfl⟩

theorem enc_fin : ∀ k : Fin 16, (Utf8.encode (97 + ((k.val : Int) + 1))).data.toList = [letr k.val] := by decide +kernel
theorem enc_at (k : Nat) (hk : k ≤ 15) : Utf8.encode (97 + ((k : Int) + 1)) = ⟨#[letr k]⟩ :=
  (Lib.mk_data (Utf8.encode (97 + ((k : Int) + 1)))).symm.trans (congrArg (fun l : List UInt8 => (⟨l.toArray⟩ : ByteArray)) (enc_fin ⟨k, by omega⟩))

set_option maxHeartbeats 400000 in
theorem number_pos (n : Nat) (h0 : 0 < n) (h : n ≤ 4611686018427387904) (w : World) (ht : TabAt w) :
    Calls Tryd.prog 23 #[.int .i64 n] w fun e w' => e = .returned (.tuple #[.string ⟨(numT n).toArray⟩, .int .i64 0]) ∧ Below w.heap.size w w' := by
  have d1 : decide ((n : Int) < 0) = false := by simp
  have d2 : decide (4611686018427387904 < (n : Int)) = false := by simp; omega
  have d3 : ((n : Int) == 0) = false := by rw [beq_eq_false_iff_ne]; omega
  go_enter Tryd.func23, Tryd.ntmps23
  go_wp2_with (go_at_call 38; refine (formatInt_any n (by omega) _ ht).mono ?_; rintro e w' ⟨⟨k, hk, hk2, hk3, rfl⟩, hb⟩; have hl := lo_length (k + 1) n; have henc := enc_at k hk; have Hk := hid hk2; clear hk2)
  go_ret2
  refine ⟨ret_two (congrArg Value.string ?_) rfl, hb⟩
  unfold numT
  rw [if_neg (by omega), log_of n k (by omega) Hk.out hk3]
  apply ByteArray.ext
  simp [ByteArray.data_append]
end Go.Proofs.YtgjahhfpfdgjhaaDoor
