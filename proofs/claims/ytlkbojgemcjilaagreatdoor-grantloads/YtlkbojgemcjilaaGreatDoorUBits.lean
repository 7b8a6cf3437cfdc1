/- Scopes as bits. (50 s: a fact of all pairs of bytes, by the kernel.) -/
import Derived.Test.YtlkbojgemcjilaaGreatDoorRows
import Derived.WalkKit
namespace Go.Proofs.YtlkbojgemcjilaaGreatDoor
open Go.RowKit
theorem narrow_bits : ∀ a : Nat, a < 256 → ∀ b : Nat, b < 256 → (bits BinOp.andNot IntKind.u8 (a : Int) (b : Int) == 0) = decide (a &&& b = a) := by decide +kernel
theorem and_bits (a b : Nat) (ha : a < 256) (hb : b < 256) : bits BinOp.and IntKind.u8 (a : Int) (b : Int) = ((a &&& b : Nat) : Int) := by
  have hx : a &&& b < 2 ^ 8 := Nat.and_lt_two_pow _ (by omega)
  have h1 : (BitVec.ofInt 8 (a : Int)).toNat = a := by
    rw [BitVec.ofInt_natCast, BitVec.toNat_ofNat]; exact Nat.mod_eq_of_lt (by omega)
  have h2 : (BitVec.ofInt 8 (b : Int)).toNat = b := by
    rw [BitVec.ofInt_natCast, BitVec.toNat_ofNat]; exact Nat.mod_eq_of_lt (by omega)
  show IntKind.u8.wrap ((BitVec.ofInt 8 (a : Int) &&& BitVec.ofInt 8 (b : Int)).toNat : Int) = _
  rw [BitVec.toNat_and, h1, h2, IntKind.wrap_u8]
  omega
end Go.Proofs.YtlkbojgemcjilaaGreatDoor
