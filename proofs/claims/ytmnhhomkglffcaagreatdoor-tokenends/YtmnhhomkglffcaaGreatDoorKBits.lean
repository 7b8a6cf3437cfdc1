/- Scopes as bits. (100 s: two facts of all pairs of bytes, by the kernel.) -/
import Derived.Test.YtmnhhomkglffcaaGreatDoorKOk
namespace Go.Proofs.YtmnhhomkglffcaaGreatDoor
open Go.RowKit Go.Maps Go.Sort Go.Shelf
set_option linter.unusedVariables false
set_option maxRecDepth 20000

instance (a b : Int) : Decidable (nar a b) := inferInstanceAs (Decidable (a.toNat &&& b.toNat = a.toNat))
theorem narrow_bits : ∀ a : Nat, a < 256 → ∀ b : Nat, b < 256 → (bits BinOp.andNot IntKind.u8 (a : Int) (b : Int) == 0) = decide (a &&& b = a) := by decide +kernel
theorem and_bits : ∀ a : Nat, a < 256 → ∀ b : Nat, b < 256 → bits BinOp.and IntKind.u8 (a : Int) (b : Int) = ((a &&& b : Nat) : Int) := by decide +kernel
set_option maxHeartbeats 800000 in
theorem isNarrower_any (a b : Int) (ha : 0 ≤ a ∧ a ≤ 255) (hb : 0 ≤ b ∧ b ≤ 255) (w : World) :
    Calls Tryz.prog 61 #[.int .u8 a, .int .u8 b] w fun e w' => e = .returned (.bool (decide (nar a b))) ∧ w' = w := by
  have h9 : (bits BinOp.andNot IntKind.u8 a b == 0) = decide (nar a b) := by
    have := narrow_bits a.toNat (by omega) b.toNat (by omega)
    rw [Int.toNat_of_nonneg ha.1, Int.toNat_of_nonneg hb.1] at this
    exact this
  have H9 := hid h9
  clear h9
  go_enter Tryz.func61, Tryz.ntmps61
  go_wp2
  rw [H9.out]
  go_ret
  exact ⟨rfl, rfl⟩
end Go.Proofs.YtmnhhomkglffcaaGreatDoor
