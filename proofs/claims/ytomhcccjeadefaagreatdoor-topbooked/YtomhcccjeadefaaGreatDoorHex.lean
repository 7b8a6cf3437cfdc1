/- Digits in base 16: their order. Plain mathematics: no program. -/
import GoSem.Op.String
namespace Go.Proofs.YtomhcccjeadefaaGreatDoor
def hexc (d : Nat) : UInt8 := if d < 10 then UInt8.ofNat (48 + d) else UInt8.ofNat (87 + d)
def lo : Nat → Nat → List UInt8
  | 0, _ => []
  | k + 1, n => hexc (n / 16 ^ k % 16) :: lo k n
theorem lo_length (k n : Nat) : (lo k n).length = k := by
  induction k with
  | zero => rfl
  | succ k ih => simp [lo, ih]
theorem mod_succ (a k : Nat) : a % 16 ^ (k + 1) = a / 16 ^ k % 16 * 16 ^ k + a % 16 ^ k := by
  rw [Nat.pow_succ, Nat.mod_mul]; rw [Nat.mul_comm]; omega
end Go.Proofs.YtomhcccjeadefaaGreatDoor
