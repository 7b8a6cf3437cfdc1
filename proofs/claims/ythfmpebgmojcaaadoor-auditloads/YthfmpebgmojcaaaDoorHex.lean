/- Digits in base 16: their order. Plain mathematics: no program. -/
import GoSem.Op.String
namespace Go.Proofs.YthfmpebgmojcaaaDoor
def hexc (d : Nat) : UInt8 := if d < 10 then UInt8.ofNat (48 + d) else UInt8.ofNat (87 + d)
def lo : Nat → Nat → List UInt8
  | 0, _ => []
  | k + 1, n => hexc (n / 16 ^ k % 16) :: lo k n
theorem lo_length (k n : Nat) : (lo k n).length = k := by
  induction k with
  | zero => rfl
  | succ k ih => simp [lo, ih]
theorem hexc_lt : ∀ x : Fin 16, ∀ y : Fin 16, (decide (hexc x.val < hexc y.val)) = decide (x.val < y.val) := by decide +kernel
theorem hexc_eq : ∀ x : Fin 16, ∀ y : Fin 16, (hexc x.val == hexc y.val) = decide (x.val = y.val) := by decide +kernel
theorem mod_succ (a k : Nat) : a % 16 ^ (k + 1) = a / 16 ^ k % 16 * 16 ^ k + a % 16 ^ k := by
  rw [Nat.pow_succ, Nat.mod_mul]; rw [Nat.mul_comm]; omega
theorem lo_less (k a b : Nat) : Op.bytesLess (lo k a) (lo k b) = decide (a % 16 ^ k < b % 16 ^ k) := by
  induction k with
  | zero => simp [lo, Op.bytesLess, Nat.mod_one]
  | succ k ih =>
    rw [lo, lo, Op.bytesLess, ih]
    have hx := hexc_lt ⟨a / 16 ^ k % 16, Nat.mod_lt _ (by omega)⟩ ⟨b / 16 ^ k % 16, Nat.mod_lt _ (by omega)⟩
    have hy := hexc_eq ⟨a / 16 ^ k % 16, Nat.mod_lt _ (by omega)⟩ ⟨b / 16 ^ k % 16, Nat.mod_lt _ (by omega)⟩
    simp only at hx hy
    rw [hx, hy, mod_succ, mod_succ]
    clear hx hy ih
    have ha : a % 16 ^ k < 16 ^ k := Nat.mod_lt _ (Nat.pow_pos (by omega))
    have hb : b % 16 ^ k < 16 ^ k := Nat.mod_lt _ (Nat.pow_pos (by omega))
    rw [Bool.eq_iff_iff]
    simp only [Bool.or_eq_true, Bool.and_eq_true, decide_eq_true_eq]
    generalize a / 16 ^ k % 16 = x at *
    generalize b / 16 ^ k % 16 = y at *
    generalize a % 16 ^ k = u at *
    generalize b % 16 ^ k = v at *
    generalize 16 ^ k = B at *
    rcases Nat.lt_trichotomy x y with h | h | h
    · have : (x + 1) * B ≤ y * B := Nat.mul_le_mul_right _ h
      rw [Nat.add_mul] at this
      constructor
      · intro _; omega
      · intro _; exact .inl h
    · subst h
      constructor
      · rintro (h | ⟨_, h⟩)
        · omega
        · omega
      · intro h; exact .inr ⟨rfl, by omega⟩
    · have : (y + 1) * B ≤ x * B := Nat.mul_le_mul_right _ h
      rw [Nat.add_mul] at this
      constructor
      · rintro (h' | ⟨h', _⟩) <;> omega
      · intro _; omega
end Go.Proofs.YthfmpebgmojcaaaDoor
