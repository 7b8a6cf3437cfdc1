/- Texts of numbers: their order is the numbers', and they are read back. Plain mathematics over the contracts' own functions. -/
import Derived.Test.YtpdknoldcaaboaaDoorToNum
namespace Go.Proofs.YtpdknoldcaaboaaDoor
open Go.Op (bytesLess)

theorem log_bounds (n : Nat) (h : n ≠ 0) : 16 ^ (n.log2 / 4) ≤ n ∧ n < 16 ^ (n.log2 / 4 + 1) := by
  have e1 : ∀ k, (16 : Nat) ^ k = 2 ^ (4 * k) := fun k => by rw [Nat.pow_mul]
  rw [e1, e1]
  constructor
  · exact Nat.le_trans (Nat.pow_le_pow_right (by omega) (by omega)) ((Nat.le_log2 h).1 (Nat.le_refl _))
  · exact Nat.lt_of_lt_of_le ((Nat.log2_lt h).1 (Nat.lt_succ_self _)) (Nat.pow_le_pow_right (by omega) (by omega))

theorem log_le (n : Nat) (h : n ≠ 0) (hn : n ≤ 4611686018427387904) : n.log2 / 4 ≤ 15 := by
  have h1 := (log_bounds n h).1
  have h2 : 16 ^ (n.log2 / 4) < 16 ^ 16 := Nat.lt_of_le_of_lt (Nat.le_trans h1 hn) (by decide)
  have := (Nat.pow_lt_pow_iff_right (a := 16) (by omega)).1 h2
  omega

theorem letr_toNat (k : Nat) (hk : k ≤ 15) : (letr k).toNat = 98 + k := by
  unfold letr
  rw [UInt8.toNat_ofNat']
  omega

theorem numT_less (a b : Nat) (ha : a ≤ 4611686018427387904) (hb : b ≤ 4611686018427387904) : bytesLess (numT a) (numT b) = decide (a < b) := by
  unfold numT
  by_cases a0 : a = 0
  · subst a0
    by_cases b0 : b = 0
    · subst b0; rfl
    · rw [if_pos rfl, if_neg b0]
      have hl := log_le b b0 hb
      have h1 : (97 : UInt8) < letr (b.log2 / 4) := by
        rw [UInt8.lt_iff_toNat_lt, letr_toNat _ hl]
        show 97 < _
        omega
      have h2 : 0 < b := by omega
      simp [bytesLess, h1, h2]
  · rw [if_neg a0]
    have hla := log_le a a0 ha
    by_cases b0 : b = 0
    · subst b0
      rw [if_pos rfl]
      have h1 : ¬ letr (a.log2 / 4) < 97 := by
        rw [UInt8.lt_iff_toNat_lt, letr_toNat _ hla]
        show ¬ _ < 97
        omega
      have h2 : (letr (a.log2 / 4) == 97) = false := by
        rw [beq_eq_false_iff_ne]
        intro e
        have := congrArg UInt8.toNat e
        rw [letr_toNat _ hla] at this
        have h3 : (97 : UInt8).toNat = 97 := rfl
        omega
      simp [bytesLess, h1, h2]
    · rw [if_neg b0]
      have hlb := log_le b b0 hb
      have ba := log_bounds a a0
      have bb := log_bounds b b0
      generalize a.log2 / 4 = ka at *
      generalize b.log2 / 4 = kb at *
      rw [bytesLess]
      rcases Nat.lt_trichotomy ka kb with h | h | h
      · have h1 : letr ka < letr kb := by rw [UInt8.lt_iff_toNat_lt, letr_toNat _ hla, letr_toNat _ hlb]; omega
        have h2 : 16 ^ (ka + 1) ≤ 16 ^ kb := Nat.pow_le_pow_right (by omega) h
        have h3 : a < b := by omega
        simp [h1, h3]
      · subst h
        have h1 : ¬ letr ka < letr ka := by rw [UInt8.lt_iff_toNat_lt]; omega
        rw [lo_less, Nat.mod_eq_of_lt ba.2, Nat.mod_eq_of_lt bb.2]
        simp [h1]
      · have h1 : ¬ letr ka < letr kb := by rw [UInt8.lt_iff_toNat_lt, letr_toNat _ hla, letr_toNat _ hlb]; omega
        have h2 : (letr ka == letr kb) = false := by
          rw [beq_eq_false_iff_ne]
          intro e
          have := congrArg UInt8.toNat e
          rw [letr_toNat _ hla, letr_toNat _ hlb] at this
          omega
        have h4 : 16 ^ (kb + 1) ≤ 16 ^ ka := Nat.pow_le_pow_right (by omega) h
        have h3 : ¬ a < b := by omega
        simp [h1, h2, h3]

theorem dv_hexc : ∀ d : Fin 16, dv (hexc d.val).toNat = some d.val := by decide +kernel
theorem hexc_ne : ∀ d : Fin 16, d.val ≠ 0 → hexc d.val ≠ 48 := by decide +kernel

theorem lo_hex (k n : Nat) : (lo k n).all hexB = true := by
  induction k with
  | zero => rfl
  | succ k ih =>
    have := dv_hexc ⟨n / 16 ^ k % 16, Nat.mod_lt _ (by omega)⟩
    simp only at this
    simp [lo, ih, hexB, this]

theorem digV_lo (k n m : Nat) : digV m (lo k n) = m * 16 ^ k + n % 16 ^ k := by
  induction k generalizing m with
  | zero => simp [lo, digV, Nat.mod_one]
  | succ k ih =>
    have h := dv_hexc ⟨n / 16 ^ k % 16, Nat.mod_lt _ (by omega)⟩
    simp only at h
    have e : digV m (lo (k + 1) n) = digV (m * 16 + n / 16 ^ k % 16) (lo k n) := by
      simp [digV, lo, h]
    rw [e, ih, mod_succ, Nat.add_mul, Nat.pow_succ, Nat.mul_assoc, Nat.mul_comm 16]
    omega

theorem toNum_numT (n : Nat) (hn : n ≤ 4611686018427387904) : toNum (numT n) = (n, 0) := by
  by_cases n0 : n = 0
  · subst n0; decide
  · have hl := log_le n n0 hn
    have hb := log_bounds n n0
    have e : numT n = letr (n.log2 / 4) :: lo (n.log2 / 4 + 1) n := by unfold numT; rw [if_neg n0]
    rw [e]
    generalize n.log2 / 4 = k at *
    have hd : digV 0 (lo (k + 1) n) = n := by rw [digV_lo, Nat.mod_eq_of_lt hb.2]; omega
    have hh : (lo (k + 1) n).head? ≠ some 48 := by
      simp only [lo, List.head?_cons, ne_eq, Option.some.injEq]
      have h1 : n / 16 ^ k < 16 := by
        rw [Nat.div_lt_iff_lt_mul (Nat.pow_pos (by omega)), Nat.mul_comm, ← Nat.pow_succ]
        exact hb.2
      have h2 : 0 < n / 16 ^ k := Nat.div_pos hb.1 (Nat.pow_pos (by omega))
      rw [Nat.mod_eq_of_lt h1]
      exact hexc_ne ⟨n / 16 ^ k, h1⟩ (by simp only; omega)
    unfold toNum
    simp only [List.length_cons, lo_length, List.headD_cons, letr_toNat k hl, List.drop_succ_cons, List.drop_zero, hd, lo_hex]
    rw [if_neg (by omega), if_neg (by rintro (h | h); omega; exact hh h), if_neg (by simp), if_neg (by omega)]
end Go.Proofs.YtpdknoldcaaboaaDoor
