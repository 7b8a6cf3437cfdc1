/- Any text as a number, on a seat with chains of events (AToNum's names). -/
import Derived.Test.YthfmpebgmojcaaaDoorAToNum
import Derived.WalkKit
import Derived.WalkSpells
import Derived.WalkLawsBesides
namespace Go.Proofs.YthfmpebgmojcaaaDoor
open Go.RowKit
open Go.Op (bytesLess)
set_option linter.unusedVariables false
set_option maxRecDepth 20000
def numR (l : List UInt8) (lo hi : Nat) : Option Nat := if (toNum l).2 = 0 ∧ lo ≤ (toNum l).1 ∧ (toNum l).1 ≤ hi then some (toNum l).1 else none
set_option maxHeartbeats 400000 in
theorem numberJ_any (s : ByteArray) (hs : s.size ≤ maxLen) (lo hi : Nat) (w : World) :
    Calls Tryd.prog 71 #[.string s, .int .i64 (lo : Int), .int .i64 (hi : Int)] w fun e w' => e = .returned (.tuple #[.int .i64 (((numR s.data.toList lo hi).getD 0 : Nat) : Int), .bool (numR s.data.toList lo hi).isSome]) ∧ w' = w := by
  have HC := hid (toNumber_any s w hs)
  obtain ⟨n, c, hr⟩ : ∃ n c, toNum s.data.toList = (n, c) := ⟨_, _, rfl⟩
  unfold numR
  rw [hr] at HC ⊢
  simp only at HC ⊢
  clear hr hs
  by_cases h0 : c = 0
  · subst h0
    by_cases h1 : lo ≤ n
    · by_cases h2 : n ≤ hi
      · rw [if_pos ⟨rfl, h1, h2⟩]
        have d1 : decide ((n : Int) < (lo : Int)) = false := decide_eq_false (by omega)
        have d2 : decide ((hi : Int) < (n : Int)) = false := decide_eq_false (by omega)
        have d3 : ¬ (n : Int) < (lo : Int) := by omega
        have d4 : ¬ (hi : Int) < (n : Int) := by omega
        clear h1 h2
        go_enter Tryd.func71, Tryd.ntmps71
        go_wp2_with (go_at_call 99; refine HC.out.mono ?_; rintro e w1 ⟨rfl, e9⟩; subst w1)
        go_ret2
        exact ⟨rfl, rfl⟩
      · rw [if_neg (fun h => h2 h.2.2)]
        have d1 : decide ((n : Int) < (lo : Int)) = false := decide_eq_false (by omega)
        have d2 : decide ((hi : Int) < (n : Int)) = true := decide_eq_true (by omega)
        have d3 : ¬ (n : Int) < (lo : Int) := by omega
        have d4 : (hi : Int) < (n : Int) := by omega
        clear h1 h2
        go_enter Tryd.func71, Tryd.ntmps71
        go_wp2_with (go_at_call 99; refine HC.out.mono ?_; rintro e w1 ⟨rfl, e9⟩; subst w1)
        go_ret2
        exact ⟨rfl, rfl⟩
    · rw [if_neg (fun h => h1 h.2.1)]
      have d1 : decide ((n : Int) < (lo : Int)) = true := decide_eq_true (by omega)
      have d3 : (n : Int) < (lo : Int) := by omega
      clear h1
      go_enter Tryd.func71, Tryd.ntmps71
      go_wp2_with (go_at_call 99; refine HC.out.mono ?_; rintro e w1 ⟨rfl, e9⟩; subst w1)
      go_ret2
      exact ⟨rfl, rfl⟩
  · rw [if_neg (fun h => h0 h.1)]
    have d1 : ((c : Int) != 0) = true := by simp; omega
    clear h0
    go_enter Tryd.func71, Tryd.ntmps71
    go_wp2_with (go_at_call 99; refine HC.out.mono ?_; rintro e w1 ⟨rfl, e9⟩; subst w1)
    go_ret2
    exact ⟨rfl, rfl⟩
theorem hexc_dv : ∀ c : Fin 256, hexB (UInt8.ofNat c.val) = true → hexc ((dv c.val).getD 0) = UInt8.ofNat c.val := by decide +kernel
theorem hexc_of {c : UInt8} (h : hexB c = true) : hexc ((dv c.toNat).getD 0) = c := by
  have h1 := hexc_dv ⟨c.toNat, c.toNat_lt⟩
  have h2 : UInt8.ofNat c.toNat = c := by simp
  simp only [h2] at h1
  exact h1 h
theorem digV_split (m : Nat) (r : List UInt8) : digV m r = m * 16 ^ r.length + digV 0 r := by
  induction r generalizing m with
  | nil => simp [digV]
  | cons c r ih =>
    have e1 : digV m (c :: r) = digV (m * 16 + (dv c.toNat).getD 0) r := rfl
    have e2 : digV 0 (c :: r) = digV ((dv c.toNat).getD 0) r := by simp [digV]
    rw [e1, e2, ih (m * 16 + _), ih ((dv c.toNat).getD 0), List.length_cons, Nat.pow_succ, Nat.add_mul, Nat.mul_assoc m 16, Nat.mul_comm 16]
    omega
theorem lo_digV (r : List UInt8) (h : r.all hexB = true) (m : Nat) : lo r.length (digV m r) = r := by
  induction r generalizing m with
  | nil => rfl
  | cons c r ih =>
    simp only [List.all_cons, Bool.and_eq_true] at h
    have e1 : digV m (c :: r) = digV (m * 16 + (dv c.toNat).getD 0) r := rfl
    rw [e1, List.length_cons, lo, ih h.2]
    have e2 := digV_split (m * 16 + (dv c.toNat).getD 0) r
    have e3 := digV_lt r
    have e4 : digV (m * 16 + (dv c.toNat).getD 0) r / 16 ^ r.length = m * 16 + (dv c.toNat).getD 0 := by
      rw [e2, Nat.mul_comm, Nat.mul_add_div (Nat.pow_pos (by omega)), Nat.div_eq_of_lt e3, Nat.add_zero]
    have e5 := dv_lt c.toNat
    rw [e4, Nat.mul_comm m 16, Nat.mul_add_mod, Nat.mod_eq_of_lt e5, hexc_of h.1]
theorem toNum_inv {l : List UInt8} {n : Nat} (h : toNum l = (n, 0)) : l = numT n ∧ n ≤ 4611686018427387904 := by
  unfold toNum at h
  split at h
  · cases h
  · rename_i h1
    split at h
    · cases h
    · rename_i h2
      split at h
      · cases h
      · rename_i h3
        split at h
        · cases h
        · rename_i h4
          obtain rfl : digV 0 (l.drop 1) = n := (Prod.mk.inj h).1
          refine ⟨?_, by omega⟩
          have h3' : (l.drop 1).all hexB = true := by simpa using h3
          cases l with
          | nil => simp at h1
          | cons c r =>
            simp only [List.drop_succ_cons, List.drop_zero, List.headD_cons, List.length_cons] at *
            obtain ⟨h5, h6⟩ : c.toNat = 96 + (r.length + 1) ∧ r.head? ≠ some 48 := ⟨Classical.byContradiction fun h => h2 (.inl h), fun h => h2 (.inr h)⟩
            have hlo := lo_digV r h3' 0
            have hlt := digV_lt r
            cases r with
            | nil =>
              have : c = 97 := by rw [← UInt8.toNat_inj]; simpa using h5
              subst this
              rfl
            | cons b r =>
              have hb : hexB b = true := by simp only [List.all_cons, Bool.and_eq_true] at h3'; exact h3'.1
              have hb0 : (dv b.toNat).getD 0 ≠ 0 := fun e => by
                have := hexc_of hb
                rw [e] at this
                exact h6 (by rw [← this]; rfl)
              have hge : 16 ^ r.length ≤ digV 0 (b :: r) := by
                have e1 : digV 0 (b :: r) = digV ((dv b.toNat).getD 0) r := by simp [digV]
                rw [e1, digV_split]
                have : 1 * 16 ^ r.length ≤ (dv b.toNat).getD 0 * 16 ^ r.length := Nat.mul_le_mul_right _ (by omega)
                omega
              have hp : 0 < 16 ^ r.length := Nat.pow_pos (by omega)
              generalize hn : digV 0 (b :: r) = n at *
              have hn0 : n ≠ 0 := by omega
              have hb2 := log_bounds n hn0
              have hk : n.log2 / 4 = r.length := by
                have q1 : 16 ^ (n.log2 / 4) < 16 ^ (r.length + 1) := Nat.lt_of_le_of_lt hb2.1 (by simpa using hlt)
                have q2 : 16 ^ r.length < 16 ^ (n.log2 / 4 + 1) := Nat.lt_of_le_of_lt hge hb2.2
                have := (Nat.pow_lt_pow_iff_right (a := 16) (by omega)).1 q1
                have := (Nat.pow_lt_pow_iff_right (a := 16) (by omega)).1 q2
                omega
              unfold numT
              rw [if_neg hn0, hk]
              have : c = letr r.length := by
                rw [← UInt8.toNat_inj, h5, letr_toNat _ (by simp at h1; omega)]
                simp
                omega
              rw [this]
              simpa using hlo.symm
end Go.Proofs.YthfmpebgmojcaaaDoor
