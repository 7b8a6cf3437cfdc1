/- The reference's Number, by a contract. -/
import Derived.Test.YthfmpebgmojcaaaDoorAFn
namespace Go.Proofs.YthfmpebgmojcaaaDoor
open Go.RowKit
set_option linter.unusedVariables false
set_option maxRecDepth 20000
abbrev digits16 : ByteArray := ⟨#[48, 49, 50, 51, 52, 53, 54, 55, 56, 57, 97, 98, 99, 100, 101, 102]⟩
theorem digits16_at : ∀ d : Fin 16, digits16.data[d.val]? = some (hexc d.val) := by decide +kernel
theorem hex16_at (d : Nat) (hd : d < 16) (h : d < digits16.size) : digits16[d]'h = hexc d :=
  (Array.getElem?_eq_some_iff.1 (digits16_at ⟨d, hd⟩)).2
set_option maxHeartbeats 400000 in
theorem digit_any (d : Nat) (hd : d < 16) (w : World) :
    Calls Tryd.prog 101 #[.int .i64 d] w fun e w' => e = .returned (.int .u8 ((hexc d).toNat : Int)) ∧ w' = w := by
  go_enter Tryd.func101, Tryd.ntmps101
  go_wp2
  go_ret
  exact ⟨ret_int (by rw [← hex16_at d hd (by exact hd)]), rfl⟩
def letk (k : Nat) : UInt8 := UInt8.ofNat (97 + k)
theorem letk_toNat (k : Nat) (hk : k ≤ 16) : (letk k).toNat = 97 + k := by
  unfold letk
  rw [UInt8.toNat_ofNat']
  omega
theorem cv1 (W : World) (c : UInt8) : (convert 40 9 (.slice (some ⟨W.heap.size, 0, none⟩) 1 1)).run Tryd.prog (W.alloc (.cells #[.int .u8 (c.toNat : Int)] 5)) =
    .ok (.string ⟨#[c]⟩) (W.alloc (.cells #[.int .u8 (c.toNat : Int)] 5)) := by
  exact run_convert_bytes_back (P := Tryd.prog) (W.alloc (.cells #[.int .u8 (c.toNat : Int)] 5)) 40 9 5 ⟨W.heap.size, 0, none⟩ 1 [c] Tryd.underlying40 Tryd.underlying5 Tryd.underlying9 (fun j hj => by
    have : j = 0 := by simpa using hj
    subst this
    simp [Addr.add])
theorem cvk (W : World) (k : Nat) (hk : k ≤ 16) : (convert 40 9 (.slice (some ⟨W.heap.size, 0, none⟩) 1 1)).run Tryd.prog (W.alloc (.cells #[.int .u8 (97 + (k : Int))] 5)) =
    .ok (.string ⟨#[letk k]⟩) (W.alloc (.cells #[.int .u8 (97 + (k : Int))] 5)) := by
  have h := cv1 W (letk k)
  rw [letk_toNat k hk] at h
  simpa using h
theorem lo_cons (k n u : Nat) (hu : u = n / 16 ^ k) : (⟨#[hexc (u % 16)]⟩ : ByteArray) ++ ⟨(lo k n).toArray⟩ = ⟨(lo (k + 1) n).toArray⟩ := by
  rw [lo, ← hu]
  apply ByteArray.ext
  simp [ByteArray.data_append]
theorem numT_of (n k : Nat) (h1 : k = 0 ∨ 16 ^ (k - 1) ≤ n) (h2 : n < 16 ^ k) : (⟨#[letk k]⟩ : ByteArray) ++ ⟨(lo k n).toArray⟩ = ⟨(numT n).toArray⟩ := by
  cases k with
  | zero =>
    have : n = 0 := by simpa using h2
    subst this
    rfl
  | succ k =>
    have hn : n ≠ 0 := by
      rcases h1 with h1 | h1
      · omega
      · have := Nat.pow_pos (n := k) (show 0 < 16 by omega)
        simp at h1
        omega
    have h3 : k = 0 ∨ 16 ^ k ≤ n := by
      rcases h1 with h1 | h1
      · omega
      · exact .inr (by simpa using h1)
    unfold numT
    rw [if_neg hn, log_of n k hn h3 h2]
    have e : letk (k + 1) = letr k := by unfold letk letr; rw [show 97 + (k + 1) = 98 + k by omega]
    rw [e]
    apply ByteArray.ext
    simp [ByteArray.data_append]
theorem next_pow (n k u : Nat) (hn : n ≤ 4611686018427387904) (hu : u = n / 16 ^ k) (h : 0 < u) : 16 ^ k ≤ n ∧ k + 1 ≤ 16 := by
  have h1 : 16 ^ k ≤ n := by
    rw [hu] at h
    have := (Nat.le_div_iff_mul_le (Nat.pow_pos (show 0 < 16 by omega))).1 h
    omega
  refine ⟨h1, ?_⟩
  have h2 : 16 ^ k < 16 ^ 16 := Nat.lt_of_le_of_lt (Nat.le_trans h1 hn) (by decide)
  have := (Nat.pow_lt_pow_iff_right (a := 16) (by omega)).1 h2
  omega
set_option maxHeartbeats 400000 in
theorem refNumber_any (n : Nat) (h : n ≤ 4611686018427387904) (w : World) :
    Calls Tryd.prog 75 #[.int .i64 n] w fun e w' => e = .returned (.tuple #[.string ⟨(numT n).toArray⟩, .int .i64 0]) ∧ Below w.heap.size w w' := by
  have d1 : decide ((n : Int) < 0) = false := by simp
  have d2 : decide (4611686018427387904 < (n : Int)) = false := by simp; omega
  go_enter Tryd.func75, Tryd.ntmps75
  go_wp2_with fail
  go_loopw [0, 4, 5] (fun m s c wr => ∃ k : Nat, k ≤ 16 ∧ (k = 0 ∨ 16 ^ (k - 1) ≤ n) ∧ m = .int .i64 ((n / 16 ^ k : Nat) : Int) ∧ s = .string ⟨(lo k n).toArray⟩ ∧ c = .int .i64 k ∧ Below w.heap.size w wr) (fun m _ _ _ => (intOf m).toNat)
  case atStart => exact ⟨0, by omega, .inl rfl, by simp, rfl, rfl, Below.refl _ _⟩
  case round =>
    obtain ⟨k, hk, hkn, rfl, rfl, rfl, hbel⟩ := hrel
    obtain ⟨u, hu⟩ : ∃ u, u = n / 16 ^ k := ⟨_, rfl⟩
    rw [← hu]
    have Hu := hid hu
    have Hkn := hid hkn
    have hun : u ≤ 4611686018427387904 := by rw [hu]; exact Nat.le_trans (Nat.div_le_self _ _) h
    have hl := lo_length k n
    clear hu hkn
    by_cases hu0 : 0 < u
    · have hnp := hid (next_pow n k u h Hu.out hu0)
      have hcv := cv1
      go_wp2_with (go_at_call 101; refine (digit_any (u % 16) (Nat.mod_lt _ (by omega)) _).mono ?_; rintro e w' ⟨rfl, rfl⟩)
      go_roundw
      case rel =>
        refine ⟨k + 1, hnp.out.2, .inr (by simpa using hnp.out.1), ?_, congrArg Value.string (lo_cons k n u Hu.out), by go_num, hbel.alloc hbel.size _⟩
        rw [Nat.pow_succ, ← Nat.div_div_eq_div_mul, ← Hu.out]; go_num
      case measure => simp [intOf]; omega
    · have hcv := fun W => cvk W k hk
      go_wp2
      go_ret2
      refine ⟨ret_two (congrArg Value.string (numT_of n k Hkn.out ?_)) rfl, hbel.alloc hbel.size _⟩
      have h0 : n / 16 ^ k = 0 := by rw [← Hu.out]; omega
      exact (Nat.div_eq_zero_iff.1 h0).resolve_left (by have := Nat.pow_pos (n := k) (show 0 < 16 by omega); omega)
theorem refNum_any (n : Nat) (h : n ≤ 4611686018427387904) (w : World) :
    Calls Tryd.prog 36 #[.int .i64 n] w fun e w' => e = .returned (.string ⟨(numT n).toArray⟩) ∧ Below w.heap.size w w' := by
  go_enter Tryd.func36, Tryd.ntmps36
  go_wp2_with (go_at_call 75; refine (refNumber_any n h _).mono ?_; rintro e w' ⟨rfl, hb⟩)
  go_ret
  exact ⟨rfl, hb⟩
end Go.Proofs.YthfmpebgmojcaaaDoor
