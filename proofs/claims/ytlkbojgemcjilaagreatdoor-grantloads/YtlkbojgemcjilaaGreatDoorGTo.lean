/- Numbers read back: codec.ToNumber, state.Number of any text (AToNum over the keys' texts). -/
import Derived.Test.YtlkbojgemcjilaaGreatDoorGText
import Derived.WalkKit
import Derived.WalkSpells
import Derived.WalkLawsBesides
namespace Go.Proofs.YtlkbojgemcjilaaGreatDoor
open Go.RowKit
set_option linter.unusedVariables false
set_option maxRecDepth 20000
def dv (c : Nat) : Option Nat := if 48 ≤ c ∧ c ≤ 57 then some (c - 48) else if 97 ≤ c ∧ c ≤ 102 then some (c - 87) else none


set_option maxHeartbeats 400000 in
theorem digitValue_any (c : Nat) (hc : c ≤ 255) (w : World) :
    Calls Tryz.prog 128 #[.int .u8 (c : Int)] w fun e w' => e = .returned (.tuple #[.int .u64 (((dv c).getD 0 : Nat) : Int), .bool (dv c).isSome]) ∧ w' = w := by
  go_enter Tryz.func128, Tryz.ntmps128
  go_wp2
  all_goals go_ret2
  all_goals refine ⟨ret_two (congrArg (Value.int .u64) ?_) (congrArg Value.bool ?_), rfl⟩
  all_goals
    unfold dv
    repeat' split
    all_goals first | rfl | (simp; done) | (simp; omega) | omega

set_option maxHeartbeats 400000 in
theorem hasPrefix_any (s : ByteArray) (w : World) (hs : s.size ≤ maxLen) :
    Calls Tryz.prog 127 #[.string s, .string ⟨#[48]⟩] w fun e w' => e = .returned (.bool (s.data.toList.head? == some 48)) ∧ w' = w := by
  unfold maxLen at hs
  go_enter Tryz.func127, Tryz.ntmps127
  go_wp2
  all_goals go_ret
  all_goals refine ⟨ret_bool ?_, rfl⟩
  · rw [List.head?_eq_getElem?]
    have h1 : 1 ≤ s.size := by omega
    have e : (s.extract 0 1).toList = s.data.toList.take 1 := by
      rw [ByteArray.toList_eq]; simp
    rw [e]
    cases hl : s.data.toList with
    | nil => have h2 := Lib.size_eq s; rw [hl] at h2; simp only [List.length_nil] at h2; omega
    | cons c r => simp
  · have h1 : s.data.toList = [] := List.length_eq_zero_iff.1 (by have h2 := Lib.size_eq s; omega)
    rw [h1]; rfl
open Go.RowKit

def hexB (c : UInt8) : Bool := (dv c.toNat).isSome
/-- the value of digits, behind those that have the value n -/
def digV (n : Nat) (l : List UInt8) : Nat := l.foldl (fun n c => n * 16 + (dv c.toNat).getD 0) n
/-- what a text is as a number, and the error -/
def toNum (l : List UInt8) : Nat × Nat :=
  if l.length = 0 ∨ 17 < l.length then (0, 3)
  else if (l.headD 0).toNat ≠ 96 + l.length ∨ (l.drop 1).head? = some 48 then (0, 3)
  else if (l.drop 1).all hexB = false then (0, 3)
  else if 4611686018427387904 < digV 0 (l.drop 1) then (0, 2) else (digV 0 (l.drop 1), 0)

theorem dv_lt (c : Nat) : (dv c).getD 0 < 16 := by
  unfold dv
  repeat' split
  all_goals simp
  all_goals omega
theorem digV_lt (l : List UInt8) : digV 0 l < 16 ^ l.length := by
  suffices h : ∀ n k, n < 16 ^ k → digV n l < 16 ^ (k + l.length) by simpa using h 0 0 (by simp)
  induction l with
  | nil => intro n k h; simpa [digV] using h
  | cons c l ih =>
    intro n k h
    have := ih (n * 16 + (dv c.toNat).getD 0) (k + 1) (by have := dv_lt c.toNat; rw [Nat.pow_succ]; omega)
    simpa [digV, Nat.add_assoc, Nat.add_comm 1] using this
theorem digV_snoc (l : List UInt8) (c : UInt8) : digV 0 (l ++ [c]) = digV 0 l * 16 + (dv c.toNat).getD 0 := by simp [digV]

theorem or_nat (n v : Nat) (hv : v < 16) : n * 16 ||| v = n * 16 + v := by
  have := Nat.shiftLeft_add_eq_or_of_lt (i := 4) (b := v) (by simpa using hv) n
  rw [Nat.shiftLeft_eq] at this
  simpa using this.symm

theorem or_u64 (n v : Nat) (hn : n < 1152921504606846976) (hv : v < 16) : bits BinOp.or IntKind.u64 ((n : Int) * 16) (v : Int) = ((n * 16 + v : Nat) : Int) := by
  have h := bits_or_u64_nat (n * 16) v (by omega) (by omega)
  rw [or_nat n v hv] at h
  simpa using h

set_option maxHeartbeats 1000000 in
theorem toNumber_any (s : ByteArray) (w : World) (hs : s.size ≤ maxLen) :
    Calls Tryz.prog 111 #[.string s] w fun e w' => e = .returned (.tuple #[.int .i64 ((toNum s.data.toList).1 : Int), .int .i64 ((toNum s.data.toList).2 : Int)]) ∧ w' = w := by
  unfold maxLen at hs
  have hlen : s.data.toList.length = s.size := (Lib.size_eq s).symm
  by_cases h0 : s.size = 0
  · have e : toNum s.data.toList = (0, 3) := by unfold toNum; rw [hlen, if_pos (.inl h0)]
    rw [e]
    have d1 : (((s.size : Nat) : Int) == 0) = true := by rw [beq_iff_eq]; omega
    clear e hlen h0
    go_enter Tryz.func111, Tryz.ntmps111
    go_wp2
    go_ret2
    exact ⟨rfl, rfl⟩
  have d1 : (((s.size : Nat) : Int) == 0) = false := by rw [beq_eq_false_iff_ne]; omega
  by_cases h17 : 17 < s.size
  · have e : toNum s.data.toList = (0, 3) := by unfold toNum; rw [hlen, if_pos (.inr h17)]
    rw [e]
    have d2 : decide (17 < ((s.size : Nat) : Int)) = true := by simp; omega
    clear e hlen
    go_enter Tryz.func111, Tryz.ntmps111
    go_wp2
    go_ret2
    exact ⟨rfl, rfl⟩
  have d2 : decide (17 < ((s.size : Nat) : Int)) = false := by simp; omega
  have hpos : 0 < s.size := Nat.pos_of_ne_zero h0
  obtain ⟨d, hd⟩ : ∃ d, d = s.extract 1 s.size := ⟨_, rfl⟩
  have hdl : d.data.toList = s.data.toList.drop 1 := by rw [hd, Lib.extract_data, List.take_of_length_le (by simp)]
  have hdsz : d.size = s.size - 1 := by rw [Lib.size_eq, hdl, List.length_drop, hlen]
  have hs0 : s.data.toList.headD 0 = s[0]'hpos := by
    cases hh : s.data.toList with
    | nil => rw [hh] at hlen; simp at hlen; omega
    | cons c r =>
      have : s[0]'hpos = s.data.toList[0]'(by omega) := rfl
      rw [this]
      simp [hh]
  obtain ⟨c0, hc0⟩ : ∃ c0, c0 = s[0]'hpos := ⟨_, rfl⟩
  have E : Hid (toNum s.data.toList = if c0.toNat ≠ 96 + s.size ∨ d.data.toList.head? = some 48 then (0, 3) else if d.data.toList.all hexB = false then (0, 3) else if 4611686018427387904 < digV 0 d.data.toList then (0, 2) else (digV 0 d.data.toList, 0)) := by
    unfold toNum Hid
    rw [hlen, if_neg (by omega), hs0, ← hdl, hc0]
  generalize toNum s.data.toList = p at E ⊢
  have hd' : s.extract 1 s.size = d := hd.symm
  have hc0' : s[0]'hpos = c0 := hc0.symm
  have Hdsz := hid hdsz
  have hd16 : d.size ≤ 16 := by omega
  clear hdl hs0 hd hlen hc0 hdsz
  have hc255 : c0.toNat < 256 := c0.toNat_lt
  by_cases hA : c0.toNat ≠ 96 + s.size
  · have e : Hid (p = (0, 3)) := by rw [Hid, E.out, if_pos (.inl hA)]
    have dA : ((c0.toNat : Int) != 97 + (d.size : Int)) = true := by rw [bne_iff_ne]; have := Hdsz.out; omega
    clear hA E
    go_enter Tryz.func111, Tryz.ntmps111
    go_wp2_with (go_at_call 127; refine (hasPrefix_any _ _ (by unfold maxLen; omega)).mono ?_; rintro e w' ⟨rfl, rfl⟩)
    all_goals go_ret2
    exact ⟨by rw [e.out]; rfl, rfl⟩
  have dA : ((c0.toNat : Int) != 97 + (d.size : Int)) = false := by rw [bne_eq_false_iff_eq]; have := Hdsz.out; omega
  by_cases hB : d.data.toList.head? = some 48
  · have e : Hid (p = (0, 3)) := by rw [Hid, E.out, if_pos (.inr hB)]
    have dB : (d.data.toList.head? == some 48) = true := by rw [hB]; rfl
    clear hB E
    go_enter Tryz.func111, Tryz.ntmps111
    go_wp2_with (go_at_call 127; refine (hasPrefix_any _ _ (by unfold maxLen; omega)).mono ?_; rintro e w' ⟨rfl, rfl⟩)
    all_goals go_ret2
    exact ⟨by rw [e.out]; rfl, rfl⟩
  have dB : (d.data.toList.head? == some 48) = false := by simpa using hB
  have e : Hid (p = if d.data.toList.all hexB = false then (0, 3) else if 4611686018427387904 < digV 0 d.data.toList then (0, 2) else (digV 0 d.data.toList, 0)) := by rw [Hid, E.out, if_neg (fun h => h.elim hA hB)]
  clear hA hB E
  go_enter Tryz.func111, Tryz.ntmps111
  go_wp2_with (go_at_call 127; refine (hasPrefix_any _ _ (by unfold maxLen; omega)).mono ?_; rintro e w' ⟨rfl, rfl⟩)
  go_loop [5, 32] (fun n i => ∃ k : Nat, k ≤ d.size ∧ i = .int .i64 k ∧ n = .int .u64 (digV 0 (d.data.toList.take k) : Int) ∧ (d.data.toList.take k).all hexB = true) (fun _ i => d.size - (intOf i).toNat)
  case atStart => exact ⟨0, Nat.zero_le _, rfl, rfl, rfl⟩
  case round =>
    obtain ⟨k, hk, rfl, rfl, hall⟩ := hrel
    have Hall := hid hall
    clear hall
    obtain ⟨n, hn⟩ : ∃ n, n = digV 0 (d.data.toList.take k) := ⟨_, rfl⟩
    rw [← hn]
    have Hn := hid hn
    clear hn
    by_cases hlt : k < d.size
    · have hn60 : n < 1152921504606846976 := by
        have h1 := digV_lt (d.data.toList.take k)
        rw [← Hn.out] at h1
        have h2 : 16 ^ (d.data.toList.take k).length ≤ 16 ^ 15 := Nat.pow_le_pow_right (by omega) (by simp; omega)
        exact Nat.lt_of_lt_of_le h1 h2
      cases hdv : dv (d[k]'hlt).toNat with
      | none =>
        have Hdv := hid hdv
        have h1 : ((dv (d[k]'hlt).toNat).getD 0) = 0 := by rw [hdv]; rfl
        have h2 : (dv (d[k]'hlt).toNat).isSome = false := by rw [hdv]; rfl
        clear hdv
        go_wp2_with (go_at_call 128; refine (digitValue_any _ (by have := (d[k]'hlt).toNat_lt; omega) _).mono ?_; rintro e w' ⟨rfl, rfl⟩)
        go_ret2
        refine ⟨?_, rfl⟩
        rw [e.out, if_pos (all_of_prefix d hexB k hlt (by unfold hexB; rw [Hdv.out]; rfl))]
        rfl
      | some v =>
        have Hdv := hid hdv
        have h1 : ((dv (d[k]'hlt).toNat).getD 0) = v := by rw [hdv]; rfl
        have h2 : (dv (d[k]'hlt).toNat).isSome = true := by rw [hdv]; rfl
        clear hdv
        have hv := dv_lt (d[k]'hlt).toNat
        rw [h1] at hv
        go_wp2_with (go_at_call 128; refine (digitValue_any _ (by have := (d[k]'hlt).toNat_lt; omega) _).mono ?_; rintro e w' ⟨rfl, rfl⟩)
        go_round
        case rel =>
          refine ⟨k + 1, by omega, by go_num, ?_, ?_⟩
          · rw [take_snoc d k hlt, digV_snoc, ← Hn.out, h1]
            exact congrArg (Value.int .u64) (or_u64 n v hn60 hv)
          · rw [take_snoc d k hlt, List.all_append, Hall.out]
            simp [hexB, h2]
        case measure => simp [intOf]; omega
    · have hk' : k = d.size := by omega
      have H1 : Hid (d.data.toList.all hexB = true) := by
        have h := Hall.out
        rw [hk', take_all] at h
        exact h
      have H2 : Hid (digV 0 d.data.toList = n) := by
        rw [Hid, Hn.out, hk', take_all]
      clear hk'
      go_wp2
      · have hgt : 4611686018427387904 < (n : Int) := by assumption
        go_ret2
        refine ⟨?_, rfl⟩
        rw [e.out, H1.out, H2.out, if_neg (by simp), if_pos (by omega)]
        rfl
      · have hgt : (n : Int) ≤ 4611686018427387904 := by assumption
        go_ret2
        refine ⟨?_, rfl⟩
        rw [e.out, H1.out, H2.out, if_neg (by simp), if_neg (by omega)]
        rfl
open Go.Op (bytesLess)

theorem log_bounds (n : Nat) (h : n ≠ 0) : 16 ^ (n.log2 / 4) ≤ n ∧ n < 16 ^ (n.log2 / 4 + 1) := by
  have e1 : ∀ k, (16 : Nat) ^ k = 2 ^ (4 * k) := fun k => by rw [Nat.pow_mul]
  rw [e1, e1]
  constructor
  · exact Nat.le_trans (Nat.pow_le_pow_right (by omega) (by omega)) ((Nat.le_log2 h).1 (Nat.le_refl _))
  · exact Nat.lt_of_lt_of_le ((Nat.log2_lt h).1 (Nat.lt_succ_self _)) (Nat.pow_le_pow_right (by omega) (by omega))

theorem log_le (n : Nat) (h : n ≠ 0) (hn : n ≤ 4611686018427387904) : n.log2 / 4 ≤ 15 := by
  have h1 := (log_bounds n h).1
  have h2 : 16 ^ (n.log2 / 4) < 16 ^ 16 := Nat.lt_of_le_of_lt (Nat.le_trans h1 hn) (by decide)
  have := (Nat.pow_lt_pow_iff_right (a := 16) (by omega)).1 h2
  omega

theorem letr_toNat (k : Nat) (hk : k ≤ 15) : (letr k).toNat = 98 + k := by
  unfold letr
  rw [UInt8.toNat_ofNat']
  omega

theorem numT_less (a b : Nat) (ha : a ≤ 4611686018427387904) (hb : b ≤ 4611686018427387904) : bytesLess (numT a) (numT b) = decide (a < b) := by
  unfold numT
  by_cases a0 : a = 0
  · subst a0
    by_cases b0 : b = 0
    · subst b0; rfl
    · rw [if_pos rfl, if_neg b0]
      have hl := log_le b b0 hb
      have h1 : (97 : UInt8) < letr (b.log2 / 4) := by
        rw [UInt8.lt_iff_toNat_lt, letr_toNat _ hl]
        show 97 < _
        omega
      have h2 : 0 < b := by omega
      simp [bytesLess, h1, h2]
  · rw [if_neg a0]
    have hla := log_le a a0 ha
    by_cases b0 : b = 0
    · subst b0
      rw [if_pos rfl]
      have h1 : ¬ letr (a.log2 / 4) < 97 := by
        rw [UInt8.lt_iff_toNat_lt, letr_toNat _ hla]
        show ¬ _ < 97
        omega
      have h2 : (letr (a.log2 / 4) == 97) = false := by
        rw [beq_eq_false_iff_ne]
        intro e
        have := congrArg UInt8.toNat e
        rw [letr_toNat _ hla] at this
        have h3 : (97 : UInt8).toNat = 97 := rfl
        omega
      simp [bytesLess, h1, h2]
    · rw [if_neg b0]
      have hlb := log_le b b0 hb
      have ba := log_bounds a a0
      have bb := log_bounds b b0
      generalize a.log2 / 4 = ka at *
      generalize b.log2 / 4 = kb at *
      rw [bytesLess]
      rcases Nat.lt_trichotomy ka kb with h | h | h
      · have h1 : letr ka < letr kb := by rw [UInt8.lt_iff_toNat_lt, letr_toNat _ hla, letr_toNat _ hlb]; omega
        have h2 : 16 ^ (ka + 1) ≤ 16 ^ kb := Nat.pow_le_pow_right (by omega) h
        have h3 : a < b := by omega
        simp [h1, h3]
      · subst h
        have h1 : ¬ letr ka < letr ka := by rw [UInt8.lt_iff_toNat_lt]; omega
        rw [lo_less, Nat.mod_eq_of_lt ba.2, Nat.mod_eq_of_lt bb.2]
        simp [h1]
      · have h1 : ¬ letr ka < letr kb := by rw [UInt8.lt_iff_toNat_lt, letr_toNat _ hla, letr_toNat _ hlb]; omega
        have h2 : (letr ka == letr kb) = false := by
          rw [beq_eq_false_iff_ne]
          intro e
          have := congrArg UInt8.toNat e
          rw [letr_toNat _ hla, letr_toNat _ hlb] at this
          omega
        have h4 : 16 ^ (kb + 1) ≤ 16 ^ ka := Nat.pow_le_pow_right (by omega) h
        have h3 : ¬ a < b := by omega
        simp [h1, h2, h3]

theorem dv_hexc : ∀ d : Fin 16, dv (hexc d.val).toNat = some d.val := by decide +kernel
theorem hexc_ne : ∀ d : Fin 16, d.val ≠ 0 → hexc d.val ≠ 48 := by decide +kernel

theorem lo_hex (k n : Nat) : (lo k n).all hexB = true := by
  induction k with
  | zero => rfl
  | succ k ih =>
    have := dv_hexc ⟨n / 16 ^ k % 16, Nat.mod_lt _ (by omega)⟩
    simp only at this
    simp [lo, ih, hexB, this]

theorem digV_lo (k n m : Nat) : digV m (lo k n) = m * 16 ^ k + n % 16 ^ k := by
  induction k generalizing m with
  | zero => simp [lo, digV, Nat.mod_one]
  | succ k ih =>
    have h := dv_hexc ⟨n / 16 ^ k % 16, Nat.mod_lt _ (by omega)⟩
    simp only at h
    have e : digV m (lo (k + 1) n) = digV (m * 16 + n / 16 ^ k % 16) (lo k n) := by
      simp [digV, lo, h]
    rw [e, ih, mod_succ, Nat.add_mul, Nat.pow_succ, Nat.mul_assoc, Nat.mul_comm 16]
    omega

theorem toNum_numT (n : Nat) (hn : n ≤ 4611686018427387904) : toNum (numT n) = (n, 0) := by
  by_cases n0 : n = 0
  · subst n0; decide
  · have hl := log_le n n0 hn
    have hb := log_bounds n n0
    have e : numT n = letr (n.log2 / 4) :: lo (n.log2 / 4 + 1) n := by unfold numT; rw [if_neg n0]
    rw [e]
    generalize n.log2 / 4 = k at *
    have hd : digV 0 (lo (k + 1) n) = n := by rw [digV_lo, Nat.mod_eq_of_lt hb.2]; omega
    have hh : (lo (k + 1) n).head? ≠ some 48 := by
      simp only [lo, List.head?_cons, ne_eq, Option.some.injEq]
      have h1 : n / 16 ^ k < 16 := by
        rw [Nat.div_lt_iff_lt_mul (Nat.pow_pos (by omega)), Nat.mul_comm, ← Nat.pow_succ]
        exact hb.2
      have h2 : 0 < n / 16 ^ k := Nat.div_pos hb.1 (Nat.pow_pos (by omega))
      rw [Nat.mod_eq_of_lt h1]
      exact hexc_ne ⟨n / 16 ^ k, h1⟩ (by simp only; omega)
    unfold toNum
    simp only [List.length_cons, lo_length, List.headD_cons, letr_toNat k hl, List.drop_succ_cons, List.drop_zero, hd, lo_hex]
    rw [if_neg (by omega), if_neg (by rintro (h | h); omega; exact hh h), if_neg (by simp), if_neg (by omega)]

theorem txtJ_len (n : Nat) (h : n ≤ 4611686018427387904) : (txtJ n).size ≤ maxLen := by
  show (numT n).toArray.size ≤ maxLen
  have : maxLen = 9223372036854775807 := by decide
  unfold numT
  split
  · rw [this]; decide
  · rw [List.size_toArray, List.length_cons, lo_length]
    have := (Nat.log2_lt (by omega)).2 (show n < 2 ^ 63 by omega)
    omega
set_option maxHeartbeats 400000 in
/-- a number that was printed is read back -/
theorem number_back (n lo hi : Nat) (h1 : lo ≤ n) (h2 : n ≤ hi) (h3 : hi ≤ 4611686018427387904) (w : World) :
    Calls Tryz.prog 84 #[.string (txtJ n), .int .i64 (lo : Int), .int .i64 (hi : Int)] w fun e w' => e = .returned (.tuple #[.int .i64 (n : Int), .bool true]) ∧ w' = w := by
  have HC := hid (toNumber_any (txtJ n) w (txtJ_len n (by omega)))
  have e1 : (txtJ n).data.toList = numT n := rfl
  rw [e1, toNum_numT n (by omega)] at HC
  clear e1
  generalize txtJ n = t at *
  have d1 : decide ((n : Int) < (lo : Int)) = false := decide_eq_false (by omega)
  have d2 : decide ((hi : Int) < (n : Int)) = false := decide_eq_false (by omega)
  have d3 : ¬ (n : Int) < (lo : Int) := by omega
  have d4 : ¬ (hi : Int) < (n : Int) := by omega
  go_enter Tryz.func84, Tryz.ntmps84
  go_wp2_with (go_at_call 111; refine HC.out.mono ?_; rintro e w1 ⟨rfl, e9⟩; subst w1)
  go_ret2
  exact ⟨rfl, rfl⟩
/-- a text as a number from lo to hi -/
def numR (l : List UInt8) (lo hi : Nat) : Option Nat := if (toNum l).2 = 0 ∧ lo ≤ (toNum l).1 ∧ (toNum l).1 ≤ hi then some (toNum l).1 else none
set_option maxHeartbeats 400000 in
theorem numberJ_any (s : ByteArray) (hs : s.size ≤ maxLen) (lo hi : Nat) (w : World) :
    Calls Tryz.prog 84 #[.string s, .int .i64 (lo : Int), .int .i64 (hi : Int)] w fun e w' => e = .returned (.tuple #[.int .i64 (((numR s.data.toList lo hi).getD 0 : Nat) : Int), .bool (numR s.data.toList lo hi).isSome]) ∧ w' = w := by
  have HC := hid (toNumber_any s w hs)
  obtain ⟨n, c, hr⟩ : ∃ n c, toNum s.data.toList = (n, c) := ⟨_, _, rfl⟩
  unfold numR
  rw [hr] at HC ⊢
  simp only at HC ⊢
  clear hr hs
  by_cases h0 : c = 0
  · subst h0
    by_cases h1 : lo ≤ n
    · by_cases h2 : n ≤ hi
      · rw [if_pos ⟨rfl, h1, h2⟩]
        have d1 : decide ((n : Int) < (lo : Int)) = false := decide_eq_false (by omega)
        have d2 : decide ((hi : Int) < (n : Int)) = false := decide_eq_false (by omega)
        have d3 : ¬ (n : Int) < (lo : Int) := by omega
        have d4 : ¬ (hi : Int) < (n : Int) := by omega
        clear h1 h2
        go_enter Tryz.func84, Tryz.ntmps84
        go_wp2_with (go_at_call 111; refine HC.out.mono ?_; rintro e w1 ⟨rfl, e9⟩; subst w1)
        go_ret2
        exact ⟨rfl, rfl⟩
      · rw [if_neg (fun h => h2 h.2.2)]
        have d1 : decide ((n : Int) < (lo : Int)) = false := decide_eq_false (by omega)
        have d2 : decide ((hi : Int) < (n : Int)) = true := decide_eq_true (by omega)
        have d3 : ¬ (n : Int) < (lo : Int) := by omega
        have d4 : (hi : Int) < (n : Int) := by omega
        clear h1 h2
        go_enter Tryz.func84, Tryz.ntmps84
        go_wp2_with (go_at_call 111; refine HC.out.mono ?_; rintro e w1 ⟨rfl, e9⟩; subst w1)
        go_ret2
        exact ⟨rfl, rfl⟩
    · rw [if_neg (fun h => h1 h.2.1)]
      have d1 : decide ((n : Int) < (lo : Int)) = true := decide_eq_true (by omega)
      have d3 : (n : Int) < (lo : Int) := by omega
      clear h1
      go_enter Tryz.func84, Tryz.ntmps84
      go_wp2_with (go_at_call 111; refine HC.out.mono ?_; rintro e w1 ⟨rfl, e9⟩; subst w1)
      go_ret2
      exact ⟨rfl, rfl⟩
  · rw [if_neg (fun h => h0 h.1)]
    have d1 : ((c : Int) != 0) = true := by simp; omega
    clear h0
    go_enter Tryz.func84, Tryz.ntmps84
    go_wp2_with (go_at_call 111; refine HC.out.mono ?_; rintro e w1 ⟨rfl, e9⟩; subst w1)
    go_ret2
    exact ⟨rfl, rfl⟩
/-- digits are those of their number -/
theorem hexc_dv : ∀ c : Fin 256, hexB (UInt8.ofNat c.val) = true → hexc ((dv c.val).getD 0) = UInt8.ofNat c.val := by decide +kernel
theorem hexc_of {c : UInt8} (h : hexB c = true) : hexc ((dv c.toNat).getD 0) = c := by
  have h1 := hexc_dv ⟨c.toNat, c.toNat_lt⟩
  have h2 : UInt8.ofNat c.toNat = c := by simp
  simp only [h2] at h1
  exact h1 h
theorem digV_split (m : Nat) (r : List UInt8) : digV m r = m * 16 ^ r.length + digV 0 r := by
  induction r generalizing m with
  | nil => simp [digV]
  | cons c r ih =>
    have e1 : digV m (c :: r) = digV (m * 16 + (dv c.toNat).getD 0) r := rfl
    have e2 : digV 0 (c :: r) = digV ((dv c.toNat).getD 0) r := by simp [digV]
    rw [e1, e2, ih (m * 16 + _), ih ((dv c.toNat).getD 0), List.length_cons, Nat.pow_succ, Nat.add_mul, Nat.mul_assoc m 16, Nat.mul_comm 16]
    omega
theorem lo_digV (r : List UInt8) (h : r.all hexB = true) (m : Nat) : lo r.length (digV m r) = r := by
  induction r generalizing m with
  | nil => rfl
  | cons c r ih =>
    simp only [List.all_cons, Bool.and_eq_true] at h
    have e1 : digV m (c :: r) = digV (m * 16 + (dv c.toNat).getD 0) r := rfl
    rw [e1, List.length_cons, lo, ih h.2]
    have e2 := digV_split (m * 16 + (dv c.toNat).getD 0) r
    have e3 := digV_lt r
    have e4 : digV (m * 16 + (dv c.toNat).getD 0) r / 16 ^ r.length = m * 16 + (dv c.toNat).getD 0 := by
      rw [e2, Nat.mul_comm, Nat.mul_add_div (Nat.pow_pos (by omega)), Nat.div_eq_of_lt e3, Nat.add_zero]
    have e5 := dv_lt c.toNat
    rw [e4, Nat.mul_comm m 16, Nat.mul_add_mod, Nat.mod_eq_of_lt e5, hexc_of h.1]
theorem toNum_inv {l : List UInt8} {n : Nat} (h : toNum l = (n, 0)) : l = numT n ∧ n ≤ 4611686018427387904 := by
  unfold toNum at h
  split at h
  · cases h
  · rename_i h1
    split at h
    · cases h
    · rename_i h2
      split at h
      · cases h
      · rename_i h3
        split at h
        · cases h
        · rename_i h4
          obtain rfl : digV 0 (l.drop 1) = n := (Prod.mk.inj h).1
          refine ⟨?_, by omega⟩
          have h3' : (l.drop 1).all hexB = true := by simpa using h3
          cases l with
          | nil => simp at h1
          | cons c r =>
            simp only [List.drop_succ_cons, List.drop_zero, List.headD_cons, List.length_cons] at *
            obtain ⟨h5, h6⟩ : c.toNat = 96 + (r.length + 1) ∧ r.head? ≠ some 48 := ⟨Classical.byContradiction fun h => h2 (.inl h), fun h => h2 (.inr h)⟩
            have hlo := lo_digV r h3' 0
            have hlt := digV_lt r
            cases r with
            | nil =>
              have : c = 97 := by rw [← UInt8.toNat_inj]; simpa using h5
              subst this
              rfl
            | cons b r =>
              have hb : hexB b = true := by simp only [List.all_cons, Bool.and_eq_true] at h3'; exact h3'.1
              have hb0 : (dv b.toNat).getD 0 ≠ 0 := fun e => by
                have := hexc_of hb
                rw [e] at this
                exact h6 (by rw [← this]; rfl)
              have hge : 16 ^ r.length ≤ digV 0 (b :: r) := by
                have e1 : digV 0 (b :: r) = digV ((dv b.toNat).getD 0) r := by simp [digV]
                rw [e1, digV_split]
                have : 1 * 16 ^ r.length ≤ (dv b.toNat).getD 0 * 16 ^ r.length := Nat.mul_le_mul_right _ (by omega)
                omega
              have hp : 0 < 16 ^ r.length := Nat.pow_pos (by omega)
              generalize hn : digV 0 (b :: r) = n at *
              have hn0 : n ≠ 0 := by omega
              have hb2 := log_bounds n hn0
              have hk : n.log2 / 4 = r.length := by
                have q1 : 16 ^ (n.log2 / 4) < 16 ^ (r.length + 1) := Nat.lt_of_le_of_lt hb2.1 (by simpa using hlt)
                have q2 : 16 ^ r.length < 16 ^ (n.log2 / 4 + 1) := Nat.lt_of_le_of_lt hge hb2.2
                have := (Nat.pow_lt_pow_iff_right (a := 16) (by omega)).1 q1
                have := (Nat.pow_lt_pow_iff_right (a := 16) (by omega)).1 q2
                omega
              unfold numT
              rw [if_neg hn0, hk]
              have : c = letr r.length := by
                rw [← UInt8.toNat_inj, h5, letr_toNat _ (by simp at h1; omega)]
                simp
                omega
              rw [this]
              simpa using hlo.symm
end Go.Proofs.YtlkbojgemcjilaaGreatDoor
