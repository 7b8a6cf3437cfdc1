/- codec.ToNumber and its reference, each by a contract. -/
import Derived.Test.YtpdknoldcaaboaaDoorRefNum
namespace Go.Proofs.YtpdknoldcaaboaaDoor
open Go.RowKit

def hexB (c : UInt8) : Bool := (dv c.toNat).isSome
/-- the value of digits, behind those that have the value n -/
def digV (n : Nat) (l : List UInt8) : Nat := l.foldl (fun n c => n * 16 + (dv c.toNat).getD 0) n
/-- what a text is as a number, and the error -/
def toNum (l : List UInt8) : Nat × Nat :=
  if l.length = 0 ∨ 17 < l.length then (0, 3)
  else if (l.headD 0).toNat ≠ 96 + l.length ∨ (l.drop 1).head? = some 48 then (0, 3)
  else if (l.drop 1).all hexB = false then (0, 3)
  else if 4611686018427387904 < digV 0 (l.drop 1) then (0, 2) else (digV 0 (l.drop 1), 0)

theorem dv_lt (c : Nat) : (dv c).getD 0 < 16 := by
  unfold dv
  repeat' split
  all_goals simp
  all_goals omega
theorem digV_lt (l : List UInt8) : digV 0 l < 16 ^ l.length := by
  suffices h : ∀ n k, n < 16 ^ k → digV n l < 16 ^ (k + l.length) by simpa using h 0 0 (by simp)
  induction l with
  | nil => intro n k h; simpa [digV] using h
  | cons c l ih =>
    intro n k h
    have := ih (n * 16 + (dv c.toNat).getD 0) (k + 1) (by have := dv_lt c.toNat; rw [Nat.pow_succ]; omega)
    simpa [digV, Nat.add_assoc, Nat.add_comm 1] using this
theorem digV_snoc (l : List UInt8) (c : UInt8) : digV 0 (l ++ [c]) = digV 0 l * 16 + (dv c.toNat).getD 0 := by simp [digV]

theorem or_nat (n v : Nat) (hv : v < 16) : n * 16 ||| v = n * 16 + v := by
  have := Nat.shiftLeft_add_eq_or_of_lt (i := 4) (b := v) (by simpa using hv) n
  rw [Nat.shiftLeft_eq] at this
  simpa using this.symm

theorem or_u64 (n v : Nat) (hn : n < 1152921504606846976) (hv : v < 16) : bits BinOp.or IntKind.u64 ((n : Int) * 16) (v : Int) = ((n * 16 + v : Nat) : Int) := by
  have h := bits_or_u64_nat (n * 16) v (by omega) (by omega)
  rw [or_nat n v hv] at h
  simpa using h

set_option maxHeartbeats 1000000 in
theorem toNumber_any (s : ByteArray) (w : World) (hs : s.size ≤ maxLen) :
    Calls Tryd.prog 25 #[.string s] w fun e w' => e = .returned (.tuple #[.int .i64 ((toNum s.data.toList).1 : Int), .int .i64 ((toNum s.data.toList).2 : Int)]) ∧ w' = w := by
  unfold maxLen at hs
  have hlen : s.data.toList.length = s.size := (Lib.size_eq s).symm
  by_cases h0 : s.size = 0
  · have e : toNum s.data.toList = (0, 3) := by unfold toNum; rw [hlen, if_pos (.inl h0)]
    rw [e]
    have d1 : (((s.size : Nat) : Int) == 0) = true := by rw [beq_iff_eq]; omega
    clear e hlen h0
    go_enter Tryd.func25, Tryd.ntmps25
    go_wp2
    go_ret2
    exact ⟨rfl, rfl⟩
  have d1 : (((s.size : Nat) : Int) == 0) = false := by rw [beq_eq_false_iff_ne]; omega
  by_cases h17 : 17 < s.size
  · have e : toNum s.data.toList = (0, 3) := by unfold toNum; rw [hlen, if_pos (.inr h17)]
    rw [e]
    have d2 : decide (17 < ((s.size : Nat) : Int)) = true := by simp; omega
    clear e hlen
    go_enter Tryd.func25, Tryd.ntmps25
    go_wp2
    go_ret2
    exact ⟨rfl, rfl⟩
  have d2 : decide (17 < ((s.size : Nat) : Int)) = false := by simp; omega
  have hpos : 0 < s.size := Nat.pos_of_ne_zero h0
  obtain ⟨d, hd⟩ : ∃ d, d = s.extract 1 s.size := ⟨_, rfl⟩
  have hdl : d.data.toList = s.data.toList.drop 1 := by rw [hd, Lib.extract_data, List.take_of_length_le (by simp)]
  have hdsz : d.size = s.size - 1 := by rw [Lib.size_eq, hdl, List.length_drop, hlen]
  have hs0 : s.data.toList.headD 0 = s[0]'hpos := by
    cases hh : s.data.toList with
    | nil => rw [hh] at hlen; simp at hlen; omega
    | cons c r =>
      have : s[0]'hpos = s.data.toList[0]'(by omega) := rfl
      rw [this]
      simp [hh]
  obtain ⟨c0, hc0⟩ : ∃ c0, c0 = s[0]'hpos := ⟨_, rfl⟩
  have E : Hid (toNum s.data.toList = if c0.toNat ≠ 96 + s.size ∨ d.data.toList.head? = some 48 then (0, 3) else if d.data.toList.all hexB = false then (0, 3) else if 4611686018427387904 < digV 0 d.data.toList then (0, 2) else (digV 0 d.data.toList, 0)) := by
    unfold toNum Hid
    rw [hlen, if_neg (by omega), hs0, ← hdl, hc0]
  generalize toNum s.data.toList = p at E ⊢
  have hd' : s.extract 1 s.size = d := hd.symm
  have hc0' : s[0]'hpos = c0 := hc0.symm
  have Hdsz := hid hdsz
  have hd16 : d.size ≤ 16 := by omega
  clear hdl hs0 hd hlen hc0 hdsz
  have hc255 : c0.toNat < 256 := c0.toNat_lt
  by_cases hA : c0.toNat ≠ 96 + s.size
  · have e : Hid (p = (0, 3)) := by rw [Hid, E.out, if_pos (.inl hA)]
    have dA : ((c0.toNat : Int) != 97 + (d.size : Int)) = true := by rw [bne_iff_ne]; have := Hdsz.out; omega
    clear hA E
    go_enter Tryd.func25, Tryd.ntmps25
    go_wp2_with (go_at_call 40; refine (hasPrefix_any _ _ (by unfold maxLen; omega)).mono ?_; rintro e w' ⟨rfl, rfl⟩)
    all_goals go_ret2
    exact ⟨by rw [e.out]; rfl, rfl⟩
  have dA : ((c0.toNat : Int) != 97 + (d.size : Int)) = false := by rw [bne_eq_false_iff_eq]; have := Hdsz.out; omega
  by_cases hB : d.data.toList.head? = some 48
  · have e : Hid (p = (0, 3)) := by rw [Hid, E.out, if_pos (.inr hB)]
    have dB : (d.data.toList.head? == some 48) = true := by rw [hB]; rfl
    clear hB E
    go_enter Tryd.func25, Tryd.ntmps25
    go_wp2_with (go_at_call 40; refine (hasPrefix_any _ _ (by unfold maxLen; omega)).mono ?_; rintro e w' ⟨rfl, rfl⟩)
    all_goals go_ret2
    exact ⟨by rw [e.out]; rfl, rfl⟩
  have dB : (d.data.toList.head? == some 48) = false := by simpa using hB
  have e : Hid (p = if d.data.toList.all hexB = false then (0, 3) else if 4611686018427387904 < digV 0 d.data.toList then (0, 2) else (digV 0 d.data.toList, 0)) := by rw [Hid, E.out, if_neg (fun h => h.elim hA hB)]
  clear hA hB E
  go_enter Tryd.func25, Tryd.ntmps25
  go_wp2_with (go_at_call 40; refine (hasPrefix_any _ _ (by unfold maxLen; omega)).mono ?_; rintro e w' ⟨rfl, rfl⟩)
  go_loop [5, 32] (fun n i => ∃ k : Nat, k ≤ d.size ∧ i = .int .i64 k ∧ n = .int .u64 (digV 0 (d.data.toList.take k) : Int) ∧ (d.data.toList.take k).all hexB = true) (fun _ i => d.size - (intOf i).toNat)
  case atStart => exact ⟨0, Nat.zero_le _, rfl, rfl, rfl⟩
  case round =>
    obtain ⟨k, hk, rfl, rfl, hall⟩ := hrel
    have Hall := hid hall
    clear hall
    obtain ⟨n, hn⟩ : ∃ n, n = digV 0 (d.data.toList.take k) := ⟨_, rfl⟩
    rw [← hn]
    have Hn := hid hn
    clear hn
    by_cases hlt : k < d.size
    · have hn60 : n < 1152921504606846976 := by
        have h1 := digV_lt (d.data.toList.take k)
        rw [← Hn.out] at h1
        have h2 : 16 ^ (d.data.toList.take k).length ≤ 16 ^ 15 := Nat.pow_le_pow_right (by omega) (by simp; omega)
        exact Nat.lt_of_lt_of_le h1 h2
      cases hdv : dv (d[k]'hlt).toNat with
      | none =>
        have Hdv := hid hdv
        have h1 : ((dv (d[k]'hlt).toNat).getD 0) = 0 := by rw [hdv]; rfl
        have h2 : (dv (d[k]'hlt).toNat).isSome = false := by rw [hdv]; rfl
        clear hdv
        go_wp2_with (go_at_call 41; refine (digitValue_any _ (by have := (d[k]'hlt).toNat_lt; omega) _).mono ?_; rintro e w' ⟨rfl, rfl⟩)
        go_ret2
        refine ⟨?_, rfl⟩
        rw [e.out, if_pos (all_of_prefix d hexB k hlt (by unfold hexB; rw [Hdv.out]; rfl))]
        rfl
      | some v =>
        have Hdv := hid hdv
        have h1 : ((dv (d[k]'hlt).toNat).getD 0) = v := by rw [hdv]; rfl
        have h2 : (dv (d[k]'hlt).toNat).isSome = true := by rw [hdv]; rfl
        clear hdv
        have hv := dv_lt (d[k]'hlt).toNat
        rw [h1] at hv
        go_wp2_with (go_at_call 41; refine (digitValue_any _ (by have := (d[k]'hlt).toNat_lt; omega) _).mono ?_; rintro e w' ⟨rfl, rfl⟩)
        go_round
        case rel =>
          refine ⟨k + 1, by omega, by go_num, ?_, ?_⟩
          · rw [take_snoc d k hlt, digV_snoc, ← Hn.out, h1]
            exact congrArg (Value.int .u64) (or_u64 n v hn60 hv)
          · rw [take_snoc d k hlt, List.all_append, Hall.out]
            simp [hexB, h2]
        case measure => simp [intOf]; omega
    · have hk' : k = d.size := by omega
      have H1 : Hid (d.data.toList.all hexB = true) := by
        have h := Hall.out
        rw [hk', take_all] at h
        exact h
      have H2 : Hid (digV 0 d.data.toList = n) := by
        rw [Hid, Hn.out, hk', take_all]
      clear hk'
      go_wp2
      · have hgt : 4611686018427387904 < (n : Int) := by assumption
        go_ret2
        refine ⟨?_, rfl⟩
        rw [e.out, H1.out, H2.out, if_neg (by simp), if_pos (by omega)]
        rfl
      · have hgt : (n : Int) ≤ 4611686018427387904 := by assumption
        go_ret2
        refine ⟨?_, rfl⟩
        rw [e.out, H1.out, H2.out, if_neg (by simp), if_neg (by omega)]
        rfl
end Go.Proofs.YtpdknoldcaaboaaDoor
