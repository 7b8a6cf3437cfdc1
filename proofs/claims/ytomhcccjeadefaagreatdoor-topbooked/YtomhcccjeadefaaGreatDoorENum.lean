/- Numbers in sealed texts: seal.appendNumber, seal.number; how long a sealed text is: seal.Size. -/
import Derived.Test.YtomhcccjeadefaaGreatDoorHEnd
import Derived.Test.YtomhcccjeadefaaGreatDoorEMath
namespace Go.Proofs.YtomhcccjeadefaaGreatDoor
open Go.RowKit
set_option linter.unusedVariables false
set_option maxRecDepth 20000
def numAt (xs : List UInt8) (n k : Nat) : List UInt8 := xs ++ (be8 n).take k
theorem numAt_zero (xs : List UInt8) (n : Nat) : numAt xs n 0 = xs := by simp [numAt]
theorem numAt_all (xs : List UInt8) (n : Nat) : numAt xs n 8 = xs ++ be8 n := by
  unfold numAt
  rw [List.take_of_length_le (by rw [be8_length]; omega)]
theorem numAt_step (xs : List UInt8) (n k : Nat) (h : k < 8) : numAt xs n k ++ [UInt8.ofNat (n / 2 ^ (56 - 8 * k))] = numAt xs n (k + 1) := by
  unfold numAt
  rw [List.take_succ_eq_append_getElem (by rw [be8_length]; exact h), be8_get _ _ h, List.append_assoc]
theorem numAt_length (xs : List UInt8) (n k : Nat) : (numAt xs n k).length ≤ xs.length + 8 := by
  unfold numAt
  rw [List.length_append, List.length_take, be8_length]
  omega
set_option maxHeartbeats 1000000 in
theorem appendNumber_any {w : World} (base : Nat) (v : Value) (xs : List UInt8) (n : Nat) (hown : w.ownsRow base 5 1 v xs.length (cellsOf xs)) (hbase : base ≤ w.heap.size) (hl : xs.length ≤ 1000000) :
    Calls Tryz.prog 49 #[v, .int .u64 (n : Int)] w fun e w' => ∃ v', e = .returned v' ∧ w'.ownsRow base 5 1 v' (xs ++ be8 n).length (cellsOf (xs ++ be8 n)) ∧ Below base w w' := by
  have Hown0 : Hid (w.ownsRow base 5 1 v (numAt xs n 0).length (cellsOf (numAt xs n 0))) := by
    show World.ownsRow _ _ _ _ _ _ _
    rw [numAt_zero]; exact hown
  clear hown
  go_enter Tryz.func49, Tryz.ntmps49
  go_wp2
  go_loopw [0, 5] (fun v0 v5 wr => ∃ k : Nat, k ≤ 8 ∧ v5 = .int .i64 (56 - 8 * (k : Int)) ∧ wr.ownsRow base 5 1 v0 (numAt xs n k).length (cellsOf (numAt xs n k)) ∧ Below base w wr ∧ base ≤ wr.heap.size) (fun _ v5 _ => (intOf v5 + 8).toNat)
  case atStart => exact ⟨0, by omega, rfl, Hown0.out, Below.refl _ _, hbase⟩
  case round =>
    obtain ⟨k, hk, rfl, hown, hbel, hle⟩ := hrel
    have Hown := hid hown
    have Hbel := hid hbel
    clear hown hbel Hown0
    by_cases hlt : k < 8
    · have q0 : (0 : Int) ≤ 56 - 8 * (k : Int) := by omega
      have q1 : (56 : Int) - 8 * (k : Int) ≤ 64 := by omega
      have q4 : IntKind.i64.wrap (56 - 8 * (k : Int) - 8) = 56 - 8 * ((k + 1 : Nat) : Int) := by rw [IntKind.wrap_i64]; omega
      have Hst := hid (numAt_step xs n k hlt)
      obtain ⟨b, hb8⟩ : ∃ b, b = UInt8.ofNat (n / 2 ^ (56 - 8 * k)) := ⟨_, rfl⟩
      have q5 : (n : Int) / 2 ^ (56 - 8 * k) % 256 = (b.toNat : Int) := by
        have h := byte_of (n / 2 ^ (56 - 8 * k))
        rw [← hb8, IntKind.wrap_u8] at h
        rw [← h]
        simp
      rw [← hb8] at Hst
      have Hlen := hid (numAt_length xs n k)
      clear hb8
      go_wp2_with (at_builtin; refine app_lits _ rfl (.tmp 10) (.tmp 15) rfl base _ (numAt xs n k) rfl Hown.out [b] 1 rfl rfl (by have := Hlen.out; omega) hle ?_; intro v' w' hown' hb' hv'; have Hown' := hid hown'; have Hb' := hid hb'; clear hown' hb' hv')
      go_roundw
      case rel =>
        refine ⟨k + 1, by omega, by go_num, ?_, Hbel.out.trans Hb'.out, Nat.le_trans hle Hb'.out.size⟩
        rw [← Hst.out]; exact Hown'.out
      case measure => simp [intOf]; omega
    · have hk8 : k = 8 := by omega
      have q0 : ¬ (0 : Int) ≤ 56 - 8 * (k : Int) := by omega
      have Hend : Hid (numAt xs n k = xs ++ be8 n) := by
        show _ = _
        rw [hk8, numAt_all]
      clear hk8
      go_wp2
      go_ret
      have h := Hown.out
      rw [Hend.out, List.length_append] at h
      exact ⟨_, rfl, h, Hbel.out⟩
theorem or_low (m : Nat) (c : UInt8) : bits .or .u64 ((m * 256 % 2 ^ 64 : Nat) : Int) (c.toNat : Int) = (((m * 256 + c.toNat) % 2 ^ 64 : Nat) : Int) := by
  have h : bits .or .u64 ((m * 256 % 2 ^ 64 : Nat) : Int) (c.toNat : Int) = IntKind.u64.wrap ((BitVec.ofInt 64 ((m * 256 % 2 ^ 64 : Nat) : Int) ||| BitVec.ofInt 64 (c.toNat : Int)).toNat : Int) := rfl
  have hc := c.toNat_lt
  rw [h, BitVec.ofInt_natCast, BitVec.ofInt_natCast, BitVec.toNat_or, BitVec.toNat_ofNat, BitVec.toNat_ofNat, Nat.mod_mod, Nat.mod_eq_of_lt (a := c.toNat) (by omega)]
  have e : m * 256 % 2 ^ 64 = (m % 2 ^ 56) <<< 8 := by rw [Nat.shiftLeft_eq]; omega
  rw [e, ← Nat.shiftLeft_add_eq_or_of_lt (by omega), Nat.shiftLeft_eq, IntKind.wrap_u64]
  omega
theorem numB_step (l : List UInt8) (k : Nat) (h : k < l.length) : numB (l.take (k + 1)) = (numB (l.take k) * 256 + l[k].toNat) % 2 ^ 64 := by
  unfold numB
  rw [List.take_succ_eq_append_getElem h, List.foldl_append]
  rfl
set_option maxHeartbeats 1000000 in
theorem number_any {w : World} (l : List UInt8) (a : Option Addr) (n cap : Nat) (hn : n = l.length) (hB : Bytes w a l) (hl : l.length ≤ 1000000) :
    Calls Tryz.prog 52 #[.slice a n cap] w fun e w' => e = .returned (.int .u64 (numB l : Int)) ∧ Below w.heap.size w w' := by
  have HB := hid hB
  subst hn
  clear hB
  go_enter Tryz.func52, Tryz.ntmps52
  go_wp2
  go_loopw [3, 5, 8] (fun v3 v5 v8 wr => ∃ k : Nat, k ≤ l.length ∧ v8 = .int .i64 (k : Int) ∧ v3 = .int .u64 (numB (l.take k) : Int) ∧ Below w.heap.size w wr) (fun _ _ v8 _ => l.length - (intOf v8).toNat)
  case atStart => exact ⟨0, by omega, rfl, rfl, Below.refl _ _⟩
  case round =>
    obtain ⟨k, hk, rfl, rfl, hbel⟩ := hrel
    have Hbel := hid hbel
    clear hbel
    by_cases hlt : k < l.length
    · obtain ⟨b, o, ha, hc⟩ := (HB.out.below Hbel.out) k hlt
      have Hst := hid (numB_step l k hlt)
      have Hor := hid (or_low (numB (l.take k)) l[k])
      generalize numB (l.take k) = m at *
      generalize l[k] = c at *
      have q1 : IntKind.u64.wrap ((m : Int) * 256) = ((m * 256 % 2 ^ 64 : Nat) : Int) := by rw [IntKind.wrap_u64]; omega
      have q2 : ((m : Int) * 256) % 18446744073709551616 = ((m * 256 % 2 ^ 64 : Nat) : Int) := by omega
      have q3 : IntKind.u64.wrap (c.toNat : Int) = (c.toNat : Int) := by have := c.toNat_lt; rw [IntKind.wrap_u64]; omega
      have q4 : (c.toNat : Int) % 18446744073709551616 = (c.toNat : Int) := by have := c.toNat_lt; omega
      generalize m * 256 % 2 ^ 64 = x at *
      have q5 := Hor.out
      generalize (m * 256 + c.toNat) % 2 ^ 64 = y at *
      clear Hor
      subst ha
      go_wp2
      go_roundw
      case rel => exact ⟨k + 1, by omega, by go_num, by rw [Hst.out], Hbel.out⟩
      case measure => simp [intOf]; omega
    · have Hend : Hid (l.take k = l) := by
        show _ = _
        rw [List.take_of_length_le (by omega)]
      go_wp2
      go_ret
      refine ⟨?_, Hbel.out⟩
      rw [Hend.out]
      rfl
set_option maxHeartbeats 400000 in
theorem size_any (w : World) (n : Nat) (h : n ≤ 1024) : Calls Tryz.prog 48 #[.int .i64 (n : Int)] w fun e w' => e = .returned (.int .i64 ((n : Int) + 24)) ∧ w' = w := by
  have q0 : ¬ (n : Int) < 0 := by omega
  have q1 : ¬ (1024 : Int) < (n : Int) := by omega
  have q2 : IntKind.i64.wrap (8 + (n : Int)) = 8 + (n : Int) := by rw [IntKind.wrap_i64]; omega
  have q3 : IntKind.i64.wrap (8 + (n : Int) + 16) = (n : Int) + 24 := by rw [IntKind.wrap_i64]; omega
  go_enter Tryz.func48, Tryz.ntmps48
  go_wp2
  go_ret
  exact ⟨ret_int (by omega), rfl⟩
end Go.Proofs.YtomhcccjeadefaaGreatDoor
