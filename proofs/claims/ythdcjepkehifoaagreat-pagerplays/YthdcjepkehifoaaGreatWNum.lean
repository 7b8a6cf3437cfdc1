/- Numbers in bytes, read and written: isZero, number, putNumber, slot of package wal, each by a contract. -/
import Derived.Test.YthdcjepkehifoaaGreatWMath2
import Derived.Laws.Bits64b
namespace Go.Proofs.YthdcjepkehifoaaGreat
open Go.RowKit
set_option linter.unusedVariables false
set_option maxRecDepth 20000

theorem or_byte (n : Nat) (c : UInt8) (hn : n < 72057594037927936) : bits .or .u64 (IntKind.u64.wrap ((n : Int) * 256)) (IntKind.u64.wrap (c.toNat : Int)) = ((n * 256 + c.toNat : Nat) : Int) := by
  have hc := c.toNat_lt
  rw [IntKind.wrap_u64, IntKind.wrap_u64, show ((n : Int) * 256 % 18446744073709551616) = ((n * 256 : Nat) : Int) by omega, show ((c.toNat : Int) % 18446744073709551616) = ((c.toNat : Nat) : Int) by omega, bits_or_u64_nat _ _ (by omega) (by omega)]
  have := Nat.two_pow_add_eq_or_of_lt (i := 8) (b := c.toNat) (by omega) n
  rw [Nat.mul_comm n 256]
  exact congrArg _ this.symm
theorem ret_bool' {a b : Bool} (h : a = b) : Ending.returned (.bool a) = .returned (.bool b) := by rw [h]

set_option maxHeartbeats 400000 in
theorem isZero_any (x : List UInt8) (b o cap : Nat) (w : World) (hx : Bytes w (some ⟨b, o, none⟩) x) (lx : x.length ≤ 140737488351232) :
    Calls Tryz.prog 164 #[.slice (some ⟨b, o, none⟩) x.length cap] w fun e w' => e = .returned (.bool (decide (x = List.replicate x.length 0))) ∧ w' = w := by
  have Hx := hid hx
  clear hx
  go_enter Tryz.func164, Tryz.ntmps164
  go_wp2
  go_loopw [7] (fun i wr => ∃ k : Nat, k ≤ x.length ∧ i = .int .i64 k ∧ x.take k = List.replicate k 0 ∧ wr = w) (fun i _ => x.length - (intOf i).toNat)
  case atStart => exact ⟨0, Nat.zero_le _, rfl, rfl, rfl⟩
  case round =>
    obtain ⟨k, hk, rfl, hpre, rfl⟩ := hrel
    have Hpre := hid hpre
    clear hpre
    by_cases hlt : k < x.length
    · obtain ⟨b1, o1, ha, hc1⟩ := Hx.out k hlt
      cases ha
      have HX : Hid (x.take (k + 1) = x.take k ++ [x[k]]) := List.take_succ_eq_append_getElem hlt
      have HN : Hid (x[k] ≠ 0 → x ≠ List.replicate x.length 0) := fun h e => h (by rw [List.eq_replicate_iff] at e; exact e.2 _ (List.getElem_mem _))
      generalize x[k] = c1 at *
      by_cases hc : c1 = 0
      · have e1 : ((c1.toNat : Int) != 0) = false := by rw [hc]; rfl
        have H12 := hid hc
        clear hc
        go_wp2
        go_roundw
        case rel => exact ⟨k + 1, by omega, by go_num, by rw [HX.out, Hpre.out, H12.out, ← List.replicate_succ'], trivial⟩
        case measure => simp [intOf]; omega
      · have e1 : ((c1.toNat : Int) != 0) = true := by
          rw [bne_iff_ne]
          intro e
          exact hc (UInt8.toNat_inj.1 (by simpa using e))
        have Hne := hid (HN.out hc)
        clear hc
        go_wp2
        go_ret
        exact ⟨ret_bool' (by simp [Hne.out]), rfl⟩
    · go_wp2
      go_ret
      refine ⟨ret_bool' ?_, rfl⟩
      have h := Hpre.out
      have e : k = x.length := by omega
      rw [List.take_of_length_le (by omega), e] at h
      simp [← h]

set_option maxHeartbeats 400000 in
theorem number_any (x : List UInt8) (b o cap : Nat) (w : World) (hx : Bytes w (some ⟨b, o, none⟩) x) (lx : x.length ≤ 8) :
    Calls Tryz.prog 165 #[.slice (some ⟨b, o, none⟩) x.length cap] w fun e w' => e = .returned (.int .u64 (num x : Int)) ∧ w' = w := by
  have Hx := hid hx
  clear hx
  go_enter Tryz.func165, Tryz.ntmps165
  go_wp2
  go_loopw [3, 8] (fun m i wr => ∃ k : Nat, k ≤ x.length ∧ i = .int .i64 k ∧ m = .int .u64 (num (x.take k) : Int) ∧ wr = w) (fun _ i _ => x.length - (intOf i).toNat)
  case atStart => exact ⟨0, Nat.zero_le _, rfl, rfl, rfl⟩
  case round =>
    obtain ⟨k, hk, rfl, rfl, rfl⟩ := hrel
    by_cases hlt : k < x.length
    · obtain ⟨b1, o1, ha, hc1⟩ := Hx.out k hlt
      cases ha
      have HX : Hid (x.take (k + 1) = x.take k ++ [x[k]]) := List.take_succ_eq_append_getElem hlt
      have hn := num_lt (x.take k)
      generalize hnn : num (x.take k) = n at *
      have Hn := hid hnn
      clear hnn
      generalize x[k] = c1 at *
      have hn' : n < 72057594037927936 := by
        rw [List.length_take] at hn
        exact Nat.lt_of_lt_of_le hn (Nat.le_trans (Nat.pow_le_pow_right (by omega) (show min k x.length ≤ 7 by omega)) (by decide))
      have Ho := hid (or_byte n c1 hn')
      clear hn hn'
      go_wp2
      go_roundw
      case rel => exact ⟨k + 1, by omega, by go_num, by rw [HX.out, num_snoc, Hn.out, Ho.out], trivial⟩
      case measure => simp [intOf]; omega
    · go_wp2
      go_ret
      have e : k = x.length := by omega
      rw [List.take_of_length_le (by omega)]
      exact ⟨rfl, rfl⟩

/-- a byte of the row that bytes lie in -/
theorem put_step (l t : List UInt8) (o k : Nat) (c : UInt8) (r : List UInt8) (h : o + k + 1 ≤ l.length) : (l.take (o + (k + 1)) ++ (t ++ r)).set (o + k) c = l.take (o + k) ++ ((c :: t) ++ r) := by
  rw [List.set_append_left _ _ (by rw [List.length_take]; omega), show o + (k + 1) = o + k + 1 by omega, List.take_succ_eq_append_getElem (by omega), List.set_append_right _ _ (by rw [List.length_take]; omega)]
  simp only [List.length_take]
  rw [show o + k - min (o + k) l.length = 0 by omega]
  simp
theorem cellsOf_put (l : List UInt8) (k : Nat) (c : UInt8) : (cellsOf l).set k (.int .u8 (c.toNat : Int)) = cellsOf (l.set k c) := by
  unfold cellsOf
  rw [List.map_set]
theorem byte_wrap (n : Nat) : ((n : Int) % 256) = ((UInt8.ofNat n).toNat : Int) := by
  rw [UInt8.toNat_ofNat']
  omega
theorem grown_trans {a b c : World} {row : Option Nat} (h : a.grownBy b row) (k : b.grownBy c row) : a.grownBy c row :=
  ⟨k.os.trans h.os, k.tape.trans h.tape, k.output.trans h.output, Nat.le_trans h.size k.size, fun i hi hr => (k.block i (Nat.lt_of_lt_of_le hi h.size) hr).trans (h.block i hi hr)⟩

set_option maxHeartbeats 800000 in
theorem putNumber_any (l : List UInt8) (B g cap o m c x : Nat) (w : World) (hown : w.ownsRow B 5 1 (.slice (some ⟨g, 0, none⟩) l.length cap) l.length (cellsOf l)) (ho : o + m ≤ l.length) (hx : x < 18446744073709551616) :
    Calls Tryz.prog 178 #[.slice (some ⟨g, o, none⟩) m c, .int .u64 (x : Int)] w fun e w' => e = .returned (.tuple #[]) ∧ w'.ownsRow B 5 1 (.slice (some ⟨g, 0, none⟩) l.length cap) l.length (cellsOf (splice l o (be m x))) ∧ w.grownBy w' (some g) := by
  have Hown := hid hown
  have hml : l.length ≤ maxLen := by
    rcases hown.2 with ⟨h, _⟩ | ⟨_, _, _, hv, _, _, h1, h2, _⟩
    · cases h
    · cases hv; omega
  unfold maxLen at hml
  clear hown
  have Hfin : Hid (∀ (t : List UInt8) (n : Nat), be m x = be 0 n ++ t → splice l o (be m x) = l.take (o + 0) ++ (t ++ l.drop (o + m))) := fun t n e => by
    unfold splice
    rw [be_length, e]
    rfl
  go_enter Tryz.func178, Tryz.ntmps178
  go_wp2
  go_loopw [1, 4] (fun nv i wr => ∃ (k n : Nat) (t : List UInt8), k ≤ m ∧ t.length = m - k ∧ n < 18446744073709551616 ∧ nv = .int .u64 (n : Int) ∧ i = .int .i64 ((k : Int) - 1) ∧ be m x = be k n ++ t ∧ wr.ownsRow B 5 1 (.slice (some ⟨g, 0, none⟩) l.length cap) l.length (cellsOf (l.take (o + k) ++ (t ++ l.drop (o + m)))) ∧ w.grownBy wr (some g)) (fun _ i _ => (intOf i + 1).toNat)
  case atStart =>
    refine ⟨m, x, [], Nat.le_refl _, by simp, hx, rfl, rfl, by simp, ?_, World.grownBy.refl _ _⟩
    rw [List.nil_append, List.take_append_drop]
    exact Hown.out
  case round =>
    obtain ⟨k, n, t, hk, ht, hn, rfl, rfl, hbe, hown, hgr⟩ := hrel
    have Hbe := hid hbe
    have Hgr := hid hgr
    have Ht := hid ht
    clear hbe hgr ht
    by_cases hlt : 0 < k
    · obtain ⟨j, rfl⟩ : ∃ j, k = j + 1 := ⟨k - 1, by omega⟩
      have ej : ((j + 1 : Nat) : Int) - 1 = (j : Int) := by omega
      rw [ej]
      have hL : (l.take (o + (j + 1)) ++ (t ++ l.drop (o + m))).length = l.length := by
        rw [List.length_append, List.length_append, List.length_take, List.length_drop, Ht.out]; omega
      have c2 := (hown.cellAt (o + j) (by omega)).trans (cellsOf_get _ (o + j) (by rw [hL]; omega))
      have c3 := hown.frozenAt (o + j)
      have Hs := hid (hown.stored (o + j) (.int .u8 ((UInt8.ofNat n).toNat : Int)))
      rw [cellsOf_put, put_step l t o j _ _ (by omega)] at Hs
      have Hw := hid (byte_wrap n)
      clear hown
      generalize ((l.take (o + (j + 1)) ++ (t ++ l.drop (o + m)))[o + j]'(by rw [hL]; omega)).toNat = c0 at c2
      clear hL
      go_wp2
      go_roundw
      case rel =>
        refine ⟨j, n / 256, UInt8.ofNat n :: t, by omega, by rw [List.length_cons, Ht.out]; omega, by omega, ?_, by go_num, ?_, ?_, ?_⟩
        · first | rfl | (congr 1) | go_num
        · rw [Hbe.out, be, List.append_assoc]; rfl
        · rw [Hw.out]; exact Hs.out.1
        · exact grown_trans Hgr.out (by rw [Hw.out]; exact Hs.out.2)
      case measure => simp [intOf] <;> omega
    · have hk0 : k = 0 := by omega
      subst hk0
      have Hown2 := hid hown
      clear hown
      go_wp2
      go_end0
      refine ⟨rfl, ?_, Hgr.out⟩
      rw [Hfin.out t n Hbe.out]
      exact Hown2.out
end Go.Proofs.YthdcjepkehifoaaGreat
