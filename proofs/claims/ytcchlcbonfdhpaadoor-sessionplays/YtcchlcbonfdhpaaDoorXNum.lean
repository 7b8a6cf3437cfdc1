/- Numbers as texts, on both sides, beside the texts on sessions. (Printed by gen/xnum.py.) -/
import Derived.Test.YtcchlcbonfdhpaaDoorSThings
import Derived.Test.YtcchlcbonfdhpaaDoorHex
import Derived.Deep.OwnRows
import Derived.Lib.Strings
import Derived.Maps.AppendAt
namespace Go.Proofs.YtcchlcbonfdhpaaDoor
open Go.RowKit
open Go.Op (bytesLess)
set_option linter.unusedVariables false
set_option maxRecDepth 20000

/-- what bits.TrailingZeros64 reads at 16 -/
def NTab (w : World) : Prop := w.cell? ⟨2, 15, none⟩ = some (.int .u8 4)

theorem tz_and : bits BinOp.and IntKind.u64 16 (IntKind.u64.wrap (-16)) = 16 := by kernel_rfl
theorem tz_mul : IntKind.u64.wrap (16 * 285870213051353865) / 288230376151711744 = 15 := by kernel_rfl

set_option maxHeartbeats 400000 in
theorem tz64 (w : World) (ht : NTab w) : Calls Tryd.prog 102 #[.int .u64 16] w fun e w' => e = .returned (.int .i64 4) ∧ w' = w := by
  unfold NTab at ht
  have h1 := tz_and
  have h2 := tz_mul
  go_enter Tryd.func102, Tryd.ntmps102
  go_wp2
  go_ret
  exact ⟨rfl, rfl⟩

set_option maxHeartbeats 400000 in
theorem tz (w : World) (ht : NTab w) : Calls Tryd.prog 99 #[.int .u64 16] w fun e w' => e = .returned (.int .i64 4) ∧ w' = w := by
  go_enter Tryd.func99, Tryd.ntmps99
  go_wp2_with (go_at_call 102; refine (tz64 _ ht).mono ?_; rintro e w' ⟨rfl, rfl⟩)
  go_ret
  exact ⟨rfl, rfl⟩

theorem two_pow : bits BinOp.and IntKind.i64 16 15 = 0 := by kernel_rfl
set_option maxHeartbeats 400000 in
theorem isPow (w : World) : Calls Tryd.prog 98 #[.int .i64 16] w fun e w' => e = .returned (.bool true) ∧ w' = w := by
  have h := two_pow
  go_enter Tryd.func98, Tryd.ntmps98
  go_wp2
  go_ret
  exact ⟨rfl, rfl⟩

theorem NTab.alloc {w : World} (h : NTab w) (o : Obj) : NTab (w.alloc o) := by
  unfold NTab at h ⊢
  rw [World.cell?_alloc_past _ _ _ (World.block_lt_of_cell? _ _ h)]
  exact h

theorem rowIs_zero (w : World) : (w.alloc (.cells Tryd.zeroCells130 130)).rowIs w.heap.size 130 65 (fun _ => .int .u8 0) := by
  have h : Tryd.zeroCells130 = Array.replicate 65 (.int .u8 0) := by kernel_rfl
  have h2 := World.rowIs_alloc w (Array.replicate 65 (.int .u8 0)) 130 (fun _ => .int .u8 0) (fun i hi => by simp at hi; simp [hi])
  rw [h]
  simpa using h2

/-- the digits as strconv has them -/
abbrev digits36 : ByteArray := ⟨#[48, 49, 50, 51, 52, 53, 54, 55, 56, 57, 97, 98, 99, 100, 101, 102, 103, 104, 105, 106, 107, 108, 109, 110, 111, 112, 113, 114, 115, 116, 117, 118, 119, 120, 121, 122]⟩
theorem digits36_at : ∀ d : Fin 16, digits36.data[d.val]? = some (hexc d.val) := by decide +kernel
theorem hex_at (d : Nat) (hd : d < 16) (h : d < digits36.size) : digits36[d]'h = hexc d :=
  (Array.getElem?_eq_some_iff.1 (digits36_at ⟨d, hd⟩)).2

theorem and15 (u : Nat) (h : u < 18446744073709551616) : bits BinOp.and IntKind.u64 (u : Int) 15 = ((u % 16 : Nat) : Int) := by
  have h1 := bits_and_u64_nat u 15 h (by omega)
  have h2 := Nat.and_two_pow_sub_one_eq_mod u 4
  simp only [show (2 : Nat) ^ 4 - 1 = 15 from rfl, show (2 : Nat) ^ 4 = 16 from rfl] at h2
  rw [h2] at h1
  exact h1

theorem pow_bound (n k u : Nat) (hn : n < 18446744073709551616) (hu : u = n / 16 ^ k) (h16 : 16 ≤ u) : 16 ^ (k + 1) ≤ n ∧ k + 1 ≤ 15 := by
  have h1 : 16 ^ (k + 1) ≤ n := by
    rw [Nat.pow_succ, Nat.mul_comm]
    rw [hu] at h16
    exact (Nat.le_div_iff_mul_le (Nat.pow_pos (by omega))).1 h16
  refine ⟨h1, ?_⟩
  have h2 : 16 ^ (k + 1) < 16 ^ 16 := Nat.lt_of_le_of_lt h1 hn
  have := (Nat.pow_lt_pow_iff_right (a := 16) (by omega)).1 h2
  omega

theorem lo_get (k n i : Nat) (h : i < k) : (lo k n)[i]'(by rw [lo_length]; exact h) = hexc (n / 16 ^ (k - 1 - i) % 16) := by
  induction k generalizing i with
  | zero => omega
  | succ k ih =>
    cases i with
    | zero => simp [lo]
    | succ i =>
      simp only [lo, List.getElem_cons_succ]
      rw [ih i (by omega)]
      congr 4
      omega

theorem sl65 (N j k : Nat) (hjk : j + k = 65) (hj : 1 ≤ j) (W : World) : (Instr.sliceAt 130 (.pointer (some ⟨N, 0, none⟩)) (some (.int .i64 ((j : Int) - 1))) none none).run Tryd.prog W = .ok (.slice (some ⟨N, j - 1, none⟩) (k + 1) (k + 1)) W := by
  have hal : Tryd.prog.arrayLen 130 = 65 := by kernel_rfl
  have hel : Tryd.prog.elem 130 = 5 := by kernel_rfl
  rw [run_sliceAt_array_l W 130 ⟨N, 0, none⟩ (by rw [hal, hel]; exact Tryd.underlying130) .i64 ((j : Int) - 1) (by omega) (by rw [hal]; omega), hal, hel]
  have e1 : ((j : Int) - 1).toNat = j - 1 := by omega
  have e2 : ¬ 65 = j - 1 := by omega
  simp only [e1, slicedAt, e2, if_false]
  go_simp
  omega

theorem cv65 (wr : World) (N j k n u : Nat) (f : Nat → Value) (hjk : j + k = 65) (hj : 1 ≤ j) (h36 : u < digits36.size) (h16 : u < 16) (hu : u = n / 16 ^ k) (hf : wr.rowIs N 130 65 f)
    (hd : ∀ m, m < k → f (64 - m) = .int .u8 ((hexc (n / 16 ^ m % 16)).toNat : Int)) :
    (convert 97 9 (.slice (some ⟨N, j - 1, none⟩) (k + 1) (k + 1))).run Tryd.prog (wr.setCell ⟨N, j - 1, none⟩ (.int .u8 ((digits36[u]'h36).toNat : Int))) =
      .ok (.string ⟨(lo (k + 1) n).toArray⟩) (wr.setCell ⟨N, j - 1, none⟩ (.int .u8 ((digits36[u]'h36).toNat : Int))) := by
  have h := run_convert_bytes_back (P := Tryd.prog) (wr.setCell ⟨N, j - 1, none⟩ (.int .u8 ((digits36[u]'h36).toNat : Int))) 97 9 5 ⟨N, j - 1, none⟩ (k + 1) (lo (k + 1) n) Tryd.underlying97 Tryd.underlying5 Tryd.underlying9 (fun i hi => by
    rw [lo_length] at hi
    have hs := hf.set (j - 1) (.int .u8 ((digits36[u]'h36).toNat : Int))
    have e : (⟨N, j - 1, none⟩ : Addr).add i = ⟨N, j - 1 + i, none⟩ := by simp [Addr.add]
    rw [e, hs.cell (by omega), lo_get (k + 1) n i hi]
    by_cases hi0 : i = 0
    · subst hi0
      have : n / 16 ^ (k + 1 - 1 - 0) % 16 = u := by rw [show k + 1 - 1 - 0 = k by omega, ← hu]; exact Nat.mod_eq_of_lt h16
      rw [if_pos (by omega), hex_at u h16, this]
    · rw [if_neg (by omega)]
      have h2 := hd (k - i) (by omega)
      rw [show 64 - (k - i) = j - 1 + i by omega] at h2
      rw [h2, show k + 1 - 1 - i = k - i by omega])
  rw [lo_length] at h
  exact h

set_option maxHeartbeats 400000 in
theorem formatBits_any (n : Nat) (hn : n < 18446744073709551616) (w : World) (ht : NTab w) :
    Calls Tryd.prog 89 #[.slice none 0 0, .int .u64 n, .int .i64 16, .bool false, .bool false] w fun e w' =>
      (∃ k, k ≤ 15 ∧ (k = 0 ∨ 16 ^ k ≤ n) ∧ n < 16 ^ (k + 1) ∧ e = .returned (.tuple #[.slice none 0 0, .string ⟨(lo (k + 1) n).toArray⟩])) ∧ Below w.heap.size w w' := by
  have hta : ∀ o, NTab (w.alloc o) := ht.alloc
  have hrow := hid (rowIs_zero w)
  go_enter Tryd.func89, Tryd.ntmps89
  go_wp2_with (first | (go_at_call 99; refine (tz _ (hta _)).mono ?_; rintro e w' ⟨rfl, rfl⟩) | (go_at_call 98; refine (isPow _).mono ?_; rintro e w' ⟨rfl, rfl⟩))
  clear hta
  go_loopw [1, 13] (fun u i wr => ∃ (k j : Nat) (f : Nat → Value), j + k = 65 ∧ k ≤ 15 ∧ (k = 0 ∨ 16 ^ k ≤ n) ∧ u = .int .u64 ((n / 16 ^ k : Nat) : Int) ∧ i = .int .i64 j ∧ Below w.heap.size w wr ∧ wr.rowIs w.heap.size 130 65 f ∧ ∀ m, m < k → f (64 - m) = .int .u8 ((hexc (n / 16 ^ m % 16)).toNat : Int)) (fun u _ _ => (intOf u).toNat)
  case atStart => exact ⟨0, 65, _, rfl, by omega, .inl rfl, by simp, rfl, (Below.refl _ _).alloc (Nat.le_refl _) _, hrow.out, fun m hm => by omega⟩
  case round =>
    obtain ⟨k, j, f, hjk, hk15, hkn, rfl, rfl, hbel, hf, hdig⟩ := hrel
    obtain ⟨u, hu⟩ : ∃ u, u = n / 16 ^ k := ⟨_, rfl⟩
    rw [← hu]
    have Hu := hid hu
    have Hdig := hid hdig
    have Hbel := hid hbel
    have Hkn := hid hkn
    have Hf := hid hf
    have hc : wr.cell? ⟨w.heap.size, j - 1, none⟩ = some (f (j - 1)) := hf.cell (by omega)
    have hfz : wr.frozen? ⟨w.heap.size, j - 1, none⟩ = false := hf.frozen _
    clear hu hdig hbel hkn hf
    have hun : u < 18446744073709551616 := by rw [Hu.out]; exact Nat.lt_of_le_of_lt (Nat.div_le_self _ _) hn
    by_cases h16 : 16 ≤ u
    · have hand := and15 u hun
      have hpb := hid (pow_bound n k u hn Hu.out h16)
      go_wp2
      go_roundw
      case rel =>
        refine ⟨k + 1, j - 1, _, by omega, hpb.out.2, .inr hpb.out.1, ?_, by go_num, Hbel.out.setCell (Nat.le_refl _) _, Hf.out.set _ _, ?_⟩
        · rw [Nat.pow_succ, ← Nat.div_div_eq_div_mul, ← Hu.out]; go_num
        · intro m hm
          by_cases hmk : m = k
          · subst hmk
            rw [if_pos (by omega), hex_at _ (Nat.mod_lt _ (by omega)), Hu.out]
          · rw [if_neg (by omega)]
            exact Hdig.out m (by omega)
      case measure => simp [intOf]; omega
    · have hsl := sl65 w.heap.size j k hjk (by omega)
      have hu36 : u < digits36.size := by have : digits36.size = 36 := rfl; omega
      have hcv := cv65 wr w.heap.size j k n u f hjk (by omega) hu36 (by omega) Hu.out Hf.out Hdig.out
      go_wp2
      go_ret2
      refine ⟨⟨k, hk15, Hkn.out, ?_, rfl⟩, Hbel.out.setCell (Nat.le_refl _) _⟩
      have h1 : n / 16 ^ k < 16 := by rw [← Hu.out]; omega
      rw [Nat.pow_succ, Nat.mul_comm]
      exact (Nat.div_lt_iff_lt_mul (Nat.pow_pos (by omega))).1 h1

set_option maxHeartbeats 400000 in
theorem iFormatInt_any (n : Nat) (hn : n ≤ 4611686018427387904) (w : World) (ht : NTab w) :
    Calls Tryd.prog 74 #[.int .i64 n, .int .i64 16] w fun e w' =>
      (∃ k, k ≤ 15 ∧ (k = 0 ∨ 16 ^ k ≤ n) ∧ n < 16 ^ (k + 1) ∧ e = .returned (.string ⟨(lo (k + 1) n).toArray⟩)) ∧ Below w.heap.size w w' := by
  have hneg : decide ((n : Int) < 0) = false := by simp
  go_enter Tryd.func74, Tryd.ntmps74
  go_wp2_with (go_at_call 89; refine (formatBits_any n (by omega) _ ht).mono ?_; rintro e w' ⟨⟨k, hk, hk2, hk3, rfl⟩, hb⟩)
  go_ret
  exact ⟨⟨k, hk, hk2, hk3, rfl⟩, hb⟩

set_option maxHeartbeats 400000 in
theorem formatInt_any (n : Nat) (hn : n ≤ 4611686018427387904) (w : World) (ht : NTab w) :
    Calls Tryd.prog 70 #[.int .i64 n, .int .i64 16] w fun e w' =>
      (∃ k, k ≤ 15 ∧ (k = 0 ∨ 16 ^ k ≤ n) ∧ n < 16 ^ (k + 1) ∧ e = .returned (.string ⟨(lo (k + 1) n).toArray⟩)) ∧ Below w.heap.size w w' := by
  go_enter Tryd.func70, Tryd.ntmps70
  go_wp2_with (go_at_call 74; refine (iFormatInt_any n (by omega) _ ht).mono ?_; rintro e w' ⟨⟨k, hk, hk2, hk3, rfl⟩, hb⟩)
  go_ret
  exact ⟨⟨k, hk, hk2, hk3, rfl⟩, hb⟩

/-- the letter of k + 1 digits -/
def letr (k : Nat) : UInt8 := UInt8.ofNat (98 + k)
/-- a number's text -/
def numT (n : Nat) : List UInt8 := if n = 0 then [97] else letr (n.log2 / 4) :: lo (n.log2 / 4 + 1) n

theorem log_of (n k : Nat) (h0 : n ≠ 0) (h1 : k = 0 ∨ 16 ^ k ≤ n) (h2 : n < 16 ^ (k + 1)) : n.log2 / 4 = k := by
  have e1 : (16 : Nat) ^ (k + 1) = 2 ^ (4 * (k + 1)) := by rw [Nat.pow_mul]
  have e2 : (16 : Nat) ^ k = 2 ^ (4 * k) := by rw [Nat.pow_mul]
  have a := (Nat.log2_lt h0).2 (e1 ▸ h2)
  have b : 4 * k ≤ n.log2 := by
    rcases h1 with rfl | h1
    · omega
    · exact (Nat.le_log2 h0).2 (e2 ▸ h1)
  omega

set_option maxHeartbeats 400000 in
theorem number_low (n : Int) (h : n < 0) (w : World) :
    Calls Tryd.prog 65 #[.int .i64 n] w fun e w' => e = .returned (.tuple #[.string ⟨#[]⟩, .int .i64 2]) ∧ w' = w := by
  go_enter Tryd.func65, Tryd.ntmps65
  go_wp2
  go_ret2
  exact ⟨rfl, rfl⟩

set_option maxHeartbeats 400000 in
theorem number_high (n : Int) (h : 4611686018427387904 < n) (w : World) :
    Calls Tryd.prog 65 #[.int .i64 n] w fun e w' => e = .returned (.tuple #[.string ⟨#[]⟩, .int .i64 2]) ∧ w' = w := by
  have d1 : decide (n < 0) = false := by simp; omega
  have d2 : decide (4611686018427387904 < n) = true := by simp; omega
  go_enter Tryd.func65, Tryd.ntmps65
  go_wp2
  go_ret2
  exact ⟨rfl, rfl⟩

set_option maxHeartbeats 400000 in
theorem number_zero (w : World) :
    Calls Tryd.prog 65 #[.int .i64 0] w fun e w' => e = .returned (.tuple #[.string ⟨(numT 0).toArray⟩, .int .i64 0]) ∧ w' = w := by
  go_enter Tryd.func65, Tryd.ntmps65
  go_wp2
  go_ret2
  exact ⟨rfl, rfl⟩

theorem enc_fin : ∀ k : Fin 16, (Utf8.encode (97 + ((k.val : Int) + 1))).data.toList = [letr k.val] := by decide +kernel
theorem enc_at (k : Nat) (hk : k ≤ 15) : Utf8.encode (97 + ((k : Int) + 1)) = ⟨#[letr k]⟩ :=
  (Lib.mk_data (Utf8.encode (97 + ((k : Int) + 1)))).symm.trans (congrArg (fun l : List UInt8 => (⟨l.toArray⟩ : ByteArray)) (enc_fin ⟨k, by omega⟩))

set_option maxHeartbeats 400000 in
theorem number_pos (n : Nat) (h0 : 0 < n) (h : n ≤ 4611686018427387904) (w : World) (ht : NTab w) :
    Calls Tryd.prog 65 #[.int .i64 n] w fun e w' => e = .returned (.tuple #[.string ⟨(numT n).toArray⟩, .int .i64 0]) ∧ Below w.heap.size w w' := by
  have d1 : decide ((n : Int) < 0) = false := by simp
  have d2 : decide (4611686018427387904 < (n : Int)) = false := by simp; omega
  have d3 : ((n : Int) == 0) = false := by rw [beq_eq_false_iff_ne]; omega
  go_enter Tryd.func65, Tryd.ntmps65
  go_wp2_with (go_at_call 70; refine (formatInt_any n (by omega) _ ht).mono ?_; rintro e w' ⟨⟨k, hk, hk2, hk3, rfl⟩, hb⟩; have hl := lo_length (k + 1) n; have henc := enc_at k hk; have Hk := hid hk2; clear hk2)
  go_ret2
  refine ⟨ret_two (congrArg Value.string ?_) rfl, hb⟩
  unfold numT
  rw [if_neg (by omega), log_of n k (by omega) Hk.out hk3]
  apply ByteArray.ext
  simp [ByteArray.data_append]

abbrev digits16 : ByteArray := ⟨#[48, 49, 50, 51, 52, 53, 54, 55, 56, 57, 97, 98, 99, 100, 101, 102]⟩
theorem digits16_at : ∀ d : Fin 16, digits16.data[d.val]? = some (hexc d.val) := by decide +kernel
theorem hex16_at (d : Nat) (hd : d < 16) (h : d < digits16.size) : digits16[d]'h = hexc d :=
  (Array.getElem?_eq_some_iff.1 (digits16_at ⟨d, hd⟩)).2

set_option maxHeartbeats 400000 in
theorem digit_any (d : Nat) (hd : d < 16) (w : World) :
    Calls Tryd.prog 67 #[.int .i64 d] w fun e w' => e = .returned (.int .u8 ((hexc d).toNat : Int)) ∧ w' = w := by
  go_enter Tryd.func67, Tryd.ntmps67
  go_wp2
  go_ret
  exact ⟨ret_int (by rw [← hex16_at d hd (by exact hd)]), rfl⟩

set_option maxHeartbeats 400000 in
theorem refNumber_low (n : Int) (h : n < 0) (w : World) :
    Calls Tryd.prog 57 #[.int .i64 n] w fun e w' => e = .returned (.tuple #[.string ⟨#[]⟩, .int .i64 2]) ∧ w' = w := by
  go_enter Tryd.func57, Tryd.ntmps57
  go_wp2
  go_ret2
  exact ⟨rfl, rfl⟩

set_option maxHeartbeats 400000 in
theorem refNumber_high (n : Int) (h : 4611686018427387904 < n) (w : World) :
    Calls Tryd.prog 57 #[.int .i64 n] w fun e w' => e = .returned (.tuple #[.string ⟨#[]⟩, .int .i64 2]) ∧ w' = w := by
  have d1 : decide (n < 0) = false := by simp; omega
  have d2 : decide (4611686018427387904 < n) = true := by simp; omega
  go_enter Tryd.func57, Tryd.ntmps57
  go_wp2
  go_ret2
  exact ⟨rfl, rfl⟩

/-- the letter of k digits -/
def letk (k : Nat) : UInt8 := UInt8.ofNat (97 + k)
theorem letk_toNat (k : Nat) (hk : k ≤ 16) : (letk k).toNat = 97 + k := by
  unfold letk
  rw [UInt8.toNat_ofNat']
  omega

/-- string([]byte{c}) -/
theorem cv1 (W : World) (c : UInt8) : (convert 97 9 (.slice (some ⟨W.heap.size, 0, none⟩) 1 1)).run Tryd.prog (W.alloc (.cells #[.int .u8 (c.toNat : Int)] 5)) =
    .ok (.string ⟨#[c]⟩) (W.alloc (.cells #[.int .u8 (c.toNat : Int)] 5)) := by
  exact run_convert_bytes_back (P := Tryd.prog) (W.alloc (.cells #[.int .u8 (c.toNat : Int)] 5)) 97 9 5 ⟨W.heap.size, 0, none⟩ 1 [c] Tryd.underlying97 Tryd.underlying5 Tryd.underlying9 (fun j hj => by
    have : j = 0 := by simpa using hj
    subst this
    simp [Addr.add])
theorem cvk (W : World) (k : Nat) (hk : k ≤ 16) : (convert 97 9 (.slice (some ⟨W.heap.size, 0, none⟩) 1 1)).run Tryd.prog (W.alloc (.cells #[.int .u8 (97 + (k : Int))] 5)) =
    .ok (.string ⟨#[letk k]⟩) (W.alloc (.cells #[.int .u8 (97 + (k : Int))] 5)) := by
  have h := cv1 W (letk k)
  rw [letk_toNat k hk] at h
  simpa using h

theorem lo_cons (k n u : Nat) (hu : u = n / 16 ^ k) : (⟨#[hexc (u % 16)]⟩ : ByteArray) ++ ⟨(lo k n).toArray⟩ = ⟨(lo (k + 1) n).toArray⟩ := by
  rw [lo, ← hu]
  apply ByteArray.ext
  simp [ByteArray.data_append]

theorem numT_of (n k : Nat) (h1 : k = 0 ∨ 16 ^ (k - 1) ≤ n) (h2 : n < 16 ^ k) : (⟨#[letk k]⟩ : ByteArray) ++ ⟨(lo k n).toArray⟩ = ⟨(numT n).toArray⟩ := by
  cases k with
  | zero =>
    have : n = 0 := by simpa using h2
    subst this
    rfl
  | succ k =>
    have hn : n ≠ 0 := by
      rcases h1 with h1 | h1
      · omega
      · have := Nat.pow_pos (n := k) (show 0 < 16 by omega)
        simp at h1
        omega
    have h3 : k = 0 ∨ 16 ^ k ≤ n := by
      rcases h1 with h1 | h1
      · omega
      · exact .inr (by simpa using h1)
    unfold numT
    rw [if_neg hn, log_of n k hn h3 h2]
    have e : letk (k + 1) = letr k := by unfold letk letr; rw [show 97 + (k + 1) = 98 + k by omega]
    rw [e]
    apply ByteArray.ext
    simp [ByteArray.data_append]

theorem next_pow (n k u : Nat) (hn : n ≤ 4611686018427387904) (hu : u = n / 16 ^ k) (h : 0 < u) : 16 ^ k ≤ n ∧ k + 1 ≤ 16 := by
  have h1 : 16 ^ k ≤ n := by
    rw [hu] at h
    have := (Nat.le_div_iff_mul_le (Nat.pow_pos (show 0 < 16 by omega))).1 h
    omega
  refine ⟨h1, ?_⟩
  have h2 : 16 ^ k < 16 ^ 16 := Nat.lt_of_le_of_lt (Nat.le_trans h1 hn) (by decide)
  have := (Nat.pow_lt_pow_iff_right (a := 16) (by omega)).1 h2
  omega

set_option maxHeartbeats 400000 in
theorem refNumber_any (n : Nat) (h : n ≤ 4611686018427387904) (w : World) :
    Calls Tryd.prog 57 #[.int .i64 n] w fun e w' => e = .returned (.tuple #[.string ⟨(numT n).toArray⟩, .int .i64 0]) ∧ Below w.heap.size w w' := by
  have d1 : decide ((n : Int) < 0) = false := by simp
  have d2 : decide (4611686018427387904 < (n : Int)) = false := by simp; omega
  go_enter Tryd.func57, Tryd.ntmps57
  go_wp2_with fail
  go_loopw [0, 4, 5] (fun m s c wr => ∃ k : Nat, k ≤ 16 ∧ (k = 0 ∨ 16 ^ (k - 1) ≤ n) ∧ m = .int .i64 ((n / 16 ^ k : Nat) : Int) ∧ s = .string ⟨(lo k n).toArray⟩ ∧ c = .int .i64 k ∧ Below w.heap.size w wr) (fun m _ _ _ => (intOf m).toNat)
  case atStart => exact ⟨0, by omega, .inl rfl, by simp, rfl, rfl, Below.refl _ _⟩
  case round =>
    obtain ⟨k, hk, hkn, rfl, rfl, rfl, hbel⟩ := hrel
    obtain ⟨u, hu⟩ : ∃ u, u = n / 16 ^ k := ⟨_, rfl⟩
    rw [← hu]
    have Hu := hid hu
    have Hkn := hid hkn
    have hun : u ≤ 4611686018427387904 := by rw [hu]; exact Nat.le_trans (Nat.div_le_self _ _) h
    have hl := lo_length k n
    clear hu hkn
    by_cases hu0 : 0 < u
    · have hnp := hid (next_pow n k u h Hu.out hu0)
      have hcv := cv1
      go_wp2_with (go_at_call 67; refine (digit_any (u % 16) (Nat.mod_lt _ (by omega)) _).mono ?_; rintro e w' ⟨rfl, rfl⟩)
      go_roundw
      case rel =>
        refine ⟨k + 1, hnp.out.2, .inr (by simpa using hnp.out.1), ?_, congrArg Value.string (lo_cons k n u Hu.out), by go_num, hbel.alloc hbel.size _⟩
        rw [Nat.pow_succ, ← Nat.div_div_eq_div_mul, ← Hu.out]; go_num
      case measure => simp [intOf]; omega
    · have hcv := fun W => cvk W k hk
      go_wp2
      go_ret2
      refine ⟨ret_two (congrArg Value.string (numT_of n k Hkn.out ?_)) rfl, hbel.alloc hbel.size _⟩
      have h0 : n / 16 ^ k = 0 := by rw [← Hu.out]; omega
      exact (Nat.div_eq_zero_iff.1 h0).resolve_left (by have := Nat.pow_pos (n := k) (show 0 < 16 by omega); omega)

theorem log_bounds (n : Nat) (h : n ≠ 0) : 16 ^ (n.log2 / 4) ≤ n ∧ n < 16 ^ (n.log2 / 4 + 1) := by
  have e1 : ∀ k, (16 : Nat) ^ k = 2 ^ (4 * k) := fun k => by rw [Nat.pow_mul]
  rw [e1, e1]
  constructor
  · exact Nat.le_trans (Nat.pow_le_pow_right (by omega) (by omega)) ((Nat.le_log2 h).1 (Nat.le_refl _))
  · exact Nat.lt_of_lt_of_le ((Nat.log2_lt h).1 (Nat.lt_succ_self _)) (Nat.pow_le_pow_right (by omega) (by omega))

theorem log_le (n : Nat) (h : n ≠ 0) (hn : n ≤ 4611686018427387904) : n.log2 / 4 ≤ 15 := by
  have h1 := (log_bounds n h).1
  have h2 : 16 ^ (n.log2 / 4) < 16 ^ 16 := Nat.lt_of_le_of_lt (Nat.le_trans h1 hn) (by decide)
  have := (Nat.pow_lt_pow_iff_right (a := 16) (by omega)).1 h2
  omega

theorem letr_toNat (k : Nat) (hk : k ≤ 15) : (letr k).toNat = 98 + k := by
  unfold letr
  rw [UInt8.toNat_ofNat']
  omega

theorem numT_less (a b : Nat) (ha : a ≤ 4611686018427387904) (hb : b ≤ 4611686018427387904) : bytesLess (numT a) (numT b) = decide (a < b) := by
  unfold numT
  by_cases a0 : a = 0
  · subst a0
    by_cases b0 : b = 0
    · subst b0; rfl
    · rw [if_pos rfl, if_neg b0]
      have hl := log_le b b0 hb
      have h1 : (97 : UInt8) < letr (b.log2 / 4) := by
        rw [UInt8.lt_iff_toNat_lt, letr_toNat _ hl]
        show 97 < _
        omega
      have h2 : 0 < b := by omega
      simp [bytesLess, h1, h2]
  · rw [if_neg a0]
    have hla := log_le a a0 ha
    by_cases b0 : b = 0
    · subst b0
      rw [if_pos rfl]
      have h1 : ¬ letr (a.log2 / 4) < 97 := by
        rw [UInt8.lt_iff_toNat_lt, letr_toNat _ hla]
        show ¬ _ < 97
        omega
      have h2 : (letr (a.log2 / 4) == 97) = false := by
        rw [beq_eq_false_iff_ne]
        intro e
        have := congrArg UInt8.toNat e
        rw [letr_toNat _ hla] at this
        have h3 : (97 : UInt8).toNat = 97 := rfl
        omega
      simp [bytesLess, h1, h2]
    · rw [if_neg b0]
      have hlb := log_le b b0 hb
      have ba := log_bounds a a0
      have bb := log_bounds b b0
      generalize a.log2 / 4 = ka at *
      generalize b.log2 / 4 = kb at *
      rw [bytesLess]
      rcases Nat.lt_trichotomy ka kb with h | h | h
      · have h1 : letr ka < letr kb := by rw [UInt8.lt_iff_toNat_lt, letr_toNat _ hla, letr_toNat _ hlb]; omega
        have h2 : 16 ^ (ka + 1) ≤ 16 ^ kb := Nat.pow_le_pow_right (by omega) h
        have h3 : a < b := by omega
        simp [h1, h3]
      · subst h
        have h1 : ¬ letr ka < letr ka := by rw [UInt8.lt_iff_toNat_lt]; omega
        rw [lo_less, Nat.mod_eq_of_lt ba.2, Nat.mod_eq_of_lt bb.2]
        simp [h1]
      · have h1 : ¬ letr ka < letr kb := by rw [UInt8.lt_iff_toNat_lt, letr_toNat _ hla, letr_toNat _ hlb]; omega
        have h2 : (letr ka == letr kb) = false := by
          rw [beq_eq_false_iff_ne]
          intro e
          have := congrArg UInt8.toNat e
          rw [letr_toNat _ hla, letr_toNat _ hlb] at this
          omega
        have h4 : 16 ^ (kb + 1) ≤ 16 ^ ka := Nat.pow_le_pow_right (by omega) h
        have h3 : ¬ a < b := by omega
        simp [h1, h2, h3]


theorem NTab.below {w w' : World} (h : NTab w) (hb : Below w.heap.size w w') : NTab w' := by
  unfold NTab at h ⊢
  exact (hb.cell (World.block_lt_of_cell? _ _ h)).trans h
/-- texts that lie in a row of the world -/
def Texts (w : World) (a : Option Addr) (l : List ByteArray) : Prop := ∀ i (h : i < l.length), ∃ b o, a = some ⟨b, o, none⟩ ∧ w.cell? ⟨b, o + i, none⟩ = some (.string l[i])
theorem Texts.below {w w' : World} {a : Option Addr} {l : List ByteArray} (h : Texts w a l) (hb : Below w.heap.size w w') : Texts w' a l := fun i hi => by
  obtain ⟨b, o, ha, hc⟩ := h i hi
  exact ⟨b, o, ha, (hb.cell (World.block_lt_of_cell? _ _ hc)).trans hc⟩
theorem str_eq (s t : ByteArray) : s = t ↔ s.toList = t.toList := by
  constructor
  · intro h; rw [h]
  · intro h
    rw [Lib.toList_data, Lib.toList_data] at h
    rw [← Lib.mk_data s, ← Lib.mk_data t, h]

set_option maxHeartbeats 400000 in
theorem sameTexts_any (x y : List ByteArray) (a b : Option Addr) (ca cb : Nat) (w : World) (hx : Texts w a x) (hy : Texts w b y) (lx : x.length ≤ 140737488351232) (ly : y.length ≤ 140737488351232) :
    Calls Tryd.prog 32 #[.slice a x.length ca, .slice b y.length cb] w fun e w' => e = .returned (.bool (decide (x = y))) ∧ Below w.heap.size w w' := by
  have Hx := hid hx
  have Hy := hid hy
  clear hx hy
  by_cases hl : x.length = y.length
  · have d1 : ((x.length : Int) != (y.length : Int)) = false := by rw [bne_eq_false_iff_eq]; omega
    have Hl := hid hl
    clear hl
    go_enter Tryd.func32, Tryd.ntmps32
    go_wp2
    go_loopw [5] (fun i wr => ∃ k : Nat, k ≤ x.length ∧ i = .int .i64 k ∧ x.take k = y.take k ∧ Below w.heap.size w wr) (fun i _ => x.length - (intOf i).toNat)
    case atStart => exact ⟨0, Nat.zero_le _, rfl, rfl, Below.refl _ _⟩
    case round =>
      obtain ⟨k, hk, rfl, hpre, hbel⟩ := hrel
      have Hpre := hid hpre
      have Hbel := hid hbel
      clear hpre hbel
      by_cases hlt : k < x.length
      · have hlt2 : k < y.length := by have := Hl.out; omega
        obtain ⟨b1, o1, ha, hc1⟩ := (Hx.out.below Hbel.out) k hlt
        obtain ⟨b2, o2, hb, hc2⟩ := (Hy.out.below Hbel.out) k hlt2
        have HX : Hid (x.take (k + 1) = x.take k ++ [x[k]]) := List.take_succ_eq_append_getElem hlt
        have HY : Hid (y.take (k + 1) = y.take k ++ [y[k]]) := List.take_succ_eq_append_getElem hlt2
        have HN : Hid (x[k] ≠ y[k] → x ≠ y) := fun h e => h (by subst e; rfl)
        generalize x[k] = c1 at *
        generalize y[k] = c2 at *
        subst ha
        subst hb
        by_cases hc : c1 = c2
        · have e1 : (c1.toList == c2.toList) = true := by rw [hc]; simp
          have H12 := hid hc
          clear hc
          go_wp2
          go_quiet (fail)
          go_wp2
          go_roundw
          case rel => exact ⟨k + 1, by omega, by go_num, by rw [HX.out, HY.out, Hpre.out, H12.out], Hbel.out.trans (below_drewN _ _ _)⟩
          case measure => simp [intOf]; omega
        · have e1 : (c1.toList == c2.toList) = false := by
            rw [beq_eq_false_iff_ne]
            exact fun e => hc ((str_eq _ _).2 e)
          have Hne := hid (HN.out hc)
          clear hc
          go_wp2
          go_quiet (fail)
          go_wp2
          go_ret
          exact ⟨ret_bool (by simp [Hne.out]), Hbel.out.trans (below_drewN _ _ _)⟩
      · go_wp2
        go_ret
        refine ⟨ret_bool ?_, Hbel.out⟩
        have h := Hpre.out
        rw [List.take_of_length_le (by omega), List.take_of_length_le (by have := Hl.out; omega)] at h
        simp [h]
  · have d1 : ((x.length : Int) != (y.length : Int)) = true := by rw [bne_iff_ne]; omega
    have hne : decide (x = y) = false := by simp; intro e; exact hl (congrArg List.length e)
    rw [hne]
    clear hl hne
    go_enter Tryd.func32, Tryd.ntmps32
    go_wp2
    go_ret
    exact ⟨rfl, Below.refl _ _⟩
/-- a number's text -/
def txt (n : Nat) : ByteArray := ⟨(numT n).toArray⟩
theorem txt_size (n : Nat) (h : n ≤ 4611686018427387904) : (txt n).size ≤ 100 := by
  show (numT n).toArray.size ≤ 100
  unfold numT
  split
  · decide
  · rw [List.size_toArray, List.length_cons, lo_length]
    have := (Nat.log2_lt (by omega)).2 (show n < 2 ^ 63 by omega)
    omega
set_option maxHeartbeats 400000 in
theorem text_any (n : Nat) (h : n ≤ 4611686018427387904) (w : World) (ht : NTab w) : Calls Tryd.prog 54 #[.int .i64 (n : Int)] w fun e w' => e = .returned (.string (txt n)) ∧ Below w.heap.size w w' := by
  have hn : Calls Tryd.prog 65 #[.int .i64 (n : Int)] w fun e w' => e = .returned (.tuple #[.string (txt n), .int .i64 0]) ∧ Below w.heap.size w w' := by
    by_cases h0 : n = 0
    · subst h0
      refine (number_zero w).mono ?_
      rintro e w' ⟨rfl, rfl⟩
      exact ⟨rfl, Below.refl _ _⟩
    · exact number_pos n (by omega) h w ht
  generalize txt n = t at *
  go_enter Tryd.func54, Tryd.ntmps54
  go_wp2_with (go_at_call 65; refine hn.mono ?_; rintro e w1 ⟨rfl, hb⟩)
  go_ret
  exact ⟨rfl, hb⟩
set_option maxHeartbeats 400000 in
theorem rNum_any (n : Nat) (h : n ≤ 4611686018427387904) (w : World) : Calls Tryd.prog 36 #[.int .i64 (n : Int)] w fun e w' => e = .returned (.string (txt n)) ∧ Below w.heap.size w w' := by
  have hn : Calls Tryd.prog 57 #[.int .i64 (n : Int)] w fun e w' => e = .returned (.tuple #[.string (txt n), .int .i64 0]) ∧ Below w.heap.size w w' := refNumber_any n h w
  generalize txt n = t at *
  go_enter Tryd.func36, Tryd.ntmps36
  go_wp2_with (go_at_call 57; refine hn.mono ?_; rintro e w1 ⟨rfl, hb⟩)
  go_ret
  exact ⟨rfl, hb⟩
end Go.Proofs.YtcchlcbonfdhpaaDoor
