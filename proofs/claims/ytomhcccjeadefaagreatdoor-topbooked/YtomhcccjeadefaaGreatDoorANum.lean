/- Numbers as texts, beside the texts on hashes: strconv's digits in base 16, codec.Number. -/
import Derived.Test.YtomhcccjeadefaaGreatDoorHChain
import Derived.Test.YtomhcccjeadefaaGreatDoorHex
import Derived.Deep.OwnRows
import Derived.Lib.Strings
namespace Go.Proofs.YtomhcccjeadefaaGreatDoor
open Go.RowKit
set_option linter.unusedVariables false
set_option maxRecDepth 20000
def TabAt (w : World) : Prop := w.cell? ⟨6, 15, none⟩ = some (.int .u8 4)
theorem tz_and : bits BinOp.and IntKind.u64 16 (IntKind.u64.wrap (-16)) = 16 := by kernel_rfl
theorem tz_mul : IntKind.u64.wrap (16 * 285870213051353865) / 288230376151711744 = 15 := by kernel_rfl
set_option maxHeartbeats 400000 in
theorem tz64 (w : World) (ht : TabAt w) : Calls Tryz.prog 156 #[.int .u64 16] w fun e w' => e = .returned (.int .i64 4) ∧ w' = w := by
  unfold TabAt at ht
  have h1 := tz_and
  have h2 := tz_mul
  go_enter Tryz.func156, Tryz.ntmps156
  go_wp2
  go_ret
  exact ⟨rfl, rfl⟩
set_option maxHeartbeats 400000 in
theorem tz (w : World) (ht : TabAt w) : Calls Tryz.prog 144 #[.int .u64 16] w fun e w' => e = .returned (.int .i64 4) ∧ w' = w := by
  go_enter Tryz.func144, Tryz.ntmps144
  go_wp2_with (go_at_call 156; refine (tz64 _ ht).mono ?_; rintro e w' ⟨rfl, rfl⟩)
  go_ret
  exact ⟨rfl, rfl⟩
theorem two_pow : bits BinOp.and IntKind.i64 16 15 = 0 := by kernel_rfl
set_option maxHeartbeats 400000 in
theorem isPow (w : World) : Calls Tryz.prog 143 #[.int .i64 16] w fun e w' => e = .returned (.bool true) ∧ w' = w := by
  have h := two_pow
  go_enter Tryz.func143, Tryz.ntmps143
  go_wp2
  go_ret
  exact ⟨rfl, rfl⟩
theorem TabAt.alloc {w : World} (h : TabAt w) (o : Obj) : TabAt (w.alloc o) := by
  unfold TabAt at h ⊢
  rw [World.cell?_alloc_past _ _ _ (World.block_lt_of_cell? _ _ h)]
  exact h
theorem rowIs_zero (w : World) : (w.alloc (.cells Tryz.zeroCells198 198)).rowIs w.heap.size 198 65 (fun _ => .int .u8 0) := by
  have h : Tryz.zeroCells198 = Array.replicate 65 (.int .u8 0) := by kernel_rfl
  have h2 := World.rowIs_alloc w (Array.replicate 65 (.int .u8 0)) 198 (fun _ => .int .u8 0) (fun i hi => by simp at hi; simp [hi])
  rw [h]
  simpa using h2
abbrev digits36 : ByteArray := ⟨#[48, 49, 50, 51, 52, 53, 54, 55, 56, 57, 97, 98, 99, 100, 101, 102, 103, 104, 105, 106, 107, 108, 109, 110, 111, 112, 113, 114, 115, 116, 117, 118, 119, 120, 121, 122]⟩
theorem digits36_at : ∀ d : Fin 16, digits36.data[d.val]? = some (hexc d.val) := by decide +kernel
theorem hex_at (d : Nat) (hd : d < 16) (h : d < digits36.size) : digits36[d]'h = hexc d :=
  (Array.getElem?_eq_some_iff.1 (digits36_at ⟨d, hd⟩)).2
theorem and15 (u : Nat) (h : u < 18446744073709551616) : bits BinOp.and IntKind.u64 (u : Int) 15 = ((u % 16 : Nat) : Int) := by
  have h1 := bits_and_u64_nat u 15 h (by omega)
  have h2 := Nat.and_two_pow_sub_one_eq_mod u 4
  simp only [show (2 : Nat) ^ 4 - 1 = 15 from rfl, show (2 : Nat) ^ 4 = 16 from rfl] at h2
  rw [h2] at h1
  exact h1
theorem pow_bound (n k u : Nat) (hn : n < 18446744073709551616) (hu : u = n / 16 ^ k) (h16 : 16 ≤ u) : 16 ^ (k + 1) ≤ n ∧ k + 1 ≤ 15 := by
  have h1 : 16 ^ (k + 1) ≤ n := by
    rw [Nat.pow_succ, Nat.mul_comm]
    rw [hu] at h16
    exact (Nat.le_div_iff_mul_le (Nat.pow_pos (by omega))).1 h16
  refine ⟨h1, ?_⟩
  have h2 : 16 ^ (k + 1) < 16 ^ 16 := Nat.lt_of_le_of_lt h1 hn
  have := (Nat.pow_lt_pow_iff_right (a := 16) (by omega)).1 h2
  omega
theorem lo_get (k n i : Nat) (h : i < k) : (lo k n)[i]'(by rw [lo_length]; exact h) = hexc (n / 16 ^ (k - 1 - i) % 16) := by
  induction k generalizing i with
  | zero => omega
  | succ k ih =>
    cases i with
    | zero => simp [lo]
    | succ i =>
      simp only [lo, List.getElem_cons_succ]
      rw [ih i (by omega)]
      congr 4
      omega
theorem sl65 (N j k : Nat) (hjk : j + k = 65) (hj : 1 ≤ j) (W : World) : (Instr.sliceAt 198 (.pointer (some ⟨N, 0, none⟩)) (some (.int .i64 ((j : Int) - 1))) none none).run Tryz.prog W = .ok (.slice (some ⟨N, j - 1, none⟩) (k + 1) (k + 1)) W := by
  have hal : Tryz.prog.arrayLen 198 = 65 := by kernel_rfl
  have hel : Tryz.prog.elem 198 = 5 := by kernel_rfl
  rw [run_sliceAt_array_l W 198 ⟨N, 0, none⟩ (by rw [hal, hel]; exact Tryz.underlying198) .i64 ((j : Int) - 1) (by omega) (by rw [hal]; omega), hal, hel]
  have e1 : ((j : Int) - 1).toNat = j - 1 := by omega
  have e2 : ¬ 65 = j - 1 := by omega
  simp only [e1, slicedAt, e2, if_false]
  go_simp
  omega
theorem cv65 (wr : World) (N j k n u : Nat) (f : Nat → Value) (hjk : j + k = 65) (hj : 1 ≤ j) (h36 : u < digits36.size) (h16 : u < 16) (hu : u = n / 16 ^ k) (hf : wr.rowIs N 198 65 f)
    (hd : ∀ m, m < k → f (64 - m) = .int .u8 ((hexc (n / 16 ^ m % 16)).toNat : Int)) :
    (convert 29 9 (.slice (some ⟨N, j - 1, none⟩) (k + 1) (k + 1))).run Tryz.prog (wr.setCell ⟨N, j - 1, none⟩ (.int .u8 ((digits36[u]'h36).toNat : Int))) =
      .ok (.string ⟨(lo (k + 1) n).toArray⟩) (wr.setCell ⟨N, j - 1, none⟩ (.int .u8 ((digits36[u]'h36).toNat : Int))) := by
  have h := run_convert_bytes_back (P := Tryz.prog) (wr.setCell ⟨N, j - 1, none⟩ (.int .u8 ((digits36[u]'h36).toNat : Int))) 29 9 5 ⟨N, j - 1, none⟩ (k + 1) (lo (k + 1) n) Tryz.underlying29 Tryz.underlying5 Tryz.underlying9 (fun i hi => by
    rw [lo_length] at hi
    have hs := hf.set (j - 1) (.int .u8 ((digits36[u]'h36).toNat : Int))
    have e : (⟨N, j - 1, none⟩ : Addr).add i = ⟨N, j - 1 + i, none⟩ := by simp [Addr.add]
    rw [e, hs.cell (by omega), lo_get (k + 1) n i hi]
    by_cases hi0 : i = 0
    · subst hi0
      have : n / 16 ^ (k + 1 - 1 - 0) % 16 = u := by rw [show k + 1 - 1 - 0 = k by omega, ← hu]; exact Nat.mod_eq_of_lt h16
      rw [if_pos (by omega), hex_at u h16, this]
    · rw [if_neg (by omega)]
      have h2 := hd (k - i) (by omega)
      rw [show 64 - (k - i) = j - 1 + i by omega] at h2
      rw [h2, show k + 1 - 1 - i = k - i by omega])
  rw [lo_length] at h
  exact h
set_option maxHeartbeats 400000 in
theorem formatBits_any (n : Nat) (hn : n < 18446744073709551616) (w : World) (ht : TabAt w) :
    Calls Tryz.prog 123 #[.slice none 0 0, .int .u64 n, .int .i64 16, .bool false, .bool false] w fun e w' =>
      (∃ k, k ≤ 15 ∧ (k = 0 ∨ 16 ^ k ≤ n) ∧ n < 16 ^ (k + 1) ∧ e = .returned (.tuple #[.slice none 0 0, .string ⟨(lo (k + 1) n).toArray⟩])) ∧ Below w.heap.size w w' := by
  have hta : ∀ o, TabAt (w.alloc o) := ht.alloc
  have hrow := hid (rowIs_zero w)
  go_enter Tryz.func123, Tryz.ntmps123
  go_wp2_with (first | (go_at_call 144; refine (tz _ (hta _)).mono ?_; rintro e w' ⟨rfl, rfl⟩) | (go_at_call 143; refine (isPow _).mono ?_; rintro e w' ⟨rfl, rfl⟩))
  clear hta
  go_loopw [1, 13] (fun u i wr => ∃ (k j : Nat) (f : Nat → Value), j + k = 65 ∧ k ≤ 15 ∧ (k = 0 ∨ 16 ^ k ≤ n) ∧ u = .int .u64 ((n / 16 ^ k : Nat) : Int) ∧ i = .int .i64 j ∧ Below w.heap.size w wr ∧ wr.rowIs w.heap.size 198 65 f ∧ ∀ m, m < k → f (64 - m) = .int .u8 ((hexc (n / 16 ^ m % 16)).toNat : Int)) (fun u _ _ => (intOf u).toNat)
  case atStart => exact ⟨0, 65, _, rfl, by omega, .inl rfl, by simp, rfl, (Below.refl _ _).alloc (Nat.le_refl _) _, hrow.out, fun m hm => by omega⟩
  case round =>
    obtain ⟨k, j, f, hjk, hk15, hkn, rfl, rfl, hbel, hf, hdig⟩ := hrel
    obtain ⟨u, hu⟩ : ∃ u, u = n / 16 ^ k := ⟨_, rfl⟩
    rw [← hu]
    have Hu := hid hu
    have Hdig := hid hdig
    have Hbel := hid hbel
    have Hkn := hid hkn
    have Hf := hid hf
    have hc : wr.cell? ⟨w.heap.size, j - 1, none⟩ = some (f (j - 1)) := hf.cell (by omega)
    have hfz : wr.frozen? ⟨w.heap.size, j - 1, none⟩ = false := hf.frozen _
    clear hu hdig hbel hkn hf
    have hun : u < 18446744073709551616 := by rw [Hu.out]; exact Nat.lt_of_le_of_lt (Nat.div_le_self _ _) hn
    by_cases h16 : 16 ≤ u
    · have hand := and15 u hun
      have hpb := hid (pow_bound n k u hn Hu.out h16)
      go_wp2
      go_roundw
      case rel =>
        refine ⟨k + 1, j - 1, _, by omega, hpb.out.2, .inr hpb.out.1, ?_, by go_num, Hbel.out.setCell (Nat.le_refl _) _, Hf.out.set _ _, ?_⟩
        · rw [Nat.pow_succ, ← Nat.div_div_eq_div_mul, ← Hu.out]; go_num
        · intro m hm
          by_cases hmk : m = k
          · subst hmk
            rw [if_pos (by omega), hex_at _ (Nat.mod_lt _ (by omega)), Hu.out]
          · rw [if_neg (by omega)]
            exact Hdig.out m (by omega)
      case measure => simp [intOf]; omega
    · have hsl := sl65 w.heap.size j k hjk (by omega)
      have hu36 : u < digits36.size := by have : digits36.size = 36 := rfl; omega
      have hcv := cv65 wr w.heap.size j k n u f hjk (by omega) hu36 (by omega) Hu.out Hf.out Hdig.out
      go_wp2
      go_ret2
      refine ⟨⟨k, hk15, Hkn.out, ?_, rfl⟩, Hbel.out.setCell (Nat.le_refl _) _⟩
      have h1 : n / 16 ^ k < 16 := by rw [← Hu.out]; omega
      rw [Nat.pow_succ, Nat.mul_comm]
      exact (Nat.div_lt_iff_lt_mul (Nat.pow_pos (by omega))).1 h1
set_option maxHeartbeats 400000 in
theorem iFormatInt_any (n : Nat) (hn : n ≤ 4611686018427387904) (w : World) (ht : TabAt w) :
    Calls Tryz.prog 83 #[.int .i64 n, .int .i64 16] w fun e w' =>
      (∃ k, k ≤ 15 ∧ (k = 0 ∨ 16 ^ k ≤ n) ∧ n < 16 ^ (k + 1) ∧ e = .returned (.string ⟨(lo (k + 1) n).toArray⟩)) ∧ Below w.heap.size w w' := by
  have hneg : decide ((n : Int) < 0) = false := by simp
  go_enter Tryz.func83, Tryz.ntmps83
  go_wp2_with (go_at_call 123; refine (formatBits_any n (by omega) _ ht).mono ?_; rintro e w' ⟨⟨k, hk, hk2, hk3, rfl⟩, hb⟩)
  go_ret
  exact ⟨⟨k, hk, hk2, hk3, rfl⟩, hb⟩
set_option maxHeartbeats 400000 in
theorem formatInt_any (n : Nat) (hn : n ≤ 4611686018427387904) (w : World) (ht : TabAt w) :
    Calls Tryz.prog 82 #[.int .i64 n, .int .i64 16] w fun e w' =>
      (∃ k, k ≤ 15 ∧ (k = 0 ∨ 16 ^ k ≤ n) ∧ n < 16 ^ (k + 1) ∧ e = .returned (.string ⟨(lo (k + 1) n).toArray⟩)) ∧ Below w.heap.size w w' := by
  go_enter Tryz.func82, Tryz.ntmps82
  go_wp2_with (go_at_call 83; refine (iFormatInt_any n (by omega) _ ht).mono ?_; rintro e w' ⟨⟨k, hk, hk2, hk3, rfl⟩, hb⟩)
  go_ret
  exact ⟨⟨k, hk, hk2, hk3, rfl⟩, hb⟩
def letr (k : Nat) : UInt8 := UInt8.ofNat (98 + k)
def numT (n : Nat) : List UInt8 := if n = 0 then [97] else letr (n.log2 / 4) :: lo (n.log2 / 4 + 1) n
theorem log_of (n k : Nat) (h0 : n ≠ 0) (h1 : k = 0 ∨ 16 ^ k ≤ n) (h2 : n < 16 ^ (k + 1)) : n.log2 / 4 = k := by
  have e1 : (16 : Nat) ^ (k + 1) = 2 ^ (4 * (k + 1)) := by rw [Nat.pow_mul]
  have e2 : (16 : Nat) ^ k = 2 ^ (4 * k) := by rw [Nat.pow_mul]
  have a := (Nat.log2_lt h0).2 (e1 ▸ h2)
  have b : 4 * k ≤ n.log2 := by
    rcases h1 with rfl | h1
    · omega
    · exact (Nat.le_log2 h0).2 (e2 ▸ h1)
  omega
set_option maxHeartbeats 400000 in
theorem number_zero (w : World) :
    Calls Tryz.prog 67 #[.int .i64 0] w fun e w' => e = .returned (.tuple #[.string ⟨(numT 0).toArray⟩, .int .i64 0]) ∧ w' = w := by
  go_enter Tryz.func67, Tryz.ntmps67
  go_wp2
  go_ret2
  exact ⟨rfl, rfl⟩
theorem enc_fin : ∀ k : Fin 16, (Utf8.encode (97 + ((k.val : Int) + 1))).data.toList = [letr k.val] := by decide +kernel
theorem enc_at (k : Nat) (hk : k ≤ 15) : Utf8.encode (97 + ((k : Int) + 1)) = ⟨#[letr k]⟩ :=
  (Lib.mk_data (Utf8.encode (97 + ((k : Int) + 1)))).symm.trans (congrArg (fun l : List UInt8 => (⟨l.toArray⟩ : ByteArray)) (enc_fin ⟨k, by omega⟩))
set_option maxHeartbeats 400000 in
theorem number_pos (n : Nat) (h0 : 0 < n) (h : n ≤ 4611686018427387904) (w : World) (ht : TabAt w) :
    Calls Tryz.prog 67 #[.int .i64 n] w fun e w' => e = .returned (.tuple #[.string ⟨(numT n).toArray⟩, .int .i64 0]) ∧ Below w.heap.size w w' := by
  have d1 : decide ((n : Int) < 0) = false := by simp
  have d2 : decide (4611686018427387904 < (n : Int)) = false := by simp; omega
  have d3 : ((n : Int) == 0) = false := by rw [beq_eq_false_iff_ne]; omega
  go_enter Tryz.func67, Tryz.ntmps67
  go_wp2_with (go_at_call 82; refine (formatInt_any n (by omega) _ ht).mono ?_; rintro e w' ⟨⟨k, hk, hk2, hk3, rfl⟩, hb⟩; have hl := lo_length (k + 1) n; have henc := enc_at k hk; have Hk := hid hk2; clear hk2)
  go_ret2
  refine ⟨ret_two (congrArg Value.string ?_) rfl, hb⟩
  unfold numT
  rw [if_neg (by omega), log_of n k (by omega) Hk.out hk3]
  apply ByteArray.ext
  simp [ByteArray.data_append]
end Go.Proofs.YtomhcccjeadefaaGreatDoor
