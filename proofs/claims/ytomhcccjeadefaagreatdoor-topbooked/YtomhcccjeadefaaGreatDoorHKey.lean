/- Keys of parts: codec.Key, beside the texts on hashes. -/
import Derived.Test.YtomhcccjeadefaaGreatDoorHTag
import Derived.Test.YtomhcccjeadefaaGreatDoorKeyMath
import Derived.Lib.Bytealg
import Derived.Lib.Strings
import Derived.Deep.OwnRows
namespace Go.Proofs.YtomhcccjeadefaaGreatDoor
open Go.RowKit
set_option linter.unusedVariables false
set_option maxRecDepth 20000
theorem take_snoc (s : ByteArray) (k : Nat) (h : k < s.size) : s.data.toList.take (k + 1) = s.data.toList.take k ++ [s[k]] := by
  rw [List.take_succ_eq_append_getElem (by simpa using h)]; rfl
theorem take_all (s : ByteArray) : s.data.toList.take s.size = s.data.toList := List.take_of_length_le (by simp)
def Texts (w : World) (a : Option Addr) (l : List ByteArray) : Prop := ∀ i (h : i < l.length), ∃ b o, a = some ⟨b, o, none⟩ ∧ w.cell? ⟨b, o + i, none⟩ = some (.string l[i])
theorem Texts.below {w w' : World} {a : Option Addr} {l : List ByteArray} (h : Texts w a l) (hb : Below w.heap.size w w') : Texts w' a l := fun i hi => by
  obtain ⟨b, o, ha, hc⟩ := h i hi
  exact ⟨b, o, ha, (hb.cell (World.block_lt_of_cell? _ _ hc)).trans hc⟩
def cnt0 (s : ByteArray) : Nat := s.data.toList.count 0
set_option maxHeartbeats 400000 in
theorem count_any (s : ByteArray) (w : World) :
    Calls Tryz.prog 99 #[.string s, .string ⟨#[0]⟩] w fun e w' => e = .returned (.int .i64 (cnt0 s : Int)) ∧ w' = w := by
  go_enter Tryz.func99, Tryz.ntmps99
  go_wp2
  rw [run_callFunc_extern Tryz.func131 (by kernel_rfl) (by kernel_rfl) (by kernel_rfl) (e := Extern.BytealgCount.count) (by kernel_rfl), Lib.run_countString]
  simp only [Result.andThen]
  rw [Oper.upon_value]
  go_wp2
  go_ret
  exact ⟨rfl, rfl⟩
def bs (l : List ByteArray) : List (List UInt8) := l.map fun s => s.data.toList
theorem esc_length (p : List UInt8) : (esc p).length = p.length + p.count 0 := by
  induction p with
  | nil => rfl
  | cons c p ih =>
    by_cases hc : c = 0
    · simp [esc, hc, ih]; omega
    · simp [esc, hc, ih]; omega
theorem key_snoc (l : List ByteArray) (k : Nat) (h : k < l.length) : (keyOf (bs (l.take (k + 1)))).length = (keyOf (bs (l.take k))).length + (l[k].size + cnt0 l[k] + 2) := by
  rw [List.take_succ_eq_append_getElem h]
  simp only [bs, List.map_append, key_append, List.length_append, List.map_cons, List.map_nil, keyOf, esc_length, List.length_cons, List.length_nil]
  rw [← Lib.size_eq]
  rfl
theorem key_bound (l : List ByteArray) (hsz : ∀ s ∈ l, s.size ≤ 140737488351232) (k : Nat) (hk : k ≤ l.length) : (keyOf (bs (l.take k))).length ≤ k * 281474976702466 := by
  induction k with
  | zero => simp [bs, keyOf]
  | succ k ih =>
    have h1 := ih (by omega)
    have h2 := hsz l[k] (List.getElem_mem _)
    have h3 : cnt0 l[k] ≤ l[k].size := by unfold cnt0; rw [Lib.size_eq]; exact List.count_le_length
    rw [key_snoc l k (by omega)]
    omega
set_option maxHeartbeats 400000 in
theorem keySize_any (l : List ByteArray) (a : Option Addr) (cap : Nat) (w : World) (hT : Texts w a l) (h8 : l.length ≤ 8) (hsz : ∀ s ∈ l, s.size ≤ 140737488351232) :
    Calls Tryz.prog 95 #[.slice a l.length cap] w fun e w' => e = .returned (.int .i64 ((keyOf (bs l)).length : Int)) ∧ w' = w := by
  have HT := hid hT
  clear hT
  go_enter Tryz.func95, Tryz.ntmps95
  go_wp2_with fail
  go_loop [3, 8] (fun z i => ∃ k : Nat, k ≤ l.length ∧ i = .int .i64 k ∧ z = .int .i64 ((keyOf (bs (l.take k))).length : Int)) (fun _ i => l.length - (intOf i).toNat)
  case atStart => exact ⟨0, Nat.zero_le _, rfl, rfl⟩
  case round =>
    obtain ⟨k, hk, rfl, rfl⟩ := hrel
    have hb := key_bound l hsz k hk
    obtain ⟨z, hz⟩ : ∃ z, z = (keyOf (bs (l.take k))).length := ⟨_, rfl⟩
    rw [← hz] at hb ⊢
    have Hz := hid hz
    clear hz
    by_cases hlt : k < l.length
    · obtain ⟨b, o, ha, hc⟩ := HT.out k hlt
      have h2 := hsz (l[k]'hlt) (List.getElem_mem _)
      have h3 : cnt0 (l[k]'hlt) ≤ (l[k]'hlt).size := by unfold cnt0; rw [Lib.size_eq]; exact List.count_le_length
      have Hs := hid (key_snoc l k hlt)
      generalize (l[k]'hlt) = s at hc h2 h3 Hs
      subst ha
      go_wp2_with (go_at_call 99; refine (count_any _ _).mono ?_; rintro e w' ⟨rfl, rfl⟩)
      go_round
      case rel => exact ⟨k + 1, by omega, by go_num, congrArg (Value.int .i64) (by rw [Hs.out, ← Hz.out]; omega)⟩
      case measure => simp [intOf]; omega
    · go_wp2
      go_ret
      refine ⟨ret_int ?_, rfl⟩
      have hk' : k = l.length := by omega
      rw [Hz.out, hk', List.take_length]
theorem esc_take (s : ByteArray) (k : Nat) (h : k < s.size) : esc (s.data.toList.take (k + 1)) = esc (s.data.toList.take k) ++ if s[k]'h = 0 then [0, 255] else [s[k]'h] := by
  rw [take_snoc s k h, esc_append]
  by_cases h0 : s[k]'h = 0 <;> simp [esc, h0]
set_option maxHeartbeats 400000 in
theorem appendPart_any (base : Nat) (v : Value) (xs : List UInt8) (s : ByteArray) (w : World) (hown : w.ownsRow base 5 1 v xs.length (cellsOf xs)) (hbase : base ≤ w.heap.size)
    (hs : s.size ≤ 64) (hx : xs.length ≤ 64) :
    Calls Tryz.prog 96 #[v, .string s] w fun e w' => ∃ v', e = .returned v' ∧ w'.ownsRow base 5 1 v' (xs ++ esc s.data.toList ++ [0, 1]).length (cellsOf (xs ++ esc s.data.toList ++ [0, 1])) ∧ Below base w w' := by
  have Hown := hid hown
  clear hown
  go_enter Tryz.func96, Tryz.ntmps96
  go_wp2_with fail
  go_loopw [0, 8] (fun v i wr => ∃ k : Nat, k ≤ s.size ∧ i = .int .i64 k ∧ wr.ownsRow base 5 1 v (xs ++ esc (s.data.toList.take k)).length (cellsOf (xs ++ esc (s.data.toList.take k))) ∧ Below base w wr) (fun _ i _ => s.size - (intOf i).toNat)
  case atStart => exact ⟨0, Nat.zero_le _, rfl, by simpa [esc] using Hown.out, Below.refl _ _⟩
  case round =>
    obtain ⟨k, hk, rfl, hownr, hbel⟩ := hrel
    have hyl : (xs ++ esc (s.data.toList.take k)).length ≤ 64 + 2 * k := by
      rw [List.length_append, esc_length]
      have h1 : (s.data.toList.take k).length ≤ k := List.length_take_le _ _
      have h2 : (s.data.toList.take k).count 0 ≤ (s.data.toList.take k).length := List.count_le_length
      omega
    have hsz := hbel.size
    by_cases hlt : k < s.size
    · have Hesc := hid (esc_take s k hlt)
      obtain ⟨c, hc⟩ : ∃ c, s[k]'hlt = c := ⟨_, rfl⟩
      rw [hc] at Hesc
      generalize hys : xs ++ esc (s.data.toList.take k) = ys at hownr hyl
      have Hys := hid hys
      clear hys
      have Hownr := hid hownr
      clear hownr
      by_cases h0 : c = 0
      · subst h0
        go_wp2_with (first | (at_builtin; refine app_lits _ rfl (.tmp 11) (.tmp 15) rfl base _ ys rfl Hownr.out [0] 1 rfl rfl (by omega) (by omega) ?_; intro v1 w1 ho1 hb1 hs1) | (at_builtin; refine app_lits _ rfl (.tmp 21) (.tmp 22) rfl base _ (ys ++ [0]) rfl ho1 [255] 1 rfl rfl (by simp; omega) (by have := hb1.size; omega) ?_; intro v2 w2 ho2 hb2 hs2))
        go_roundw
        case rel =>
          refine ⟨k + 1, by omega, by go_num, ?_, hbel.trans (hb1.trans hb2)⟩
          rw [Hesc.out, if_pos rfl, ← List.append_assoc, Hys.out]
          simpa using ho2
        case measure => simp [intOf]; omega
      · have hne : ((c.toNat : Int) == 0) = false := by
          rw [beq_eq_false_iff_ne]
          intro e
          exact h0 (UInt8.toNat_inj.1 (by simpa using e))
        go_wp2_with (at_builtin; refine app_lits _ rfl (.tmp 11) (.tmp 15) rfl base _ ys rfl Hownr.out [c] 1 rfl rfl (by omega) (by omega) ?_; intro v1 w1 ho1 hb1 hs1)
        go_roundw
        case rel =>
          refine ⟨k + 1, by omega, by go_num, ?_, hbel.trans hb1⟩
          rw [Hesc.out, if_neg h0, ← List.append_assoc, Hys.out]
          exact ho1
        case measure => simp [intOf]; omega
    · go_wp2_with (at_builtin; refine app_lits _ rfl (.tmp 25) (.tmp 26) rfl base _ _ rfl hownr [0, 1] 2 rfl rfl (by omega) (by omega) ?_; intro v1 w1 ho1 hb1 hs1)
      go_ret
      have hk' : k = s.size := by omega
      rw [hk', take_all] at ho1
      exact ⟨_, rfl, ho1, hbel.trans hb1⟩
def keyErr (l : List ByteArray) : Nat := if l.length < 1 ∨ 8 < l.length then 2 else if 64 < (keyOf (bs l)).length then 6 else 0
def keyRes (l : List ByteArray) : List UInt8 := if keyErr l = 0 then keyOf (bs l) else []
theorem key_le (l : List ByteArray) (k : Nat) (h : k < l.length) : (keyOf (bs (l.take k))).length + l[k].size + 2 ≤ (keyOf (bs l)).length := by
  have h1 := key_snoc l k h
  have h2 : (keyOf (bs (l.take (k + 1)))).length ≤ (keyOf (bs l)).length := by
    have : keyOf (bs l) = keyOf (bs (l.take (k + 1))) ++ keyOf (bs (l.drop (k + 1))) := by
      rw [← key_append]
      congr 1
      unfold bs
      rw [← List.map_append, List.take_append_drop]
    rw [this, List.length_append]
    omega
  omega
theorem key_step (l : List ByteArray) (k : Nat) (h : k < l.length) : keyOf (bs (l.take (k + 1))) = keyOf (bs (l.take k)) ++ esc l[k].data.toList ++ [0, 1] := by
  rw [List.take_succ_eq_append_getElem h]
  simp only [bs, List.map_append, key_append, List.map_cons, List.map_nil, keyOf, List.append_assoc]
set_option maxHeartbeats 400000 in
theorem key_any (l : List ByteArray) (a : Option Addr) (cap : Nat) (w : World) (hT : Texts w a l) (hsz : ∀ s ∈ l, s.size ≤ 140737488351232) (hlen : l.length ≤ 140737488351232) :
    Calls Tryz.prog 72 #[.slice a l.length cap] w fun e w' => ∃ a' cap', e = .returned (.tuple #[.slice a' (keyRes l).length cap', .int .i64 (keyErr l : Int)]) ∧ Bytes w' a' (keyRes l) ∧ Below w.heap.size w w' ∧ (keyRes l).length ≤ cap' := by
  by_cases h1 : l.length < 1
  · have e1 : keyErr l = 2 := by unfold keyErr; rw [if_pos (.inl h1)]
    have e2 : keyRes l = [] := by unfold keyRes; rw [e1, if_neg (by omega)]
    rw [e1, e2]
    have d1 : decide ((l.length : Int) < 1) = true := by simp; omega
    go_enter Tryz.func72, Tryz.ntmps72
    go_wp2
    go_ret2
    exact ⟨none, 0, rfl, fun i hi => by simp at hi, Below.refl _ _, Nat.le_refl _⟩
  have d1 : decide ((l.length : Int) < 1) = false := by simp; omega
  by_cases h8 : 8 < l.length
  · have e1 : keyErr l = 2 := by unfold keyErr; rw [if_pos (.inr h8)]
    have e2 : keyRes l = [] := by unfold keyRes; rw [e1, if_neg (by omega)]
    rw [e1, e2]
    have d2 : decide (8 < (l.length : Int)) = true := by simp; omega
    go_enter Tryz.func72, Tryz.ntmps72
    go_wp2
    go_ret2
    exact ⟨none, 0, rfl, fun i hi => by simp at hi, Below.refl _ _, Nat.le_refl _⟩
  have d2 : decide (8 < (l.length : Int)) = false := by simp; omega
  have HT := hid hT
  by_cases h64 : 64 < (keyOf (bs l)).length
  · have e1 : keyErr l = 6 := by unfold keyErr; rw [if_neg (by omega), if_pos h64]
    have e2 : keyRes l = [] := by unfold keyRes; rw [e1, if_neg (by omega)]
    rw [e1, e2]
    clear hT
    go_enter Tryz.func72, Tryz.ntmps72
    go_wp2_with (go_at_call 95; refine (keySize_any l a cap _ HT.out (by omega) hsz).mono ?_; rintro e w' ⟨rfl, rfl⟩)
    go_ret2
    exact ⟨none, 0, rfl, fun i hi => by simp at hi, Below.refl _ _, Nat.le_refl _⟩
  have e1 : keyErr l = 0 := by unfold keyErr; rw [if_neg (by omega), if_neg h64]
  have e2 : keyRes l = keyOf (bs l) := by unfold keyRes; rw [e1, if_pos rfl]
  rw [e1, e2]
  clear hT e1 e2
  have Hsz := hid hsz
  clear hsz
  generalize hN : (keyOf (bs l)).length = N at h64
  have HN := hid hN
  clear hN
  have d3 : decide (64 < (N : Int)) = false := by simp; omega
  obtain ⟨i0, hi, hz0, hz1, hz2⟩ := info_parts Tryz.info5
  go_enter Tryz.func72, Tryz.ntmps72
  go_wp2_with (first | (go_at_call 95; refine (keySize_any l a cap _ HT.out (by omega) Hsz.out).mono ?_; rintro e w' ⟨rfl, hw'⟩; rw [HN.out, hw']; clear hw' w') | (at_make; refine wpList_make_own _ rfl (.const (.int .i64 0)) (.tmp 20) 29 rfl w.heap.size 5 i0 (.int .u8 0) 1 Tryz.underlying29 hi hz0 hz1 .i64 .i64 _ N rfl rfl rfl (by rw [hz2]; omega) (by unfold maxLen; omega) (Nat.le_refl _) ?_; intro w1 ho1 hg1))
  have Hb1 := hid ((Below.refl w.heap.size w).grown hg1 (Nat.le_refl _) (fun k hk => by cases hk))
  have Ho1 := hid ho1
  clear ho1 hg1
  go_loopw [5, 24] (fun v i wr => ∃ k : Nat, k ≤ l.length ∧ i = .int .i64 k ∧ wr.ownsRow w.heap.size 5 1 v (keyOf (bs (l.take k))).length (cellsOf (keyOf (bs (l.take k)))) ∧ Below w.heap.size w wr) (fun _ i _ => l.length - (intOf i).toNat)
  case atStart => exact ⟨0, Nat.zero_le _, rfl, Ho1.out, Hb1.out⟩
  case round =>
    obtain ⟨k, hk, rfl, hownr, hbel⟩ := hrel
    have Hownr := hid hownr
    have hszr := hbel.size
    clear hownr
    by_cases hlt : k < l.length
    · obtain ⟨b, o, ha, hc⟩ := (HT.out.below hbel) k hlt
      have hkl := key_le l k hlt
      rw [HN.out] at hkl
      have Hstep := hid (key_step l k hlt)
      generalize (l[k]'hlt) = s at hc hkl Hstep
      subst ha
      go_wp2_with (go_at_call 96; refine (appendPart_any w.heap.size _ _ s _ Hownr.out (by omega) (by omega) (by omega)).mono ?_; rintro e w2 ⟨v2, rfl, ho2, hb2⟩)
      go_roundw
      case rel => exact ⟨k + 1, by omega, by go_num, by rw [Hstep.out]; exact ho2, hbel.trans hb2⟩
      case measure => simp [intOf]; omega
    · go_wp2
      go_ret2
      have hk' : k = l.length := by omega
      have ho := Hownr.out
      rw [hk', List.take_length] at ho
      obtain ⟨a', cap', rfl, hB, hcap⟩ := bytes_of_own ho
      exact ⟨a', cap', by rw [← HN.out]; rfl, hB, hbel, by rw [← HN.out]; exact hcap⟩
end Go.Proofs.YtomhcccjeadefaaGreatDoor
