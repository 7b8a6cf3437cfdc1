/- Texts of numbers by weak contracts: that they end, with a short text. state.Text, ScopesText, Texts. -/
import Derived.Test.YtmnhhomkglffcaaGreatDoorKNumT
import Derived.Test.YtmnhhomkglffcaaGreatDoorKComm
import Derived.Maps.AppendAt
namespace Go.Proofs.YtmnhhomkglffcaaGreatDoor
open Go.RowKit
set_option linter.unusedVariables false
set_option maxRecDepth 20000
theorem TabAt.below {w w' : World} (h : TabAt w) (hb : Below w.heap.size w w') : TabAt w' := by
  unfold TabAt at h ⊢
  exact (hb.cell (World.block_lt_of_cell? _ _ h)).trans h
theorem numT_size (n : Nat) (h : n ≤ 4611686018427387904) : (⟨(numT n).toArray⟩ : ByteArray).size ≤ 100 := by
  show (numT n).toArray.size ≤ 100
  unfold numT
  split
  · decide
  · rw [List.size_toArray, List.length_cons, lo_length]
    have := (Nat.log2_lt (by omega)).2 (show n < 2 ^ 63 by omega)
    omega
theorem number_weak (n : Int) (w : World) (ht : TabAt w) : Calls Tryz.prog 88 #[.int .i64 n] w fun e w' => ∃ (t : ByteArray) (z : Int), t.size ≤ 100 ∧ e = .returned (.tuple #[.string t, .int .i64 z]) ∧ Below w.heap.size w w' := by
  by_cases h1 : n < 0
  · refine (number_low n h1 w).mono ?_
    rintro e w' ⟨rfl, rfl⟩
    exact ⟨_, _, by decide, rfl, Below.refl _ _⟩
  · by_cases h2 : 4611686018427387904 < n
    · refine (number_high n h2 w).mono ?_
      rintro e w' ⟨rfl, rfl⟩
      exact ⟨_, _, by decide, rfl, Below.refl _ _⟩
    · by_cases h3 : n = 0
      · subst h3
        refine (number_zero w).mono ?_
        rintro e w' ⟨rfl, rfl⟩
        exact ⟨_, _, by decide, rfl, Below.refl _ _⟩
      · obtain ⟨m, rfl⟩ : ∃ m : Nat, n = m := ⟨n.toNat, by omega⟩
        refine (number_pos m (by omega) (by omega) w ht).mono ?_
        rintro e w' ⟨rfl, hb⟩
        exact ⟨_, _, numT_size m (by omega), rfl, hb⟩
set_option maxHeartbeats 400000 in
theorem text_weak (n : Int) (w : World) (ht : TabAt w) : Calls Tryz.prog 76 #[.int .i64 n] w fun e w' => ∃ t : ByteArray, t.size ≤ 100 ∧ e = .returned (.string t) ∧ Below w.heap.size w w' := by
  have hn := number_weak n w ht
  go_enter Tryz.func76, Tryz.ntmps76
  go_wp2_with (go_at_call 88; refine hn.mono ?_; rintro e w1 ⟨t, z, hs, rfl, hb⟩)
  go_ret
  exact ⟨t, hs, rfl, hb⟩
set_option maxHeartbeats 400000 in
theorem scopesText_weak (n : Int) (h0 : 0 ≤ n ∧ n ≤ 255) (w : World) (ht : TabAt w) : Calls Tryz.prog 78 #[.int .u8 n] w fun e w' => ∃ t : ByteArray, t.size ≤ 100 ∧ e = .returned (.string t) ∧ Below w.heap.size w w' := by
  have hn := fun m => text_weak m w ht
  go_enter Tryz.func78, Tryz.ntmps78
  go_wp2_with (go_at_call 76; refine (hn _).mono ?_; rintro e w1 ⟨t, hs, rfl, hb⟩)
  go_ret
  exact ⟨t, hs, rfl, hb⟩
theorem Tryz.info9 : (Tryz.prog.info? 9).map (fun i => (i.zero, i.size, i.bytes)) = some (some (.string ⟨#[]⟩), 1, 16) := by kernel_rfl
/-- append(v, s), v a row of texts of the call's own -/
theorem app_text (w : World) {ops : Array Oper} {rest : List Oper} {o : Oper} {a : Act} {Q : Exit → Act → World → Prop} (hgd : o.guard = none) (sl x : Operand)
    (ho : o.op = .call { callee := .builtin .append, args := #[sl, x], argTypes := #[83, 83] }) (base : Nat) (v : Value) (n : Nat) (xs : List Value) (hs : a.eval sl = v)
    (hown : w.ownsRow base 9 1 v n xs) (s : ByteArray) (hx : a.eval x = .slice (some ⟨w.heap.size, 0, none⟩) 1 1) (hb : (n + 1) * 16 ≤ 140737488355328) (hbase : base ≤ w.heap.size)
    (h : ∀ v' w' ys, w'.ownsRow base 9 1 v' (n + 1) ys → Below base w w' → wpList Tryz.prog ops Q rest (a.put o.dst v') w') :
    wpList Tryz.prog ops Q (o :: rest) a (w.alloc (.cells #[.string s] 9)) := by
  obtain ⟨i0, hi, hz0, hz1, hz2⟩ := info_parts Tryz.info9
  refine wpList_append_own _ hgd sl x 83 ho base 9 i0 (.string ⟨#[]⟩) 1 16 Tryz.underlying83 hi hz0 hz1 hz2 rfl (by decide) v n xs hs (hown.alloc _) ⟨w.heap.size, 0, none⟩ 1 1 [.string s] hx rfl (cell_one_new _ _ _) (fun u hu => by simp at hu; subst hu; rfl) (by unfold maxLen; omega) (by omega) (by simp; omega) ?_
  intro v' w' h1 h2 h3
  exact h v' w' _ h1 (((Below.refl _ _).alloc hbase _).trans ((Below.refl _ _).grown h2 (by simp; omega) (fun k hk => (hown.lt k hk).1)))
theorem own_onW {w w' : World} {B e s n : Nat} {v : Value} {xs : List Value} (h : w.ownsRow B e s v n xs) (hb : Below w.heap.size w w') : w'.ownsRow B e s v n xs := by
  refine ⟨h.1, ?_⟩
  rcases h.2 with h0 | ⟨g, cap, cur, hv, hg, hgb, r⟩
  · exact .inl h0
  · exact .inr ⟨g, cap, cur, hv, hg, (hb.block _ (Array.getElem?_eq_some_iff.1 hgb).1).trans hgb, r⟩
theorem slice_of_own {w : World} {B e s n : Nat} {v : Value} {xs : List Value} (h : w.ownsRow B e s v n xs) : ∃ a c, v = .slice a n c := by
  rcases h.2 with ⟨rfl, h0⟩ | ⟨g, cap, cur, rfl, _⟩
  · exact ⟨none, 0, by rw [h0]⟩
  · exact ⟨_, _, rfl⟩
set_option maxHeartbeats 1000000 in
theorem texts_weak (w : World) {a : Option Addr} {l : List Int} (hl : Ints w a l) (cap : Nat) (hlen : l.length ≤ 1000) (ht : TabAt w) :
    Calls Tryz.prog 42 #[.slice a l.length cap] w fun e w' => ∃ a c, e = .returned (.slice a l.length c) ∧ Below w.heap.size w w' := by
  have HL := hid hl
  have HT := hid ht
  obtain ⟨N, hN⟩ : ∃ N, N = l.length := ⟨_, rfl⟩
  rw [← hN] at hlen ⊢
  have HN := hid hN
  clear hl ht hN
  go_enter Tryz.func42, Tryz.ntmps42
  go_wp2_with fail
  go_loopw [3, 8] (fun v i wr => ∃ k : Nat, k ≤ N ∧ i = .int .i64 (k : Int) ∧ (∃ xs, wr.ownsRow w.heap.size 9 1 v k xs) ∧ Below w.heap.size w wr) (fun _ i _ => N - (intOf i).toNat)
  case atStart => exact ⟨0, Nat.zero_le _, rfl, ⟨_, World.ownsRow_nil _ _ _ _⟩, Below.refl _ _⟩
  case round =>
    obtain ⟨k, hk, rfl, ⟨xs, hown⟩, hbel⟩ := hrel
    have Hown := hid hown
    have Hbel := hid hbel
    have hle := hbel.size
    clear hown hbel
    by_cases hlt : k < N
    · have g1 : (k : Int) < (N : Int) := by omega
      obtain ⟨b, o, ea, c0⟩ := (HL.out.below Hbel.out) k (by have := HN.out; omega)
      cases ea
      generalize l[k]'(by have := HN.out; omega) = m at *
      have HC := hid (text_weak m wr (HT.out.below Hbel.out))
      go_wp2_with (first
        | (go_at_call 76; refine HC.out.mono ?_; rintro e w1 ⟨t, hs, rfl, hb2⟩; have Hown1 := hid (own_onW Hown.out hb2); have Hb2 := hid hb2; clear hb2)
        | (at_builtin; refine app_text _ rfl (.tmp 12) (.tmp 15) rfl w.heap.size _ k xs rfl Hown1.out t rfl (by omega) (Nat.le_trans hle Hb2.out.size) ?_; intro v' w' ys hown' hb'; have Hown' := hid hown'; have Hb' := hid hb'; clear hown' hb'))
      go_roundw
      case rel => exact ⟨k + 1, by omega, by go_num, ⟨ys, Hown'.out⟩, (Below.on' Hbel.out Hb2.out).trans Hb'.out⟩
      case measure => simp [intOf]; omega
    · have hkl : k = N := by omega
      have g1 : ¬ (k : Int) < (N : Int) := by omega
      obtain ⟨a9, c9, e9⟩ := slice_of_own Hown.out
      have E9 := hid e9
      clear e9
      go_wp2
      go_ret
      exact ⟨⟨a9, c9, by subst hkl; exact congrArg Ending.returned E9.out⟩, Hbel.out⟩
end Go.Proofs.YtmnhhomkglffcaaGreatDoor
