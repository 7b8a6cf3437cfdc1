/- The reference's ToNumber, by a contract. -/
import Derived.Test.YthfmpebgmojcaaaDoorZRows
namespace Go.Proofs.YthfmpebgmojcaaaDoor
open Go.RowKit
theorem hex_cases (c : Nat) : ((dv c).isSome = true ∧ ((48 ≤ (c : Int) ∧ (c : Int) ≤ 57) ∨ (97 ≤ (c : Int) ∧ (c : Int) ≤ 102))) ∨
    ((dv c).isSome = false ∧ ((c : Int) < 48 ∨ (57 < (c : Int) ∧ (c : Int) < 97) ∨ 102 < (c : Int))) := by
  unfold dv
  by_cases h1 : 48 ≤ c ∧ c ≤ 57
  · rw [if_pos h1]; exact .inl ⟨rfl, .inl (by omega)⟩
  rw [if_neg h1]
  by_cases h2 : 97 ≤ c ∧ c ≤ 102
  · rw [if_pos h2]; exact .inl ⟨rfl, .inr (by omega)⟩
  rw [if_neg h2]
  exact .inr ⟨rfl, by omega⟩
theorem getElem_list (s : ByteArray) (k : Nat) (h : k < s.size) : s.data.toList[k]? = some s[k] := by
  rw [List.getElem?_eq_getElem (by simpa using h)]; rfl
def Seen (l : List UInt8) (k : Nat) : Prop := ((l.take k).drop 1).all hexB = true ∧ (2 ≤ k → l[1]? ≠ some 48)
theorem seen_one (l : List UInt8) : Seen l 1 := by
  refine ⟨?_, fun h => by omega⟩
  cases l <;> simp
theorem seen_step (s : ByteArray) (k : Nat) (h : k < s.size) (h1 : 1 ≤ k) (hs : Seen s.data.toList k) (hx : (dv (s[k]'h).toNat).isSome = true) (hf : k = 1 → s[k]'h ≠ 48) : Seen s.data.toList (k + 1) := by
  have hlen : s.data.toList.length = s.size := (Lib.size_eq s).symm
  refine ⟨?_, fun _ => ?_⟩
  · rw [take_snoc s k h, List.drop_append_of_le_length (by simp; omega), List.all_append, hs.1]
    simp [hexB, hx]
  · by_cases hk : k = 1
    · subst hk
      rw [getElem_list s 1 h]
      intro e
      exact hf rfl (by simpa using e)
    · exact hs.2 (by omega)
theorem all_drop (s : ByteArray) (f : UInt8 → Bool) (k : Nat) (h : k < s.size) (h1 : 1 ≤ k) (hf : f (s[k]'h) = false) : (s.data.toList.drop 1).all f = false := by
  have hlen : s.data.toList.length = s.size := (Lib.size_eq s).symm
  rw [← Bool.not_eq_true, List.all_eq_true]
  intro hall
  have := hall (s[k]'h) (by
    have e : (s.data.toList.drop 1)[k - 1]? = some (s[k]'h) := by
      rw [List.getElem?_drop, show 1 + (k - 1) = k by omega]
      exact getElem_list s k h
    exact List.mem_of_getElem? e)
  rw [hf] at this
  cases this
theorem dig_one (l : List UInt8) : 0 = digV 0 ((l.take 1).drop 1) := by cases l <;> simp [digV]
theorem digV_mono (l : List UInt8) (n : Nat) : n ≤ digV n l := by
  induction l generalizing n with
  | nil => exact Nat.le_refl _
  | cons c l ih => exact Nat.le_trans (by omega) (ih (n * 16 + (dv c.toNat).getD 0))
theorem dig_step (s : ByteArray) (k : Nat) (h : k < s.size) (h1 : 1 ≤ k) (m : Nat) (hm : m = digV 0 ((s.data.toList.take k).drop 1)) :
    m * 16 + (dv (s[k]'h).toNat).getD 0 = digV 0 ((s.data.toList.take (k + 1)).drop 1) := by
  have hlen : s.data.toList.length = s.size := (Lib.size_eq s).symm
  rw [take_snoc s k h, List.drop_append_of_le_length (by simp; omega), digV_snoc, ← hm]
theorem dig_ge (s : ByteArray) (k : Nat) (h : k < s.size) (h1 : 1 ≤ k) (m : Nat) (hm : m = digV 0 ((s.data.toList.take k).drop 1)) :
    m * 16 + (dv (s[k]'h).toNat).getD 0 ≤ digV 0 (s.data.toList.drop 1) := by
  rw [dig_step s k h h1 m hm]
  have e : s.data.toList.drop 1 = (s.data.toList.take (k + 1)).drop 1 ++ s.data.toList.drop (k + 1) := by
    have hlen : s.data.toList.length = s.size := (Lib.size_eq s).symm
    rw [← List.drop_append_of_le_length (by simp; omega), List.take_append_drop]
  rw [e]
  have : digV 0 ((s.data.toList.take (k + 1)).drop 1 ++ s.data.toList.drop (k + 1)) = digV (digV 0 ((s.data.toList.take (k + 1)).drop 1)) (s.data.toList.drop (k + 1)) := by simp [digV]
  rw [this]
  exact digV_mono _ _
set_option maxHeartbeats 1000000 in
theorem refToNumber_any (s : ByteArray) (w : World) (hs : s.size ≤ maxLen) :
    Calls Tryd.prog 34 #[.string s] w fun e w' => e = .returned (.tuple #[.int .i64 ((toNum s.data.toList).1 : Int), .int .i64 ((toNum s.data.toList).2 : Int)]) ∧ w' = w := by
  unfold maxLen at hs
  have hlen : s.data.toList.length = s.size := (Lib.size_eq s).symm
  by_cases h0 : s.size = 0
  · have e : toNum s.data.toList = (0, 3) := by unfold toNum; rw [hlen, if_pos (.inl h0)]
    rw [e]
    have d1 : decide (((s.size : Nat) : Int) < 1) = true := by simp; omega
    clear e hlen h0
    go_enter Tryd.func34, Tryd.ntmps34
    go_wp2
    go_ret2
    exact ⟨rfl, rfl⟩
  have d1 : decide (((s.size : Nat) : Int) < 1) = false := by simp; omega
  by_cases h17 : 17 < s.size
  · have e : toNum s.data.toList = (0, 3) := by unfold toNum; rw [hlen, if_pos (.inr h17)]
    rw [e]
    have d2 : decide (17 < ((s.size : Nat) : Int)) = true := by simp; omega
    clear e hlen
    go_enter Tryd.func34, Tryd.ntmps34
    go_wp2
    go_ret2
    exact ⟨rfl, rfl⟩
  have d2 : decide (17 < ((s.size : Nat) : Int)) = false := by simp; omega
  have hpos : 0 < s.size := Nat.pos_of_ne_zero h0
  have hs0 : s.data.toList.headD 0 = s[0]'hpos := by
    cases hh : s.data.toList with
    | nil => rw [hh] at hlen; simp at hlen; omega
    | cons c r =>
      have : s[0]'hpos = s.data.toList[0]'(by omega) := rfl
      rw [this]
      simp [hh]
  obtain ⟨c0, hc0⟩ : ∃ c0, c0 = s[0]'hpos := ⟨_, rfl⟩
  have E : Hid (toNum s.data.toList = if c0.toNat ≠ 96 + s.size ∨ (s.data.toList.drop 1).head? = some 48 then (0, 3) else if (s.data.toList.drop 1).all hexB = false then (0, 3) else if 4611686018427387904 < digV 0 (s.data.toList.drop 1) then (0, 2) else (digV 0 (s.data.toList.drop 1), 0)) := by
    unfold toNum Hid
    rw [hlen, if_neg (by omega), hs0, hc0]
  generalize toNum s.data.toList = p at E ⊢
  have hc0' : s[0]'hpos = c0 := hc0.symm
  have Hlen := hid hlen
  clear hs0 hlen hc0
  have hc255 : c0.toNat < 256 := c0.toNat_lt
  by_cases hA : c0.toNat ≠ 96 + s.size
  · have e : Hid (p = (0, 3)) := by rw [Hid, E.out, if_pos (.inl hA)]
    have dA : ((c0.toNat : Int) - 97 != (s.size : Int) - 1) = true := by rw [bne_iff_ne]; omega
    clear hA E
    go_enter Tryd.func34, Tryd.ntmps34
    go_wp2
    go_ret2
    exact ⟨by rw [e.out]; rfl, rfl⟩
  have dA : ((c0.toNat : Int) - 97 != (s.size : Int) - 1) = false := by rw [bne_eq_false_iff_eq]; omega
  have e : Hid (p = if (s.data.toList.drop 1).head? = some 48 then (0, 3) else if (s.data.toList.drop 1).all hexB = false then (0, 3) else if 4611686018427387904 < digV 0 (s.data.toList.drop 1) then (0, 2) else (digV 0 (s.data.toList.drop 1), 0)) := by
    rw [Hid, E.out]
    by_cases hB : (s.data.toList.drop 1).head? = some 48
    · rw [if_pos (.inr hB), if_pos hB]
    · rw [if_neg (fun h => h.elim hA hB), if_neg hB]
  clear hA E
  go_enter Tryd.func34, Tryd.ntmps34
  go_wp2
  go_loop [4] (fun i => ∃ k : Nat, 1 ≤ k ∧ k ≤ s.size ∧ i = .int .i64 k ∧ Seen s.data.toList k) (fun i => s.size - (intOf i).toNat)
  case atStart => exact ⟨1, Nat.le_refl _, by omega, rfl, seen_one _⟩
  case round =>
    obtain ⟨k, hk1, hk, rfl, hseen⟩ := hrel
    have Hseen := hid hseen
    clear hseen
    by_cases hlt : k < s.size
    · have Hget := hid (getElem_list s k hlt)
      have Hbad := hid (fun h => all_drop s hexB k hlt hk1 h)
      have Hstep := hid (fun h1 h2 => seen_step s k hlt hk1 Hseen.out h1 h2)
      obtain ⟨c, hc⟩ : ∃ c, s[k]'hlt = c := ⟨_, rfl⟩
      rw [hc] at Hget Hbad Hstep
      rcases hex_cases c.toNat with ⟨hx, hcc⟩ | ⟨hx, hcc⟩
      · have Hx := hid hx
        clear hx
        by_cases hfirst : k = 1 ∧ c.toNat = 48
        · have e3 : Hid (p = (0, 3)) := by
            rw [Hid, e.out, if_pos]
            have := Hget.out
            rw [hfirst.1] at this
            rw [List.head?_drop, this]
            exact congrArg some (UInt8.toNat_inj.1 hfirst.2)
          have f1 : ((k : Int) == 1) = true := by rw [beq_iff_eq]; omega
          have f2 : ((c.toNat : Int) == 48) = true := by rw [beq_iff_eq]; omega
          have f3 : 47 < (c.toNat : Int) ∧ (c.toNat : Int) < 49 := by omega
          obtain ⟨f3, f4⟩ := f3
          have f5 : decide ((c.toNat : Int) ≤ 57) = true := by simp; omega
          clear hfirst hcc e
          go_wp2
          all_goals go_ret2
          all_goals exact ⟨by rw [e3.out]; rfl, rfl⟩
        · have Hn := hid (Hstep.out Hx.out (fun h1 h2 => hfirst ⟨h1, by rw [h2]; rfl⟩))
          have f1 : (((k : Int) == 1) && ((c.toNat : Int) == 48)) = false := by
            rw [Bool.and_eq_false_iff, beq_eq_false_iff_ne, beq_eq_false_iff_ne]
            by_cases h : k = 1
            · exact .inr (fun h2 => hfirst ⟨h, by omega⟩)
            · exact .inl (by omega)
          by_cases hk' : k = 1
          · have f2 : ((k : Int) == 1) = true := by rw [beq_iff_eq]; omega
            have f3 : ((c.toNat : Int) == 48) = false := by rw [f2] at f1; simpa using f1
            clear hfirst f1 hk'
            rcases hcc with ⟨g1, g2⟩ | ⟨g1, g2⟩
            · go_wp2
              go_round
              case rel => exact ⟨k + 1, by omega, by omega, by go_num, Hn.out⟩
              case measure => simp [intOf]; omega
            · go_wp2
              go_round
              case rel => exact ⟨k + 1, by omega, by omega, by go_num, Hn.out⟩
              case measure => simp [intOf]; omega
          · have f2 : ((k : Int) == 1) = false := by rw [beq_eq_false_iff_ne]; omega
            clear hfirst f1 hk'
            rcases hcc with ⟨g1, g2⟩ | ⟨g1, g2⟩
            · go_wp2
              go_round
              case rel => exact ⟨k + 1, by omega, by omega, by go_num, Hn.out⟩
              case measure => simp [intOf]; omega
            · go_wp2
              go_round
              case rel => exact ⟨k + 1, by omega, by omega, by go_num, Hn.out⟩
              case measure => simp [intOf]; omega
      · have e3 : Hid (p = (0, 3)) := by
          rw [Hid, e.out]
          by_cases hB : (s.data.toList.drop 1).head? = some 48
          · rw [if_pos hB]
          · rw [if_neg hB, if_pos (Hbad.out hx)]
        clear e hx
        rcases hcc with g1 | ⟨g1, g2⟩ | g1
        · go_wp2
          go_ret2
          exact ⟨by rw [e3.out]; rfl, rfl⟩
        · go_wp2
          go_ret2
          exact ⟨by rw [e3.out]; rfl, rfl⟩
        · go_wp2
          go_ret2
          exact ⟨by rw [e3.out]; rfl, rfl⟩
    · have hk' : k = s.size := by omega
      have e4 : Hid ((s.data.toList.drop 1).all hexB = true ∧ p = if 4611686018427387904 < digV 0 (s.data.toList.drop 1) then (0, 2) else (digV 0 (s.data.toList.drop 1), 0)) := by
        have h := Hseen.out
        rw [hk'] at h
        have h1 := h.1
        rw [take_all] at h1
        refine ⟨h1, ?_⟩
        rw [e.out, if_neg, if_neg (by rw [h1]; simp)]
        rw [List.head?_drop]
        by_cases hs2 : 2 ≤ s.size
        · exact h.2 hs2
        · rw [List.getElem?_eq_none (by have := Hlen.out; omega)]
          simp
      clear e hk'
      go_wp2
      go_loop [6, 7] (fun n i => ∃ k m : Nat, 1 ≤ k ∧ k ≤ s.size ∧ i = .int .i64 k ∧ n = .int .i64 m ∧ m ≤ 4611686018427387904 ∧ m = digV 0 ((s.data.toList.take k).drop 1)) (fun _ i => s.size - (intOf i).toNat)
      case atStart => exact ⟨1, 0, Nat.le_refl _, by omega, rfl, rfl, by omega, dig_one _⟩
      case round =>
        obtain ⟨k, m, hk1, hk, rfl, rfl, hm, hdig⟩ := hrel
        have Hdig := hid hdig
        clear hdig
        by_cases hlt : k < s.size
        · have hx : (dv (s[k]'hlt).toNat).isSome = true := by
            cases hh : (dv (s[k]'hlt).toNat).isSome with
            | true => rfl
            | false => have := all_drop s hexB k hlt hk1 hh; rw [e4.out.1] at this; cases this
          have Hge := hid (dig_ge s k hlt hk1 m Hdig.out)
          have Hstep := hid (dig_step s k hlt hk1 m Hdig.out)
          obtain ⟨c, hc⟩ : ∃ c, s[k]'hlt = c := ⟨_, rfl⟩
          rw [hc] at hx Hge Hstep
          rcases hex_cases c.toNat with ⟨_, hcc⟩ | ⟨hx', _⟩
          · rcases hcc with ⟨g1, g2⟩ | ⟨g1, g2⟩
            · have hdv : (dv c.toNat).getD 0 = c.toNat - 48 := by unfold dv; rw [if_pos (by omega)]; rfl
              rw [hdv] at Hge Hstep
              clear hdv hx
              rcases Nat.lt_trichotomy m 288230376151711744 with hlow | heq | hhigh
              · have f1 : decide (288230376151711744 < (m : Int)) = false := by simp; omega
                have f2 : ((m : Int) == 288230376151711744) = false := by rw [beq_eq_false_iff_ne]; omega
                go_wp2
                go_round
                case rel => exact ⟨k + 1, _, by omega, by omega, by go_num, congrArg (Value.int .i64) (by omega), by omega, Hstep.out⟩
                case measure => simp [intOf]; omega
              · have f1 : decide (288230376151711744 < (m : Int)) = false := by simp; omega
                have f2 : ((m : Int) == 288230376151711744) = true := by rw [beq_iff_eq]; omega
                obtain ⟨f3, f4⟩ : 288230376151711744 ≤ m ∧ m ≤ 288230376151711744 := by omega
                clear heq
                by_cases hz : (c.toNat : Int) - 48 = 0
                · have f5 : decide (0 < (c.toNat : Int) - 48) = false := by simp; omega
                  obtain ⟨f6, f7⟩ : 0 ≤ (c.toNat : Int) - 48 ∧ (c.toNat : Int) - 48 ≤ 0 := by omega
                  clear hz
                  go_wp2
                  go_round
                  case rel => exact ⟨k + 1, _, by omega, by omega, by go_num, congrArg (Value.int .i64) (by omega), by omega, Hstep.out⟩
                  case measure => simp [intOf]; omega
                · have f5 : decide (0 < (c.toNat : Int) - 48) = true := by simp; omega
                  obtain f6 : 0 < (c.toNat : Int) - 48 := by omega
                  clear hz
                  have e5 : Hid (p = (0, 2)) := by
                    have := Hge.out
                    rw [Hid, e4.out.2, if_pos (by omega)]
                  go_wp2
                  go_ret2
                  exact ⟨by rw [e5.out]; rfl, rfl⟩
              · have f1 : decide (288230376151711744 < (m : Int)) = true := by simp; omega
                have e5 : Hid (p = (0, 2)) := by
                  have := Hge.out
                  rw [Hid, e4.out.2, if_pos (by omega)]
                go_wp2
                go_ret2
                exact ⟨by rw [e5.out]; rfl, rfl⟩
            · have hdv : (dv c.toNat).getD 0 = c.toNat - 87 := by unfold dv; rw [if_neg (by omega), if_pos (by omega)]; rfl
              rw [hdv] at Hge Hstep
              clear hdv hx
              rcases Nat.lt_trichotomy m 288230376151711744 with hlow | heq | hhigh
              · have f1 : decide (288230376151711744 < (m : Int)) = false := by simp; omega
                have f2 : ((m : Int) == 288230376151711744) = false := by rw [beq_eq_false_iff_ne]; omega
                go_wp2
                go_round
                case rel => exact ⟨k + 1, _, by omega, by omega, by go_num, congrArg (Value.int .i64) (by omega), by omega, Hstep.out⟩
                case measure => simp [intOf]; omega
              · have f1 : decide (288230376151711744 < (m : Int)) = false := by simp; omega
                have f2 : ((m : Int) == 288230376151711744) = true := by rw [beq_iff_eq]; omega
                obtain ⟨f3, f4⟩ : 288230376151711744 ≤ m ∧ m ≤ 288230376151711744 := by omega
                clear heq
                by_cases hz : (c.toNat : Int) - 97 + 10 = 0
                · have f5 : decide (0 < (c.toNat : Int) - 97 + 10) = false := by simp; omega
                  obtain ⟨f6, f7⟩ : 0 ≤ (c.toNat : Int) - 97 + 10 ∧ (c.toNat : Int) - 97 + 10 ≤ 0 := by omega
                  clear hz
                  go_wp2
                  go_round
                  case rel => exact ⟨k + 1, _, by omega, by omega, by go_num, congrArg (Value.int .i64) (by omega), by omega, Hstep.out⟩
                  case measure => simp [intOf]; omega
                · have f5 : decide (0 < (c.toNat : Int) - 97 + 10) = true := by simp; omega
                  obtain f6 : 0 < (c.toNat : Int) - 97 + 10 := by omega
                  clear hz
                  have e5 : Hid (p = (0, 2)) := by
                    have := Hge.out
                    rw [Hid, e4.out.2, if_pos (by omega)]
                  go_wp2
                  go_ret2
                  exact ⟨by rw [e5.out]; rfl, rfl⟩
              · have f1 : decide (288230376151711744 < (m : Int)) = true := by simp; omega
                have e5 : Hid (p = (0, 2)) := by
                  have := Hge.out
                  rw [Hid, e4.out.2, if_pos (by omega)]
                go_wp2
                go_ret2
                exact ⟨by rw [e5.out]; rfl, rfl⟩
          · rw [hx] at hx'; cases hx'
        · have hk' : k = s.size := by omega
          have e5 : Hid (p = (m, 0)) := by
            have h := Hdig.out
            rw [hk', take_all] at h
            rw [Hid, e4.out.2, ← h, if_neg (by omega)]
          clear hk'
          go_wp2
          go_ret2
          exact ⟨by rw [e5.out]; rfl, rfl⟩
end Go.Proofs.YthfmpebgmojcaaaDoor
