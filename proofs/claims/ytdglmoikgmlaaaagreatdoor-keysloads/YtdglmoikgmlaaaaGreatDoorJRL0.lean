/- YtdglmoikgmlaaaaGreatDoorJRTo + YtdglmoikgmlaaaaGreatDoorJRL0 -/
import Derived.Test.YtdglmoikgmlaaaaGreatDoorJLX
import Derived.BigQuiet
/- The reference's ToNumber, by a contract. -/
namespace Go.Proofs.YtdglmoikgmlaaaaGreatDoor
open Go.RowKit
theorem hex_cases (c : Nat) : ((dv c).isSome = true ∧ ((48 ≤ (c : Int) ∧ (c : Int) ≤ 57) ∨ (97 ≤ (c : Int) ∧ (c : Int) ≤ 102))) ∨
    ((dv c).isSome = false ∧ ((c : Int) < 48 ∨ (57 < (c : Int) ∧ (c : Int) < 97) ∨ 102 < (c : Int))) := by
  unfold dv
  by_cases h1 : 48 ≤ c ∧ c ≤ 57
  · rw [if_pos h1]; exact .inl ⟨rfl, .inl (by omega)⟩
  rw [if_neg h1]
  by_cases h2 : 97 ≤ c ∧ c ≤ 102
  · rw [if_pos h2]; exact .inl ⟨rfl, .inr (by omega)⟩
  rw [if_neg h2]
  exact .inr ⟨rfl, by omega⟩
theorem getElem_list (s : ByteArray) (k : Nat) (h : k < s.size) : s.data.toList[k]? = some s[k] := by
  rw [List.getElem?_eq_getElem (by simpa using h)]; rfl
def Seen (l : List UInt8) (k : Nat) : Prop := ((l.take k).drop 1).all hexB = true ∧ (2 ≤ k → l[1]? ≠ some 48)
theorem seen_one (l : List UInt8) : Seen l 1 := by
  refine ⟨?_, fun h => by omega⟩
  cases l <;> simp
theorem seen_step (s : ByteArray) (k : Nat) (h : k < s.size) (h1 : 1 ≤ k) (hs : Seen s.data.toList k) (hx : (dv (s[k]'h).toNat).isSome = true) (hf : k = 1 → s[k]'h ≠ 48) : Seen s.data.toList (k + 1) := by
  have hlen : s.data.toList.length = s.size := (Lib.size_eq s).symm
  refine ⟨?_, fun _ => ?_⟩
  · rw [take_snoc s k h, List.drop_append_of_le_length (by simp; omega), List.all_append, hs.1]
    simp [hexB, hx]
  · by_cases hk : k = 1
    · subst hk
      rw [getElem_list s 1 h]
      intro e
      exact hf rfl (by simpa using e)
    · exact hs.2 (by omega)
theorem all_drop (s : ByteArray) (f : UInt8 → Bool) (k : Nat) (h : k < s.size) (h1 : 1 ≤ k) (hf : f (s[k]'h) = false) : (s.data.toList.drop 1).all f = false := by
  have hlen : s.data.toList.length = s.size := (Lib.size_eq s).symm
  rw [← Bool.not_eq_true, List.all_eq_true]
  intro hall
  have := hall (s[k]'h) (by
    have e : (s.data.toList.drop 1)[k - 1]? = some (s[k]'h) := by
      rw [List.getElem?_drop, show 1 + (k - 1) = k by omega]
      exact getElem_list s k h
    exact List.mem_of_getElem? e)
  rw [hf] at this
  cases this
theorem dig_one (l : List UInt8) : 0 = digV 0 ((l.take 1).drop 1) := by cases l <;> simp [digV]
theorem digV_mono (l : List UInt8) (n : Nat) : n ≤ digV n l := by
  induction l generalizing n with
  | nil => exact Nat.le_refl _
  | cons c l ih => exact Nat.le_trans (by omega) (ih (n * 16 + (dv c.toNat).getD 0))
theorem dig_step (s : ByteArray) (k : Nat) (h : k < s.size) (h1 : 1 ≤ k) (m : Nat) (hm : m = digV 0 ((s.data.toList.take k).drop 1)) :
    m * 16 + (dv (s[k]'h).toNat).getD 0 = digV 0 ((s.data.toList.take (k + 1)).drop 1) := by
  have hlen : s.data.toList.length = s.size := (Lib.size_eq s).symm
  rw [take_snoc s k h, List.drop_append_of_le_length (by simp; omega), digV_snoc, ← hm]
theorem dig_ge (s : ByteArray) (k : Nat) (h : k < s.size) (h1 : 1 ≤ k) (m : Nat) (hm : m = digV 0 ((s.data.toList.take k).drop 1)) :
    m * 16 + (dv (s[k]'h).toNat).getD 0 ≤ digV 0 (s.data.toList.drop 1) := by
  rw [dig_step s k h h1 m hm]
  have e : s.data.toList.drop 1 = (s.data.toList.take (k + 1)).drop 1 ++ s.data.toList.drop (k + 1) := by
    have hlen : s.data.toList.length = s.size := (Lib.size_eq s).symm
    rw [← List.drop_append_of_le_length (by simp; omega), List.take_append_drop]
  rw [e]
  have : digV 0 ((s.data.toList.take (k + 1)).drop 1 ++ s.data.toList.drop (k + 1)) = digV (digV 0 ((s.data.toList.take (k + 1)).drop 1)) (s.data.toList.drop (k + 1)) := by simp [digV]
  rw [this]
  exact digV_mono _ _
set_option maxHeartbeats 1000000 in
theorem refToNumber_any (s : ByteArray) (w : World) (hs : s.size ≤ maxLen) :
    Calls Tryz.prog 39 #[.string s] w fun e w' => e = .returned (.tuple #[.int .i64 ((toNum s.data.toList).1 : Int), .int .i64 ((toNum s.data.toList).2 : Int)]) ∧ w' = w := by
  unfold maxLen at hs
  have hlen : s.data.toList.length = s.size := (Lib.size_eq s).symm
  by_cases h0 : s.size = 0
  · have e : toNum s.data.toList = (0, 3) := by unfold toNum; rw [hlen, if_pos (.inl h0)]
    rw [e]
    have d1 : decide (((s.size : Nat) : Int) < 1) = true := by simp; omega
    clear e hlen h0
    go_enter Tryz.func39, Tryz.ntmps39
    go_wp2
    go_ret2
    exact ⟨rfl, rfl⟩
  have d1 : decide (((s.size : Nat) : Int) < 1) = false := by simp; omega
  by_cases h17 : 17 < s.size
  · have e : toNum s.data.toList = (0, 3) := by unfold toNum; rw [hlen, if_pos (.inr h17)]
    rw [e]
    have d2 : decide (17 < ((s.size : Nat) : Int)) = true := by simp; omega
    clear e hlen
    go_enter Tryz.func39, Tryz.ntmps39
    go_wp2
    go_ret2
    exact ⟨rfl, rfl⟩
  have d2 : decide (17 < ((s.size : Nat) : Int)) = false := by simp; omega
  have hpos : 0 < s.size := Nat.pos_of_ne_zero h0
  have hs0 : s.data.toList.headD 0 = s[0]'hpos := by
    cases hh : s.data.toList with
    | nil => rw [hh] at hlen; simp at hlen; omega
    | cons c r =>
      have : s[0]'hpos = s.data.toList[0]'(by omega) := rfl
      rw [this]
      simp [hh]
  obtain ⟨c0, hc0⟩ : ∃ c0, c0 = s[0]'hpos := ⟨_, rfl⟩
  have E : Hid (toNum s.data.toList = if c0.toNat ≠ 96 + s.size ∨ (s.data.toList.drop 1).head? = some 48 then (0, 3) else if (s.data.toList.drop 1).all hexB = false then (0, 3) else if 4611686018427387904 < digV 0 (s.data.toList.drop 1) then (0, 2) else (digV 0 (s.data.toList.drop 1), 0)) := by
    unfold toNum Hid
    rw [hlen, if_neg (by omega), hs0, hc0]
  generalize toNum s.data.toList = p at E ⊢
  have hc0' : s[0]'hpos = c0 := hc0.symm
  have Hlen := hid hlen
  clear hs0 hlen hc0
  have hc255 : c0.toNat < 256 := c0.toNat_lt
  by_cases hA : c0.toNat ≠ 96 + s.size
  · have e : Hid (p = (0, 3)) := by rw [Hid, E.out, if_pos (.inl hA)]
    have dA : ((c0.toNat : Int) - 97 != (s.size : Int) - 1) = true := by rw [bne_iff_ne]; omega
    clear hA E
    go_enter Tryz.func39, Tryz.ntmps39
    go_wp2
    go_ret2
    exact ⟨by rw [e.out]; rfl, rfl⟩
  have dA : ((c0.toNat : Int) - 97 != (s.size : Int) - 1) = false := by rw [bne_eq_false_iff_eq]; omega
  have e : Hid (p = if (s.data.toList.drop 1).head? = some 48 then (0, 3) else if (s.data.toList.drop 1).all hexB = false then (0, 3) else if 4611686018427387904 < digV 0 (s.data.toList.drop 1) then (0, 2) else (digV 0 (s.data.toList.drop 1), 0)) := by
    rw [Hid, E.out]
    by_cases hB : (s.data.toList.drop 1).head? = some 48
    · rw [if_pos (.inr hB), if_pos hB]
    · rw [if_neg (fun h => h.elim hA hB), if_neg hB]
  clear hA E
  go_enter Tryz.func39, Tryz.ntmps39
  go_wp2
  go_loop [4] (fun i => ∃ k : Nat, 1 ≤ k ∧ k ≤ s.size ∧ i = .int .i64 k ∧ Seen s.data.toList k) (fun i => s.size - (intOf i).toNat)
  case atStart => exact ⟨1, Nat.le_refl _, by omega, rfl, seen_one _⟩
  case round =>
    obtain ⟨k, hk1, hk, rfl, hseen⟩ := hrel
    have Hseen := hid hseen
    clear hseen
    by_cases hlt : k < s.size
    · have Hget := hid (getElem_list s k hlt)
      have Hbad := hid (fun h => all_drop s hexB k hlt hk1 h)
      have Hstep := hid (fun h1 h2 => seen_step s k hlt hk1 Hseen.out h1 h2)
      obtain ⟨c, hc⟩ : ∃ c, s[k]'hlt = c := ⟨_, rfl⟩
      rw [hc] at Hget Hbad Hstep
      rcases hex_cases c.toNat with ⟨hx, hcc⟩ | ⟨hx, hcc⟩
      · have Hx := hid hx
        clear hx
        by_cases hfirst : k = 1 ∧ c.toNat = 48
        · have e3 : Hid (p = (0, 3)) := by
            rw [Hid, e.out, if_pos]
            have := Hget.out
            rw [hfirst.1] at this
            rw [List.head?_drop, this]
            exact congrArg some (UInt8.toNat_inj.1 hfirst.2)
          have f1 : ((k : Int) == 1) = true := by rw [beq_iff_eq]; omega
          have f2 : ((c.toNat : Int) == 48) = true := by rw [beq_iff_eq]; omega
          have f3 : 47 < (c.toNat : Int) ∧ (c.toNat : Int) < 49 := by omega
          obtain ⟨f3, f4⟩ := f3
          have f5 : decide ((c.toNat : Int) ≤ 57) = true := by simp; omega
          clear hfirst hcc e
          go_wp2
          all_goals go_ret2
          all_goals exact ⟨by rw [e3.out]; rfl, rfl⟩
        · have Hn := hid (Hstep.out Hx.out (fun h1 h2 => hfirst ⟨h1, by rw [h2]; rfl⟩))
          have f1 : (((k : Int) == 1) && ((c.toNat : Int) == 48)) = false := by
            rw [Bool.and_eq_false_iff, beq_eq_false_iff_ne, beq_eq_false_iff_ne]
            by_cases h : k = 1
            · exact .inr (fun h2 => hfirst ⟨h, by omega⟩)
            · exact .inl (by omega)
          by_cases hk' : k = 1
          · have f2 : ((k : Int) == 1) = true := by rw [beq_iff_eq]; omega
            have f3 : ((c.toNat : Int) == 48) = false := by rw [f2] at f1; simpa using f1
            clear hfirst f1 hk'
            rcases hcc with ⟨g1, g2⟩ | ⟨g1, g2⟩
            · go_wp2
              go_round
              case rel => exact ⟨k + 1, by omega, by omega, by go_num, Hn.out⟩
              case measure => simp [intOf]; omega
            · go_wp2
              go_round
              case rel => exact ⟨k + 1, by omega, by omega, by go_num, Hn.out⟩
              case measure => simp [intOf]; omega
          · have f2 : ((k : Int) == 1) = false := by rw [beq_eq_false_iff_ne]; omega
            clear hfirst f1 hk'
            rcases hcc with ⟨g1, g2⟩ | ⟨g1, g2⟩
            · go_wp2
              go_round
              case rel => exact ⟨k + 1, by omega, by omega, by go_num, Hn.out⟩
              case measure => simp [intOf]; omega
            · go_wp2
              go_round
              case rel => exact ⟨k + 1, by omega, by omega, by go_num, Hn.out⟩
              case measure => simp [intOf]; omega
      · have e3 : Hid (p = (0, 3)) := by
          rw [Hid, e.out]
          by_cases hB : (s.data.toList.drop 1).head? = some 48
          · rw [if_pos hB]
          · rw [if_neg hB, if_pos (Hbad.out hx)]
        clear e hx
        rcases hcc with g1 | ⟨g1, g2⟩ | g1
        · go_wp2
          go_ret2
          exact ⟨by rw [e3.out]; rfl, rfl⟩
        · go_wp2
          go_ret2
          exact ⟨by rw [e3.out]; rfl, rfl⟩
        · go_wp2
          go_ret2
          exact ⟨by rw [e3.out]; rfl, rfl⟩
    · have hk' : k = s.size := by omega
      have e4 : Hid ((s.data.toList.drop 1).all hexB = true ∧ p = if 4611686018427387904 < digV 0 (s.data.toList.drop 1) then (0, 2) else (digV 0 (s.data.toList.drop 1), 0)) := by
        have h := Hseen.out
        rw [hk'] at h
        have h1 := h.1
        rw [take_all] at h1
        refine ⟨h1, ?_⟩
        rw [e.out, if_neg, if_neg (by rw [h1]; simp)]
        rw [List.head?_drop]
        by_cases hs2 : 2 ≤ s.size
        · exact h.2 hs2
        · rw [List.getElem?_eq_none (by have := Hlen.out; omega)]
          simp
      clear e hk'
      go_wp2
      go_loop [6, 7] (fun n i => ∃ k m : Nat, 1 ≤ k ∧ k ≤ s.size ∧ i = .int .i64 k ∧ n = .int .i64 m ∧ m ≤ 4611686018427387904 ∧ m = digV 0 ((s.data.toList.take k).drop 1)) (fun _ i => s.size - (intOf i).toNat)
      case atStart => exact ⟨1, 0, Nat.le_refl _, by omega, rfl, rfl, by omega, dig_one _⟩
      case round =>
        obtain ⟨k, m, hk1, hk, rfl, rfl, hm, hdig⟩ := hrel
        have Hdig := hid hdig
        clear hdig
        by_cases hlt : k < s.size
        · have hx : (dv (s[k]'hlt).toNat).isSome = true := by
            cases hh : (dv (s[k]'hlt).toNat).isSome with
            | true => rfl
            | false => have := all_drop s hexB k hlt hk1 hh; rw [e4.out.1] at this; cases this
          have Hge := hid (dig_ge s k hlt hk1 m Hdig.out)
          have Hstep := hid (dig_step s k hlt hk1 m Hdig.out)
          obtain ⟨c, hc⟩ : ∃ c, s[k]'hlt = c := ⟨_, rfl⟩
          rw [hc] at hx Hge Hstep
          rcases hex_cases c.toNat with ⟨_, hcc⟩ | ⟨hx', _⟩
          · rcases hcc with ⟨g1, g2⟩ | ⟨g1, g2⟩
            · have hdv : (dv c.toNat).getD 0 = c.toNat - 48 := by unfold dv; rw [if_pos (by omega)]; rfl
              rw [hdv] at Hge Hstep
              clear hdv hx
              rcases Nat.lt_trichotomy m 288230376151711744 with hlow | heq | hhigh
              · have f1 : decide (288230376151711744 < (m : Int)) = false := by simp; omega
                have f2 : ((m : Int) == 288230376151711744) = false := by rw [beq_eq_false_iff_ne]; omega
                go_wp2
                go_round
                case rel => exact ⟨k + 1, _, by omega, by omega, by go_num, congrArg (Value.int .i64) (by omega), by omega, Hstep.out⟩
                case measure => simp [intOf]; omega
              · have f1 : decide (288230376151711744 < (m : Int)) = false := by simp; omega
                have f2 : ((m : Int) == 288230376151711744) = true := by rw [beq_iff_eq]; omega
                obtain ⟨f3, f4⟩ : 288230376151711744 ≤ m ∧ m ≤ 288230376151711744 := by omega
                clear heq
                by_cases hz : (c.toNat : Int) - 48 = 0
                · have f5 : decide (0 < (c.toNat : Int) - 48) = false := by simp; omega
                  obtain ⟨f6, f7⟩ : 0 ≤ (c.toNat : Int) - 48 ∧ (c.toNat : Int) - 48 ≤ 0 := by omega
                  clear hz
                  go_wp2
                  go_round
                  case rel => exact ⟨k + 1, _, by omega, by omega, by go_num, congrArg (Value.int .i64) (by omega), by omega, Hstep.out⟩
                  case measure => simp [intOf]; omega
                · have f5 : decide (0 < (c.toNat : Int) - 48) = true := by simp; omega
                  obtain f6 : 0 < (c.toNat : Int) - 48 := by omega
                  clear hz
                  have e5 : Hid (p = (0, 2)) := by
                    have := Hge.out
                    rw [Hid, e4.out.2, if_pos (by omega)]
                  go_wp2
                  go_ret2
                  exact ⟨by rw [e5.out]; rfl, rfl⟩
              · have f1 : decide (288230376151711744 < (m : Int)) = true := by simp; omega
                have e5 : Hid (p = (0, 2)) := by
                  have := Hge.out
                  rw [Hid, e4.out.2, if_pos (by omega)]
                go_wp2
                go_ret2
                exact ⟨by rw [e5.out]; rfl, rfl⟩
            · have hdv : (dv c.toNat).getD 0 = c.toNat - 87 := by unfold dv; rw [if_neg (by omega), if_pos (by omega)]; rfl
              rw [hdv] at Hge Hstep
              clear hdv hx
              rcases Nat.lt_trichotomy m 288230376151711744 with hlow | heq | hhigh
              · have f1 : decide (288230376151711744 < (m : Int)) = false := by simp; omega
                have f2 : ((m : Int) == 288230376151711744) = false := by rw [beq_eq_false_iff_ne]; omega
                go_wp2
                go_round
                case rel => exact ⟨k + 1, _, by omega, by omega, by go_num, congrArg (Value.int .i64) (by omega), by omega, Hstep.out⟩
                case measure => simp [intOf]; omega
              · have f1 : decide (288230376151711744 < (m : Int)) = false := by simp; omega
                have f2 : ((m : Int) == 288230376151711744) = true := by rw [beq_iff_eq]; omega
                obtain ⟨f3, f4⟩ : 288230376151711744 ≤ m ∧ m ≤ 288230376151711744 := by omega
                clear heq
                by_cases hz : (c.toNat : Int) - 97 + 10 = 0
                · have f5 : decide (0 < (c.toNat : Int) - 97 + 10) = false := by simp; omega
                  obtain ⟨f6, f7⟩ : 0 ≤ (c.toNat : Int) - 97 + 10 ∧ (c.toNat : Int) - 97 + 10 ≤ 0 := by omega
                  clear hz
                  go_wp2
                  go_round
                  case rel => exact ⟨k + 1, _, by omega, by omega, by go_num, congrArg (Value.int .i64) (by omega), by omega, Hstep.out⟩
                  case measure => simp [intOf]; omega
                · have f5 : decide (0 < (c.toNat : Int) - 97 + 10) = true := by simp; omega
                  obtain f6 : 0 < (c.toNat : Int) - 97 + 10 := by omega
                  clear hz
                  have e5 : Hid (p = (0, 2)) := by
                    have := Hge.out
                    rw [Hid, e4.out.2, if_pos (by omega)]
                  go_wp2
                  go_ret2
                  exact ⟨by rw [e5.out]; rfl, rfl⟩
              · have f1 : decide (288230376151711744 < (m : Int)) = true := by simp; omega
                have e5 : Hid (p = (0, 2)) := by
                  have := Hge.out
                  rw [Hid, e4.out.2, if_pos (by omega)]
                go_wp2
                go_ret2
                exact ⟨by rw [e5.out]; rfl, rfl⟩
          · rw [hx] at hx'; cases hx'
        · have hk' : k = s.size := by omega
          have e5 : Hid (p = (m, 0)) := by
            have h := Hdig.out
            rw [hk', take_all] at h
            rw [Hid, e4.out.2, ← h, if_neg (by omega)]
          clear hk'
          go_wp2
          go_ret2
          exact ⟨by rw [e5.out]; rfl, rfl⟩
end Go.Proofs.YtdglmoikgmlaaaaGreatDoor
/- Towards the reference's Load: Split, appends of any length. -/
namespace Go.Proofs.YtdglmoikgmlaaaaGreatDoor.Xr
open Go.RowKit Go.Maps
set_option linter.unusedVariables false
set_option maxRecDepth 20000
theorem find_first {l : List UInt8} {k : Nat} (hk : k < l.length) (hall : (l.take k).all (· != 47) = true) (h : l[k] = 47) : l.findIdx? (· == 47) = some k := by
  rw [List.findIdx?_eq_some_iff_getElem]
  refine ⟨hk, by simp [h], fun j hj => ?_⟩
  have h1 := List.all_eq_true.1 hall (l[j]'(by omega)) (by
    rw [List.mem_iff_getElem]
    exact ⟨j, by rw [List.length_take]; omega, by rw [List.getElem_take]⟩)
  simpa using h1
theorem find_none {l : List UInt8} (hall : l.all (· != 47) = true) : l.findIdx? (· == 47) = none := by
  rw [List.findIdx?_eq_none_iff]
  intro x hx
  have := List.all_eq_true.1 hall x hx
  simpa using this
set_option maxHeartbeats 2000000 in
theorem rsplit_any (s : ByteArray) (hs : s.size ≤ 140737488351232) (w : World) : Calls Tryz.prog 40 #[.string s] w fun e w' => e = .returned (.tuple #[.string (cutP s).1, .string (cutP s).2, .bool (cutS s).isSome]) ∧ Below w.heap.size w w' := by
  have hsz : s.size = s.data.toList.length := Lib.size_eq s
  go_enter Tryz.func40, Tryz.ntmps40
  go_wp2
  go_loopw [5] (fun i wr => ∃ k : Nat, k ≤ s.size ∧ i = .int .i64 (k : Int) ∧ (s.data.toList.take k).all (· != 47) = true ∧ wr = w) (fun i _ => s.size - (intOf i).toNat)
  case atStart => exact ⟨0, Nat.zero_le _, rfl, rfl, rfl⟩
  case round =>
    obtain ⟨k, hk, rfl, hall, rfl⟩ := hrel
    have Hall := hid hall
    have Hsz := hid hsz
    clear hall hsz
    by_cases hlt : k < s.size
    · have g1 : (k : Int) < (s.size : Int) := by omega
      have g0 : (0 : Int) ≤ (k : Int) := by omega
      have hx : s.data.toList[k]'(by rw [← Hsz.out]; exact hlt) = s[k]'hlt := rfl
      have Hx := hid hx
      clear hx
      by_cases he : s[k]'hlt = 47
      · have Hf : Hid (s.data.toList.findIdx? (· == 47) = some k) := find_first _ Hall.out (Hx.out.trans he)
        have e1 : (((s[k]'hlt).toNat : Int) == 47) = true := by rw [he]; rfl
        have Hc : Hid (cutS s = some (s.extract 0 k, s.extract (k + 1) s.size)) := by
          show cutS s = _
          unfold cutS
          rw [Hf.out]
          rfl
        have q1 : (k : Int) ≤ (s.size : Int) := by omega
        have q2 : (0 : Int) ≤ (k : Int) + 1 := by omega
        have q3 : (k : Int) + 1 ≤ (s.size : Int) := by omega
        have e3 : ((k : Int) + 1).toNat = k + 1 := by omega
        clear he
        go_wp2
        go_quiet (fail)
        go_wp2
        go_ret3
        unfold cutP
        rw [Hc.out]
        exact ⟨rfl, below_drewN _ _ _⟩
      · have e1 : (((s[k]'hlt).toNat : Int) == 47) = false := by
          rw [beq_eq_false_iff_ne]
          intro e
          refine he ?_
          rw [← UInt8.toNat_inj]
          have h47 : (47 : UInt8).toNat = 47 := rfl
          omega
        have Hne := hid he
        clear he
        go_wp2
        go_roundw
        case rel =>
          refine ⟨k + 1, by omega, by go_num, ?_, by first | rfl | trivial⟩
          rw [List.take_succ_eq_append_getElem (by rw [← Hsz.out]; exact hlt), List.all_append, Hall.out, Hx.out]
          simpa using Hne.out
        case measure => simp [intOf]; omega
    · have g1 : ¬ (k : Int) < (s.size : Int) := by omega
      have Hc : Hid (cutS s = none) := by
        have h1 := Hall.out
        rw [List.take_of_length_le (by have := Hsz.out; omega)] at h1
        show cutS s = none
        unfold cutS
        rw [find_none h1]
        rfl
      go_wp2
      go_ret3
      unfold cutP
      rw [Hc.out]
      exact ⟨rfl, Below.refl _ _⟩
set_option maxHeartbeats 2000000 in
theorem isGone_big {w : World} {B g : Nat} {root : List UInt8} {s : TS} {gv lv : Value} (h : RTree w B g root s gv lv) (hf : s.gs.length ≤ 4611686018427387904) (t : ByteArray) :
    Calls Tryz.prog 41 #[.pointer (some ⟨g, 0, none⟩), .string t] w fun e w' => e = .returned (.bool (isIn s.gs t)) ∧ w' = w := by
  obtain ⟨a, cap, rfl, hx⟩ := textsJ_of_own h.gone
  have c33 := h.c33
  obtain ⟨m, hm⟩ : ∃ m, m = s.gs.length := ⟨_, rfl⟩
  rw [← hm] at c33
  have Hm := hid hm
  have Hx := hid hx
  have hm9 : m ≤ 4611686018427387904 := by omega
  obtain ⟨r, hr⟩ : ∃ r, r = isIn s.gs t := ⟨_, rfl⟩
  rw [← hr]
  have Hr := hid hr
  clear h hx hm hf hr
  go_enter Tryz.func41, Tryz.ntmps41
  go_wp2
  go_loopw [5] (fun i wr => ∃ k : Nat, k ≤ m ∧ i = .int .i64 (k : Int) ∧ wr = w ∧ isIn (s.gs.take k) t = false) (fun i _ => m - (intOf i).toNat)
  case atStart => exact ⟨0, Nat.zero_le _, rfl, rfl, rfl⟩
  case round =>
    obtain ⟨k, hk, rfl, rfl, hpre⟩ := hrel
    by_cases hlt : k < m
    · have g1 : decide ((k : Int) < (m : Int)) = true := by simp; omega
      have hkl : k < s.gs.length := by have := Hm.out; omega
      obtain ⟨bb, oo, rfl, hc⟩ := Hx.out k hkl
      have Hstep := hid (isIn_take (t := t) hkl)
      have Hmem := hid (List.getElem_mem hkl)
      have Hpre := hid hpre
      clear hpre
      obtain ⟨x, hxk⟩ : ∃ x, x = s.gs[k] := ⟨_, rfl⟩
      rw [← hxk] at Hstep Hmem hc
      clear hxk
      by_cases e : x = t
      · have q0 : (x.toList == t.toList) = true := by rw [e]; simp
        have He := hid e
        clear e
        go_wp2
        go_ret
        refine ⟨?_, rfl⟩
        have : isIn s.gs t = true := isIn_iff.2 (He.out ▸ Hmem.out)
        rw [Hr.out, this]
        rfl
      · have q0 : (x.toList == t.toList) = false := by
          rw [beq_eq_false_iff_ne]
          exact fun e' => e ((str_eqJ _ _).2 e')
        have He := hid e
        clear e
        go_wp2
        go_roundw
        case rel => exact ⟨k + 1, by omega, by go_num, by first | rfl | trivial, by rw [Hstep.out, Hpre.out]; simpa using He.out⟩
        case measure => simp [intOf]; omega
    · have g1 : decide ((k : Int) < (m : Int)) = false := by simp; omega
      have hfin : isIn s.gs t = false := by
        have := Hm.out
        rw [List.take_of_length_le (by omega)] at hpre
        exact hpre
      have Hfin := hid hfin
      clear hfin hpre
      go_wp2
      go_ret
      refine ⟨?_, rfl⟩
      rw [Hr.out, Hfin.out]
      rfl
theorem wp_buildT {o : Oper} {a : Act} {w : World} {K : Act → World → Prop} {Q : Exit → Act → World → Prop} (x : Operand) (ho : o.op = .buildSlice 56 1 #[(0, x)]) (t : ByteArray) (h0 : a.eval x = .string t)
    (h : K (a.put o.dst (.slice (some ⟨w.heap.size, 0, none⟩) 1 1)) (w.alloc (.cells #[.string t] 9))) : o.wp Tryz.prog a w K Q := by
  unfold Oper.wp execOp
  simp only [ho, List.map_toArray, List.map_cons, List.map_nil, h0]
  simp [go_sem]
  exact h
theorem wp_storeT {o : Oper} {a : Act} {w : World} {K : Act → World → Prop} {Q : Exit → Act → World → Prop} (x y : Operand) (ho : o.op = .store 56 x y) (g k : Nat) (ad : Option Addr) (n c : Nat) (u : Value) (hx : a.eval x = .pointer (some ⟨g, k, none⟩)) (hy : a.eval y = .slice ad n c) (h1 : w.cell? ⟨g, k, none⟩ = some u) (h2 : w.frozen? ⟨g, k, none⟩ = false)
    (h : K (a.put o.dst undef) (w.setCell ⟨g, k, none⟩ (.slice ad n c))) : o.wp Tryz.prog a w K Q := by
  unfold Oper.wp execOp
  simp only [ho, hx, hy]
  simp [go_sem, h1, h2]
  exact h
theorem wp_appT (w : World) {o : Oper} {a : Act} {K : Act → World → Prop} {Q : Exit → Act → World → Prop} (sl x : Operand)
    (ho : o.op = .call { callee := .builtin .append, args := #[sl, x], argTypes := #[56, 56] }) (base : Nat) (v : Value) (l : List ByteArray) (hs : a.eval sl = v)
    (hown : w.ownsRow base 9 1 v l.length (l.map .string)) (t : ByteArray) (hx : a.eval x = .slice (some ⟨w.heap.size, 0, none⟩) 1 1) (hb : l.length * 40 ≤ 140737488351232) (hbase : base ≤ w.heap.size)
    (h : ∀ k m c w', w'.ownsRow base 9 1 (.slice (some ⟨k, 0, none⟩) m c) (l ++ [t]).length ((l ++ [t]).map .string) → w.grownBy w' v.ownBlock → K (a.put o.dst (.slice (some ⟨k, 0, none⟩) m c)) w') :
    o.wp Tryz.prog a (w.alloc (.cells #[.string t] 9)) K Q := by
  obtain ⟨i0, hi, hz0, hz1, hz2⟩ := info_parts strInfo
  refine wp_append_own _ sl x 56 ho base 9 i0 _ 1 16 Tryz.underlying56 hi hz0 hz1 hz2 rfl (by decide) v l.length (l.map .string) hs (hown.alloc _) ⟨w.heap.size, 0, none⟩ 1 1 [.string t] hx rfl (cell_new1 w _ _) (by simp [Value.oneCell']) (by unfold maxLen; omega) (by omega) (by simp; omega) ?_
  intro v' w' h1 h2 h3
  rw [show l.map Value.string ++ [.string t] = (l ++ [t]).map .string by simp, show l.length + 1 = (l ++ [t]).length by simp] at h1
  obtain ⟨k, m, c, rfl⟩ := own_slice h1 (by simp)
  exact h k m c w' h1 ((World.grownBy_alloc w _ _).trans h2)
theorem app_verW (w : World) {ops : Array Oper} {rest : List Oper} {o : Oper} {a : Act} {Q : Exit → Act → World → Prop} (hgd : o.guard = none) (sl x : Operand)
    (ho : o.op = .call { callee := .builtin .append, args := #[sl, x], argTypes := #[57, 57] }) (base : Nat) (v : Value) (l : List ((ByteArray × ByteArray) × Nat)) (hs : a.eval sl = v)
    (hown : w.ownsRow base 76 3 v l.length (verC l)) (t u : ByteArray) (n : Nat) (hx : a.eval x = .slice (some ⟨w.heap.size, 0, none⟩) 1 1) (hb : l.length * 40 ≤ 140737488351232) (hbase : base ≤ w.heap.size)
    (h : ∀ k m c w', w'.ownsRow base 76 3 (.slice (some ⟨k, 0, none⟩) m c) (l ++ [((t, u), n)]).length (verC (l ++ [((t, u), n)])) → w.grownBy w' v.ownBlock → wpList Tryz.prog ops Q rest (a.put o.dst (.slice (some ⟨k, 0, none⟩) m c)) w') :
    wpList Tryz.prog ops Q (o :: rest) a (w.alloc (.cells #[.string t, .string u, .int .i64 (n : Int)] 76)) := by
  obtain ⟨i0, hi, hz0, hz1, hz2⟩ := info_parts verInfo
  refine wpList_append_own _ hgd sl x 57 ho base 76 i0 _ 3 40 Tryz.underlying57 hi hz0 hz1 hz2 rfl (by decide) v l.length (verC l) hs (hown.alloc _) ⟨w.heap.size, 0, none⟩ 1 1 [.string t, .string u, .int .i64 (n : Int)] hx rfl (World.news_of_block (cs := #[.string t, .string u, .int .i64 (n : Int)]) (t := 76) (fr := (0, 0)) (MapKept.heap_alloc w _).1) (by simp [Value.oneCell']) (by unfold maxLen; omega) (by omega) (by simp; omega) ?_
  intro v' w' h1 h2 h3
  rw [← verC_snoc l ((t, u), n), show l.length + 1 = (l ++ [((t, u), n)]).length by simp] at h1
  obtain ⟨k, m, c, rfl⟩ := own_slice h1 (by simp)
  exact h k m c w' h1 ((World.grownBy_alloc w _ _).trans h2)
theorem RTree.grownV {w w' : World} {B g : Nat} {root : List UInt8} {s : TS} {gv lv v : Value} {vs : List ((ByteArray × ByteArray) × Nat)} (h : RTree w B g root s gv lv) (hg : w.grownBy w' lv.ownBlock) (hl : w'.ownsRow B 76 3 v vs.length (verC vs)) : RTree (w'.setCell ⟨g, 34, none⟩ v) B g root { s with vs := vs } gv v ∧ w'.cell? ⟨g, 34, none⟩ = some lv ∧ w'.frozen? ⟨g, 34, none⟩ = false := by
  have o : OutJ (fun k => lv.ownBlock = some k) w w' := ⟨hg.os, hg.tape, hg.output, hg.size, fun k hk hp => hg.block k hk (fun e => hp e.symm)⟩
  have ne : ∀ (e : TypeId) k cs, w.heap[k]? = some (.cells cs e (0, 0)) → e ≠ 76 → ¬ lv.ownBlock = some k := fun e k cs hk he e2 => by
    obtain ⟨_, c2, h2⟩ := own_blk h.vers e2
    rw [hk] at h2; cases h2; exact he rfl
  have hobj : w'.heap[g]? = some (.cells (refC root s.n gv lv).toArray 59 (0, 0)) := (o.block g h.lt (ne _ g _ h.obj (by decide))).trans h.obj
  have hgn := own_outJ h.gone o (fun k cs hk => ne _ k cs hk (by decide))
  have o2 := OutJ.setCell (P := fun k => k = g) w' ⟨g, 34, none⟩ v rfl
  have ne2 : ∀ (e : TypeId) k cs, w'.heap[k]? = some (.cells cs e (0, 0)) → e ≠ 59 → ¬ k = g := fun e k cs hk he e2 => by
    subst e2; rw [hobj] at hk; cases hk; exact he rfl
  refine ⟨⟨?_, own_outJ hgn o2 (fun k cs hk => ne2 _ k cs hk (by decide)), own_outJ hl o2 (fun k cs hk => ne2 _ k cs hk (by decide)), h.len, h.bg⟩, ?_, frozen_of_row _ _ _ _ _ hobj⟩
  · rw [heap_setCell_same w' g 34 _ _ _ hobj, List.setIfInBounds_toArray]
    unfold refC
    rw [List.set_append_right _ _ (by rw [cellsOf_length, h.len]; omega), cellsOf_length, h.len]
    rfl
  · rw [cell_of_row _ _ _ _ _ _ hobj, refC, List.getElem?_toArray, List.getElem?_append_right (by rw [cellsOf_length, h.len]; omega), cellsOf_length, h.len]
    rfl
end Go.Proofs.YtdglmoikgmlaaaaGreatDoor.Xr
