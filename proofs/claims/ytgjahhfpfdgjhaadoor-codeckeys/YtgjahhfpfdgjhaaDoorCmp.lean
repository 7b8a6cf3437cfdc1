/- The comparisons of the laws and of the references: bytes, rows of texts, their order; each by a contract. -/
import Derived.Test.YtgjahhfpfdgjhaaDoorKey
import Derived.RegionTactic
import Derived.BigQuiet
import Derived.Deep.QuietTactic
namespace Go.Proofs.YtgjahhfpfdgjhaaDoor
open Go.RowKit
set_option linter.unusedVariables false

theorem below_drewN (B : Nat) (w : World) (n : Nat) : Below B w (w.drewN n) := ⟨rfl, rfl, rfl, Nat.le_refl _, fun _ _ => rfl⟩

set_option maxHeartbeats 400000 in
theorem sameBytes_any (x y : List UInt8) (a b : Option Addr) (ca cb : Nat) (w : World) (hx : Bytes w a x) (hy : Bytes w b y) (lx : x.length ≤ 140737488351232) (ly : y.length ≤ 140737488351232) :
    Calls Tryd.prog 17 #[.slice a x.length ca, .slice b y.length cb] w fun e w' => e = .returned (.bool (decide (x = y))) ∧ Below w.heap.size w w' := by
  have Hx := hid hx
  have Hy := hid hy
  clear hx hy
  by_cases hl : x.length = y.length
  · have d1 : ((x.length : Int) != (y.length : Int)) = false := by rw [bne_eq_false_iff_eq]; omega
    have Hl := hid hl
    clear hl
    go_enter Tryd.func17, Tryd.ntmps17
    go_wp2
    go_loopw [5] (fun i wr => ∃ k : Nat, k ≤ x.length ∧ i = .int .i64 k ∧ x.take k = y.take k ∧ Below w.heap.size w wr) (fun i _ => x.length - (intOf i).toNat)
    case atStart => exact ⟨0, Nat.zero_le _, rfl, rfl, Below.refl _ _⟩
    case round =>
      obtain ⟨k, hk, rfl, hpre, hbel⟩ := hrel
      have Hpre := hid hpre
      have Hbel := hid hbel
      clear hpre hbel
      by_cases hlt : k < x.length
      · have hlt2 : k < y.length := by have := Hl.out; omega
        obtain ⟨b1, o1, ha, hc1⟩ := (Hx.out.below Hbel.out) k hlt
        obtain ⟨b2, o2, hb, hc2⟩ := (Hy.out.below Hbel.out) k hlt2
        have HX : Hid (x.take (k + 1) = x.take k ++ [x[k]]) := List.take_succ_eq_append_getElem hlt
        have HY : Hid (y.take (k + 1) = y.take k ++ [y[k]]) := List.take_succ_eq_append_getElem hlt2
        have HN : Hid (x[k] ≠ y[k] → x ≠ y) := fun h e => h (by subst e; rfl)
        generalize x[k] = c1 at *
        generalize y[k] = c2 at *
        subst ha
        subst hb
        by_cases hc : c1 = c2
        · have e1 : ((c1.toNat : Int) != (c2.toNat : Int)) = false := by rw [hc]; simp
          have H12 := hid hc
          clear hc
          go_wp2
          go_quiet (fail)
          go_wp2
          go_roundw
          case rel => exact ⟨k + 1, by omega, by go_num, by rw [HX.out, HY.out, Hpre.out, H12.out], Hbel.out.trans (below_drewN _ _ _)⟩
          case measure => simp [intOf]; omega
        · have e1 : ((c1.toNat : Int) != (c2.toNat : Int)) = true := by
            rw [bne_iff_ne]
            intro e
            exact hc (UInt8.toNat_inj.1 (by omega))
          have Hne := hid (HN.out hc)
          clear hc
          go_wp2
          go_quiet (fail)
          go_wp2
          go_ret
          exact ⟨ret_bool (by simp [Hne.out]), Hbel.out.trans (below_drewN _ _ _)⟩
      · go_wp2
        go_ret
        refine ⟨ret_bool ?_, Hbel.out⟩
        have h := Hpre.out
        rw [List.take_of_length_le (by omega), List.take_of_length_le (by have := Hl.out; omega)] at h
        simp [h]
  · have d1 : ((x.length : Int) != (y.length : Int)) = true := by rw [bne_iff_ne]; omega
    have hne : decide (x = y) = false := by simp; intro e; exact hl (congrArg List.length e)
    rw [hne]
    clear hl hne
    go_enter Tryd.func17, Tryd.ntmps17
    go_wp2
    go_ret
    exact ⟨rfl, Below.refl _ _⟩

open Go.Op (bytesLess)
theorem less_pre (p x y : List UInt8) : bytesLess (p ++ x) (p ++ y) = bytesLess x y := by
  induction p with
  | nil => rfl
  | cons c p ih =>
    have : ¬ c < c := by rw [UInt8.lt_iff_toNat_lt]; omega
    simp [cons_less, ih, this]
theorem less_at (x y : List UInt8) (k : Nat) (hx : k < x.length) (hy : k < y.length) (h : x.take k = y.take k) (hne : x[k] ≠ y[k]) : bytesLess x y = decide (x[k] < y[k]) := by
  have e1 : x = x.take k ++ x[k] :: x.drop (k + 1) := by rw [← List.drop_eq_getElem_cons hx, List.take_append_drop]
  have e2 : y = x.take k ++ y[k] :: y.drop (k + 1) := by rw [h, ← List.drop_eq_getElem_cons hy, List.take_append_drop]
  have h3 : (x[k] == y[k]) = false := by simpa using hne
  have h4 : bytesLess x y = bytesLess (x.take k ++ x[k] :: x.drop (k + 1)) (x.take k ++ y[k] :: y.drop (k + 1)) := by rw [← e1, ← e2]
  rw [h4, less_pre, cons_less, h3]
  simp
theorem less_end (x y : List UInt8) (k : Nat) (hx : k ≤ x.length) (hy : k ≤ y.length) (h : x.take k = y.take k) (hk : k = x.length ∨ k = y.length) : bytesLess x y = decide (x.length < y.length) := by
  have e2 : y = x.take k ++ y.drop k := by rw [h, List.take_append_drop]
  have e1 : x = x.take k ++ x.drop k := by rw [List.take_append_drop]
  have h4 : bytesLess x y = bytesLess (x.take k ++ x.drop k) (x.take k ++ y.drop k) := by rw [← e1, ← e2]
  rw [h4, less_pre]
  by_cases hxe : k = x.length
  · have : x.drop k = [] := List.drop_eq_nil_of_le (by omega)
    rw [this]
    cases hy' : y.drop k with
    | nil =>
      have := List.drop_eq_nil_iff.1 hy'
      have h5 : ¬ x.length < y.length := by omega
      simp [less_nil, h5]
    | cons c r =>
      have h6 : ¬ y.length ≤ k := fun h' => by rw [List.drop_eq_nil_of_le h'] at hy'; cases hy'
      have h5 : x.length < y.length := by omega
      simp [nil_less, h5]
  · have : y.drop k = [] := List.drop_eq_nil_of_le (by omega)
    rw [this, less_nil]
    have h5 : ¬ x.length < y.length := by omega
    simp [h5]

set_option maxHeartbeats 400000 in
theorem less_any (x y : List UInt8) (a b : Option Addr) (ca cb : Nat) (w : World) (hx : Bytes w a x) (hy : Bytes w b y) (lx : x.length ≤ 140737488351232) (ly : y.length ≤ 140737488351232) :
    Calls Tryd.prog 29 #[.slice a x.length ca, .slice b y.length cb] w fun e w' => e = .returned (.bool (bytesLess x y)) ∧ Below w.heap.size w w' := by
  have Hx := hid hx
  have Hy := hid hy
  clear hx hy
  go_enter Tryd.func29, Tryd.ntmps29
  go_wp2
  go_loopw [5] (fun i wr => ∃ k : Nat, k ≤ x.length ∧ k ≤ y.length ∧ i = .int .i64 k ∧ x.take k = y.take k ∧ Below w.heap.size w wr) (fun i _ => x.length - (intOf i).toNat)
  case atStart => exact ⟨0, Nat.zero_le _, Nat.zero_le _, rfl, rfl, Below.refl _ _⟩
  case round =>
    obtain ⟨k, hk, hk2, rfl, hpre, hbel⟩ := hrel
    have Hpre := hid hpre
    have Hbel := hid hbel
    clear hpre hbel
    by_cases hlt : k < x.length
    · have f1 : decide ((k : Int) < (x.length : Int)) = true := by simp; omega
      by_cases hlt2 : k < y.length
      · have f2 : decide ((k : Int) < (y.length : Int)) = true := by simp; omega
        obtain ⟨b1, o1, ha, hc1⟩ := (Hx.out.below Hbel.out) k hlt
        obtain ⟨b2, o2, hb, hc2⟩ := (Hy.out.below Hbel.out) k hlt2
        have HX : Hid (x.take (k + 1) = x.take k ++ [x[k]]) := List.take_succ_eq_append_getElem hlt
        have HY : Hid (y.take (k + 1) = y.take k ++ [y[k]]) := List.take_succ_eq_append_getElem hlt2
        have HN := hid (less_at x y k hlt hlt2 Hpre.out)
        generalize x[k] = c1 at *
        generalize y[k] = c2 at *
        subst ha
        subst hb
        by_cases hc : c1 = c2
        · have e1 : ((c1.toNat : Int) != (c2.toNat : Int)) = false := by rw [hc]; simp
          have H12 := hid hc
          clear hc
          go_wp2
          go_quiet (fail)
          go_wp2
          go_roundw
          case rel => exact ⟨k + 1, by omega, by omega, by go_num, by rw [HX.out, HY.out, Hpre.out, H12.out], Hbel.out.trans (below_drewN _ _ _)⟩
          case measure => simp [intOf]; omega
        · have e1 : ((c1.toNat : Int) != (c2.toNat : Int)) = true := by
            rw [bne_iff_ne]
            intro e
            exact hc (UInt8.toNat_inj.1 (by omega))
          have Hne := hid (HN.out hc)
          clear hc
          go_wp2
          go_quiet (fail)
          go_wp2
          go_quiet (fail)
          go_wp2
          go_ret
          refine ⟨ret_bool ?_, Hbel.out.trans ((below_drewN _ _ _).trans (below_drewN _ _ _))⟩
          rw [Hne.out]
          simp [UInt8.lt_iff_toNat_lt]
      · have f2 : decide ((k : Int) < (y.length : Int)) = false := by simp; omega
        have He := hid (less_end x y k hk hk2 Hpre.out (.inr (by omega)))
        go_wp2
        go_ret
        exact ⟨ret_bool (by rw [He.out]), Hbel.out⟩
    · have f1 : decide ((k : Int) < (x.length : Int)) = false := by simp; omega
      have He := hid (less_end x y k hk hk2 Hpre.out (.inl (by omega)))
      go_wp2
      go_ret
      exact ⟨ret_bool (by rw [He.out]), Hbel.out⟩

theorem str_eq (s t : ByteArray) : s = t ↔ s.toList = t.toList := by
  constructor
  · intro h; rw [h]
  · intro h
    rw [Lib.toList_data, Lib.toList_data] at h
    rw [← Lib.mk_data s, ← Lib.mk_data t, h]

set_option maxHeartbeats 400000 in
theorem sameTexts_any (x y : List ByteArray) (a b : Option Addr) (ca cb : Nat) (w : World) (hx : Texts w a x) (hy : Texts w b y) (lx : x.length ≤ 140737488351232) (ly : y.length ≤ 140737488351232) :
    Calls Tryd.prog 18 #[.slice a x.length ca, .slice b y.length cb] w fun e w' => e = .returned (.bool (decide (x = y))) ∧ Below w.heap.size w w' := by
  have Hx := hid hx
  have Hy := hid hy
  clear hx hy
  by_cases hl : x.length = y.length
  · have d1 : ((x.length : Int) != (y.length : Int)) = false := by rw [bne_eq_false_iff_eq]; omega
    have Hl := hid hl
    clear hl
    go_enter Tryd.func18, Tryd.ntmps18
    go_wp2
    go_loopw [5] (fun i wr => ∃ k : Nat, k ≤ x.length ∧ i = .int .i64 k ∧ x.take k = y.take k ∧ Below w.heap.size w wr) (fun i _ => x.length - (intOf i).toNat)
    case atStart => exact ⟨0, Nat.zero_le _, rfl, rfl, Below.refl _ _⟩
    case round =>
      obtain ⟨k, hk, rfl, hpre, hbel⟩ := hrel
      have Hpre := hid hpre
      have Hbel := hid hbel
      clear hpre hbel
      by_cases hlt : k < x.length
      · have hlt2 : k < y.length := by have := Hl.out; omega
        obtain ⟨b1, o1, ha, hc1⟩ := (Hx.out.below Hbel.out) k hlt
        obtain ⟨b2, o2, hb, hc2⟩ := (Hy.out.below Hbel.out) k hlt2
        have HX : Hid (x.take (k + 1) = x.take k ++ [x[k]]) := List.take_succ_eq_append_getElem hlt
        have HY : Hid (y.take (k + 1) = y.take k ++ [y[k]]) := List.take_succ_eq_append_getElem hlt2
        have HN : Hid (x[k] ≠ y[k] → x ≠ y) := fun h e => h (by subst e; rfl)
        generalize x[k] = c1 at *
        generalize y[k] = c2 at *
        subst ha
        subst hb
        by_cases hc : c1 = c2
        · have e1 : (c1.toList == c2.toList) = true := by rw [hc]; simp
          have H12 := hid hc
          clear hc
          go_wp2
          go_quiet (fail)
          go_wp2
          go_roundw
          case rel => exact ⟨k + 1, by omega, by go_num, by rw [HX.out, HY.out, Hpre.out, H12.out], Hbel.out.trans (below_drewN _ _ _)⟩
          case measure => simp [intOf]; omega
        · have e1 : (c1.toList == c2.toList) = false := by
            rw [beq_eq_false_iff_ne]
            exact fun e => hc ((str_eq _ _).2 e)
          have Hne := hid (HN.out hc)
          clear hc
          go_wp2
          go_quiet (fail)
          go_wp2
          go_ret
          exact ⟨ret_bool (by simp [Hne.out]), Hbel.out.trans (below_drewN _ _ _)⟩
      · go_wp2
        go_ret
        refine ⟨ret_bool ?_, Hbel.out⟩
        have h := Hpre.out
        rw [List.take_of_length_le (by omega), List.take_of_length_le (by have := Hl.out; omega)] at h
        simp [h]
  · have d1 : ((x.length : Int) != (y.length : Int)) = true := by rw [bne_iff_ne]; omega
    have hne : decide (x = y) = false := by simp; intro e; exact hl (congrArg List.length e)
    rw [hne]
    clear hl hne
    go_enter Tryd.func18, Tryd.ntmps18
    go_wp2
    go_ret
    exact ⟨rfl, Below.refl _ _⟩

theorem ahead_pre (p x y : List (List UInt8)) : ahead (p ++ x) (p ++ y) = ahead x y := by
  induction p with
  | nil => rfl
  | cons c p ih => simp [ahead, ih]
theorem ahead_at (x y : List (List UInt8)) (k : Nat) (hx : k < x.length) (hy : k < y.length) (h : x.take k = y.take k) (hne : x[k] ≠ y[k]) : ahead x y = bytesLess x[k] y[k] := by
  have e1 : x = x.take k ++ x[k] :: x.drop (k + 1) := by rw [← List.drop_eq_getElem_cons hx, List.take_append_drop]
  have e2 : y = x.take k ++ y[k] :: y.drop (k + 1) := by rw [h, ← List.drop_eq_getElem_cons hy, List.take_append_drop]
  have h4 : ahead x y = ahead (x.take k ++ x[k] :: x.drop (k + 1)) (x.take k ++ y[k] :: y.drop (k + 1)) := by rw [← e1, ← e2]
  rw [h4, ahead_pre, ahead, if_neg hne]
theorem ahead_end (x y : List (List UInt8)) (k : Nat) (hx : k ≤ x.length) (hy : k ≤ y.length) (h : x.take k = y.take k) (hk : k = x.length ∨ k = y.length) : ahead x y = decide (x.length < y.length) := by
  have e2 : y = x.take k ++ y.drop k := by rw [h, List.take_append_drop]
  have e1 : x = x.take k ++ x.drop k := by rw [List.take_append_drop]
  have h4 : ahead x y = ahead (x.take k ++ x.drop k) (x.take k ++ y.drop k) := by rw [← e1, ← e2]
  rw [h4, ahead_pre]
  by_cases hxe : k = x.length
  · have : x.drop k = [] := List.drop_eq_nil_of_le (by omega)
    rw [this]
    cases hy' : y.drop k with
    | nil =>
      have := List.drop_eq_nil_iff.1 hy'
      have h5 : ¬ x.length < y.length := by omega
      simp [ahead, h5]
    | cons c r =>
      have h6 : ¬ y.length ≤ k := fun h' => by rw [List.drop_eq_nil_of_le h'] at hy'; cases hy'
      have h5 : x.length < y.length := by omega
      simp [ahead, h5]
  · have : y.drop k = [] := List.drop_eq_nil_of_le (by omega)
    rw [this]
    have h5 : ¬ x.length < y.length := by omega
    cases x.drop k <;> simp [ahead, h5]

theorem bs_take (x y : List ByteArray) (k : Nat) (h : x.take k = y.take k) : (bs x).take k = (bs y).take k := by
  unfold bs
  rw [← List.map_take, ← List.map_take, h]

set_option maxHeartbeats 400000 in
theorem before_any (x y : List ByteArray) (a b : Option Addr) (ca cb : Nat) (w : World) (hx : Texts w a x) (hy : Texts w b y) (lx : x.length ≤ 140737488351232) (ly : y.length ≤ 140737488351232) :
    Calls Tryd.prog 30 #[.slice a x.length ca, .slice b y.length cb] w fun e w' => e = .returned (.bool (ahead (bs x) (bs y))) ∧ Below w.heap.size w w' := by
  have Hx := hid hx
  have Hy := hid hy
  clear hx hy
  have lbx : (bs x).length = x.length := by simp [bs]
  have lby : (bs y).length = y.length := by simp [bs]
  have Hbx := hid lbx
  have Hby := hid lby
  clear lbx lby
  go_enter Tryd.func30, Tryd.ntmps30
  go_wp2
  go_loopw [5] (fun i wr => ∃ k : Nat, k ≤ x.length ∧ k ≤ y.length ∧ i = .int .i64 k ∧ x.take k = y.take k ∧ Below w.heap.size w wr) (fun i _ => x.length - (intOf i).toNat)
  case atStart => exact ⟨0, Nat.zero_le _, Nat.zero_le _, rfl, rfl, Below.refl _ _⟩
  case round =>
    obtain ⟨k, hk, hk2, rfl, hpre, hbel⟩ := hrel
    have Hpre := hid hpre
    have Hbel := hid hbel
    clear hpre hbel
    by_cases hlt : k < x.length
    · have f1 : decide ((k : Int) < (x.length : Int)) = true := by simp; omega
      by_cases hlt2 : k < y.length
      · have f2 : decide ((k : Int) < (y.length : Int)) = true := by simp; omega
        obtain ⟨b1, o1, ha, hc1⟩ := (Hx.out.below Hbel.out) k hlt
        obtain ⟨b2, o2, hb, hc2⟩ := (Hy.out.below Hbel.out) k hlt2
        have HX : Hid (x.take (k + 1) = x.take k ++ [x[k]]) := List.take_succ_eq_append_getElem hlt
        have HY : Hid (y.take (k + 1) = y.take k ++ [y[k]]) := List.take_succ_eq_append_getElem hlt2
        have HN : Hid (x[k].data.toList ≠ y[k].data.toList → ahead (bs x) (bs y) = bytesLess x[k].data.toList y[k].data.toList) := fun hne => by
          have := ahead_at (bs x) (bs y) k (by rw [Hbx.out]; exact hlt) (by rw [Hby.out]; exact hlt2) (bs_take x y k Hpre.out)
          simp only [bs, List.getElem_map] at this
          exact this hne
        generalize x[k] = c1 at *
        generalize y[k] = c2 at *
        subst ha
        subst hb
        by_cases hc : c1 = c2
        · have e1 : (c1.toList == c2.toList) = true := by rw [hc]; simp
          have H12 := hid hc
          clear hc
          go_wp2
          go_quiet (fail)
          go_wp2
          go_roundw
          case rel => exact ⟨k + 1, by omega, by omega, by go_num, by rw [HX.out, HY.out, Hpre.out, H12.out], Hbel.out.trans (below_drewN _ _ _)⟩
          case measure => simp [intOf]; omega
        · have e1 : (c1.toList == c2.toList) = false := by
            rw [beq_eq_false_iff_ne]
            exact fun e => hc ((str_eq _ _).2 e)
          have Hne := hid (HN.out (by rw [← Lib.toList_data, ← Lib.toList_data]; exact fun e => hc ((str_eq _ _).2 e)))
          clear hc
          go_wp2
          go_quiet (fail)
          go_wp2
          go_quiet (fail)
          go_wp2
          go_ret
          refine ⟨ret_bool ?_, Hbel.out.trans ((below_drewN _ _ _).trans (below_drewN _ _ _))⟩
          rw [Hne.out, Lib.toList_data, Lib.toList_data]
      · have f2 : decide ((k : Int) < (y.length : Int)) = false := by simp; omega
        have He := hid (ahead_end (bs x) (bs y) k (by rw [Hbx.out]; exact hk) (by rw [Hby.out]; exact hk2) (bs_take x y k Hpre.out) (.inr (by rw [Hby.out]; omega)))
        go_wp2
        go_ret
        exact ⟨ret_bool (by rw [He.out, Hbx.out, Hby.out]), Hbel.out⟩
    · have f1 : decide ((k : Int) < (x.length : Int)) = false := by simp; omega
      have He := hid (ahead_end (bs x) (bs y) k (by rw [Hbx.out]; exact hk) (by rw [Hby.out]; exact hk2) (bs_take x y k Hpre.out) (.inl (by rw [Hbx.out]; omega)))
      go_wp2
      go_ret
      exact ⟨ret_bool (by rw [He.out, Hbx.out, Hby.out]), Hbel.out⟩
end Go.Proofs.YtgjahhfpfdgjhaaDoor
