/- Rising of rows as they are handed in. -/
import Derived.Test.YtlkbojgemcjilaaGreatDoorGCut
import Derived.Test.YtlkbojgemcjilaaGreatDoorGSp
import Derived.Sort.Walk0
namespace Go.Proofs.YtlkbojgemcjilaaGreatDoor.Xr
open Go.RowKit Go.Maps
set_option linter.unusedVariables false
set_option maxRecDepth 20000
def Rise (m : List Rw) : Prop := m.Pairwise fun a b => a.key.toList < b.key.toList
theorem cutP_size (s : ByteArray) : (cutP s).1.size ≤ s.size ∧ (cutP s).2.size ≤ s.size := by
  unfold cutP cutS
  cases s.data.toList.findIdx? (· == 47) with
  | none => exact ⟨Nat.le_refl _, Nat.zero_le _⟩
  | some i =>
    simp only [Option.map_some, Option.getD_some]
    constructor
    · rw [ByteArray.size_extract]; omega
    · rw [ByteArray.size_extract]; omega
/-- each key lies above the one ahead -/
def riseB : List Rw → Bool
  | a :: b :: m => decide (a.key.toList < b.key.toList) && riseB (b :: m)
  | _ => true
theorem lt_tr {x y z : List UInt8} (h1 : x < y) (h2 : y < z) : x < z := List.lt_trans h1 h2
theorem riseB_iff : ∀ m : List Rw, riseB m = true ↔ Rise m
  | [] => ⟨fun _ => List.Pairwise.nil, fun _ => rfl⟩
  | [a] => ⟨fun _ => List.pairwise_singleton _ _, fun _ => rfl⟩
  | a :: b :: m => by
    unfold riseB
    rw [Bool.and_eq_true, riseB_iff (b :: m), decide_eq_true_iff]
    constructor
    · rintro ⟨h1, h2⟩
      refine List.pairwise_cons.2 ⟨fun x hx => ?_, h2⟩
      rcases List.mem_cons.1 hx with rfl | hx
      · exact h1
      · exact lt_tr h1 ((List.pairwise_cons.1 h2).1 x hx)
    · intro h
      obtain ⟨h1, h2⟩ := List.pairwise_cons.1 h
      exact ⟨h1 b List.mem_cons_self, h2⟩
theorem riseB_snoc : ∀ (m : List Rw) (a b : Rw), riseB (m ++ [a, b]) = (riseB (m ++ [a]) && decide (a.key.toList < b.key.toList))
  | [], a, b => by simp [riseB]
  | [x], a, b => by simp [riseB]
  | x :: y :: m, a, b => by
    have ih := riseB_snoc (y :: m) a b
    simp only [List.cons_append] at ih ⊢
    rw [riseB, riseB, ih, Bool.and_assoc]
theorem riseB_take {m : List Rw} {k : Nat} (h0 : 0 < k) (hk : k < m.length) : riseB (m.take (k + 1)) = (riseB (m.take k) && decide ((m[k - 1]'(by omega)).key.toList < m[k].key.toList)) := by
  obtain ⟨j, rfl⟩ : ∃ j, k = j + 1 := ⟨k - 1, by omega⟩
  have e1 : m.take (j + 1) = m.take j ++ [m[j]] := List.take_succ_eq_append_getElem (by omega)
  have e2 : m.take (j + 1 + 1) = m.take j ++ [m[j], m[j + 1]] := by
    rw [List.take_succ_eq_append_getElem hk, e1, List.append_assoc]
    rfl
  rw [e2, riseB_snoc, e1]
  simp
theorem riseB_pre {m : List Rw} (k : Nat) (h : riseB m = true) : riseB (m.take k) = true := (riseB_iff _).2 (((riseB_iff _).1 h).sublist (List.take_sublist _ _))
set_option maxHeartbeats 4000000 in
theorem rising_any {w : World} {m : List Rw} (a : Option Addr) (n cap : Nat) (hn : n = m.length) (h : RIn w a m) (hs : m.length ≤ 140737488351232) :
    Calls Tryz.prog 47 #[.slice a n cap] w fun e w' => e = .returned (.bool (riseB m)) ∧ Below w.heap.size w w' := by
  have H := hid h
  have Hn := hid hn
  have hn9 : n ≤ 140737488351232 := by omega
  clear h hn hs
  go_enter Tryz.func47, Tryz.ntmps47
  go_wp2
  go_loopw [3] (fun i wr => ∃ k : Nat, i = .int .i64 (k : Int) ∧ 0 < k ∧ k ≤ max 1 n ∧ riseB (m.take k) = true ∧ Below w.heap.size w wr) (fun i _ => n + 1 - (intOf i).toNat)
  case atStart =>
    refine ⟨1, rfl, by omega, by omega, ?_, Below.refl _ _⟩
    cases m with
    | nil => rfl
    | cons x m => rfl
  case round =>
    obtain ⟨k, rfl, h0, hk, hpre, hb⟩ := hrel
    have Hpre := hid hpre
    have HB := hid hb
    clear hpre hb
    by_cases hlt : k < n
    · have g1 : (k : Int) < (n : Int) := by omega
      have hkm : k < m.length := by have := Hn.out; omega
      obtain ⟨j, rfl⟩ : ∃ j, k = j + 1 := ⟨k - 1, by omega⟩
      obtain ⟨b, o, ad, cp, rfl, c1, _⟩ := H.out.below HB.out j (by omega)
      obtain ⟨b2, o2, ad2, cp2, e2, c2, _⟩ := H.out.below HB.out (j + 1) hkm
      injection e2 with e3
      injection e3 with e3 e4
      subst e3 e4
      have Hst := hid (riseB_take h0 hkm)
      simp only [Nat.add_sub_cancel] at Hst
      generalize m[j].key = x at *
      generalize m[j + 1].key = y at *
      have g2 : IntKind.i64.wrap ((j + 1 : Nat) - 1 : Int) = (j : Int) := by rw [IntKind.wrap_i64]; omega
      have g3 : (j : Int) < (n : Int) := by omega
      have g4 : (0 : Int) ≤ (j : Int) := by omega
      have g5 : (0 : Int) ≤ ((j + 1 : Nat) : Int) := by omega
      have C1 := hid c1
      have C2 := hid c2
      by_cases hxy : x.toList < y.toList
      · have e5 : Go.Op.bytesLess x.toList y.toList = true := by rw [bytesLess_eq]; exact decide_eq_true hxy
        have Hlt := hid hxy
        clear hxy
        go_wp2
        go_quiet (fail)
        go_wp2
        go_roundw
        case rel => exact ⟨j + 1 + 1, by go_num, by omega, by omega, by rw [Hst.out, Hpre.out, decide_eq_true Hlt.out]; rfl, HB.out.trans (below_drewN _ _ _)⟩
        case measure => simp [intOf]; omega
      · have e5 : Go.Op.bytesLess x.toList y.toList = false := by rw [bytesLess_eq]; exact decide_eq_false hxy
        have Hlt := hid hxy
        clear hxy
        go_wp2
        go_quiet (fail)
        go_wp2
        go_ret
        refine ⟨?_, HB.out.trans (below_drewN _ _ _)⟩
        have : riseB m = false := by
          cases hr : riseB m with
          | false => rfl
          | true =>
            have h9 := riseB_pre (j + 1 + 1) hr
            rw [Hst.out, Hpre.out, decide_eq_false Hlt.out] at h9
            cases h9
        rw [this]
        rfl
    · have g1 : ¬ (k : Int) < (n : Int) := by omega
      have hm : Hid (riseB m = true) := by
        have h1 := Hpre.out
        by_cases h2 : m.length ≤ k
        · rw [List.take_of_length_le h2] at h1; exact h1
        · have := Hn.out; omega
      go_wp2
      go_ret
      refine ⟨?_, HB.out⟩
      rw [hm.out]
      rfl
end Go.Proofs.YtlkbojgemcjilaaGreatDoor.Xr
