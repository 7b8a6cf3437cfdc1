/- The reference's Split. -/
import Derived.Test.YtlkbojgemcjilaaGreatDoorGLM
import Derived.Test.YtlkbojgemcjilaaGreatDoorGRTo
import Derived.BigQuiet
namespace Go.Proofs.YtlkbojgemcjilaaGreatDoor.Xr
open Go.RowKit Go.Maps
set_option linter.unusedVariables false
set_option maxRecDepth 20000
def cutP (s : ByteArray) : ByteArray × ByteArray := (cutS s).getD (s, ⟨#[]⟩)
theorem find_lt {s : ByteArray} {i : Nat} (h : s.data.toList.findIdx? (· == 47) = some i) : i < s.size := by
  obtain ⟨h1, _⟩ := List.findIdx?_eq_some_iff_getElem.1 h
  rw [Lib.size_eq]
  exact h1
theorem find_first {l : List UInt8} {k : Nat} (hk : k < l.length) (hall : (l.take k).all (· != 47) = true) (h : l[k] = 47) : l.findIdx? (· == 47) = some k := by
  rw [List.findIdx?_eq_some_iff_getElem]
  refine ⟨hk, by simp [h], fun j hj => ?_⟩
  have h1 := List.all_eq_true.1 hall (l[j]'(by omega)) (by
    rw [List.mem_iff_getElem]
    exact ⟨j, by rw [List.length_take]; omega, by rw [List.getElem_take]⟩)
  simpa using h1
theorem find_none {l : List UInt8} (hall : l.all (· != 47) = true) : l.findIdx? (· == 47) = none := by
  rw [List.findIdx?_eq_none_iff]
  intro x hx
  have := List.all_eq_true.1 hall x hx
  simpa using this
set_option maxHeartbeats 2000000 in
theorem rsplit_any (s : ByteArray) (hs : s.size ≤ 140737488351232) (w : World) : Calls Tryz.prog 50 #[.string s] w fun e w' => e = .returned (.tuple #[.string (cutP s).1, .string (cutP s).2, .bool (cutS s).isSome]) ∧ Below w.heap.size w w' := by
  have hsz : s.size = s.data.toList.length := Lib.size_eq s
  go_enter Tryz.func50, Tryz.ntmps50
  go_wp2
  go_loopw [5] (fun i wr => ∃ k : Nat, k ≤ s.size ∧ i = .int .i64 (k : Int) ∧ (s.data.toList.take k).all (· != 47) = true ∧ wr = w) (fun i _ => s.size - (intOf i).toNat)
  case atStart => exact ⟨0, Nat.zero_le _, rfl, rfl, rfl⟩
  case round =>
    obtain ⟨k, hk, rfl, hall, rfl⟩ := hrel
    have Hall := hid hall
    have Hsz := hid hsz
    clear hall hsz
    by_cases hlt : k < s.size
    · have g1 : (k : Int) < (s.size : Int) := by omega
      have g0 : (0 : Int) ≤ (k : Int) := by omega
      have hx : s.data.toList[k]'(by rw [← Hsz.out]; exact hlt) = s[k]'hlt := rfl
      have Hx := hid hx
      clear hx
      by_cases he : s[k]'hlt = 47
      · have Hf : Hid (s.data.toList.findIdx? (· == 47) = some k) := find_first _ Hall.out (Hx.out.trans he)
        have e1 : (((s[k]'hlt).toNat : Int) == 47) = true := by rw [he]; rfl
        have Hc : Hid (cutS s = some (s.extract 0 k, s.extract (k + 1) s.size)) := by
          show cutS s = _
          unfold cutS
          rw [Hf.out]
          rfl
        have q1 : (k : Int) ≤ (s.size : Int) := by omega
        have q2 : (0 : Int) ≤ (k : Int) + 1 := by omega
        have q3 : (k : Int) + 1 ≤ (s.size : Int) := by omega
        have e3 : ((k : Int) + 1).toNat = k + 1 := by omega
        clear he
        go_wp2
        go_quiet (fail)
        go_wp2
        go_ret3
        unfold cutP
        rw [Hc.out]
        exact ⟨rfl, below_drewN _ _ _⟩
      · have e1 : (((s[k]'hlt).toNat : Int) == 47) = false := by
          rw [beq_eq_false_iff_ne]
          intro e
          refine he ?_
          rw [← UInt8.toNat_inj]
          have h47 : (47 : UInt8).toNat = 47 := rfl
          omega
        have Hne := hid he
        clear he
        go_wp2
        go_roundw
        case rel =>
          refine ⟨k + 1, by omega, by go_num, ?_, by first | rfl | trivial⟩
          rw [List.take_succ_eq_append_getElem (by rw [← Hsz.out]; exact hlt), List.all_append, Hall.out, Hx.out]
          simpa using Hne.out
        case measure => simp [intOf]; omega
    · have g1 : ¬ (k : Int) < (s.size : Int) := by omega
      have Hc : Hid (cutS s = none) := by
        have h1 := Hall.out
        rw [List.take_of_length_le (by have := Hsz.out; omega)] at h1
        show cutS s = none
        unfold cutS
        rw [find_none h1]
        rfl
      go_wp2
      go_ret3
      unfold cutP
      rw [Hc.out]
      exact ⟨rfl, Below.refl _ _⟩
end Go.Proofs.YtlkbojgemcjilaaGreatDoor.Xr
