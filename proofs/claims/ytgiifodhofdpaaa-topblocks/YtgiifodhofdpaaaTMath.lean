/- Rows and their columns: what is read of what was written. -/
import Derived.Test.YtgiifodhofdpaaaTCols
namespace Go.Proofs.Ytgiifodhofdpaaa
open Go.RowKit
set_option linter.unusedVariables false

theorem cols_body (cs : List (List UInt8)) (hs : small cs) (s : List UInt8) : cols cs.length (body cs ++ s) = if s = [] then some cs else none := by
  induction cs with
  | nil => simp [cols, body]
  | cons c cs ih =>
    have hc : c.length < 256 := hs c (by simp)
    have e : (UInt8.ofNat c.length).toNat = c.length := by rw [UInt8.toNat_ofNat']; omega
    have ih' := ih (fun x hx => hs x (by simp [hx]))
    simp only [body, col, List.cons_append, List.append_assoc, List.length_cons]
    rw [cols_step _ _ _ (by rw [e]; simp), e, List.drop_left, List.take_left, ih']
    by_cases h : s = [] <;> simp [h]

theorem cols_cut (cs : List (List UInt8)) (hs : small cs) (j : Nat) (hj : j < (body cs).length) : cols cs.length ((body cs).take j) = none := by
  induction cs generalizing j with
  | nil => simp [body] at hj
  | cons c cs ih =>
    have hc : c.length < 256 := hs c (by simp)
    have e : (UInt8.ofNat c.length).toNat = c.length := by rw [UInt8.toNat_ofNat']; omega
    cases j with
    | zero => simp [cols]
    | succ j =>
      simp only [body, col, List.cons_append, List.take_succ_cons, List.length_cons]
      by_cases h : j < c.length
      · rw [cols, if_pos (by rw [e, List.length_take, List.length_append]; omega)]
      · have hl : (c ++ body cs).length = c.length + (body cs).length := List.length_append
        rw [cols_step _ _ _ (by rw [e, List.length_take, hl]; omega), e]
        have e2 : ((c ++ body cs).take j).drop c.length = (body cs).take (j - c.length) := by
          rw [List.take_append, List.take_of_length_le (by omega), List.drop_left]
        rw [e2, ih (fun x hx => hs x (by simp [hx])) (j - c.length) (by
          simp only [body, col, List.cons_append, List.length_cons, List.length_append] at hj
          omega)]
        rfl

theorem rowRes_ok (l : List ByteArray) (h : rowErr l = 0) : rowRes l = rowOf (bs l) := by unfold rowRes; rw [if_pos h]
theorem rowErr_facts (l : List ByteArray) (h : rowErr l = 0) : l.length ≤ 8 ∧ (rowOf (bs l)).length ≤ 72 ∧ small (bs l) := by
  unfold rowErr at h
  split at h
  · cases h
  · split at h
    · cases h
    · split at h
      · cases h
      · rename_i h1 h2 h3
        refine ⟨by omega, by omega, fun c hc => ?_⟩
        obtain ⟨s, hs, rfl⟩ := List.mem_map.1 hc
        have : ¬ 70 < s.size := fun h' => h2 (List.any_eq_true.2 ⟨s, hs, by simpa using h'⟩)
        rw [← Lib.size_eq]
        omega
theorem rowRes_le (l : List ByteArray) : (rowRes l).length ≤ 72 := by
  by_cases h : rowErr l = 0
  · rw [rowRes_ok l h]; exact (rowErr_facts l h).2.1
  · unfold rowRes; rw [if_neg h]; simp
theorem rowRes_pos (l : List ByteArray) (h : rowErr l = 0) : 0 < (rowRes l).length := by rw [rowRes_ok l h]; simp [rowOf]

theorem columnsOf_row (l : List ByteArray) (h : rowErr l = 0) (s : List UInt8) : columnsOf (rowRes l ++ s) = if s = [] then some (bs l) else none := by
  have hf := rowErr_facts l h
  rw [rowRes_ok l h]
  have e : (UInt8.ofNat (bs l).length).toNat = (bs l).length := by rw [UInt8.toNat_ofNat']; simp [bs]; omega
  have hb : (bs l).length = l.length := by simp [bs]
  simp only [rowOf, List.cons_append, columnsOf]
  rw [e, if_neg (by omega), cols_body _ hf.2.2]
theorem columnsOf_cut (l : List ByteArray) (h : rowErr l = 0) (m : Nat) (hm : m < (rowRes l).length) : columnsOf ((rowRes l).take m) = none := by
  have hf := rowErr_facts l h
  rw [rowRes_ok l h] at hm ⊢
  have e : (UInt8.ofNat (bs l).length).toNat = (bs l).length := by rw [UInt8.toNat_ofNat']; simp [bs]; omega
  have hb : (bs l).length = l.length := by simp [bs]
  cases m with
  | zero => rfl
  | succ m =>
    simp only [rowOf, List.take_succ_cons, columnsOf]
    rw [e, if_neg (by omega), cols_cut _ hf.2.2 m (by simp [rowOf] at hm; omega)]

theorem cut_err (l : List ByteArray) (h : rowErr l = 0) (m : Nat) (hm : m < (rowRes l).length) : colErr ((rowRes l).take m) = 3 := by
  have := rowRes_le l
  unfold colErr
  rw [if_neg (by rw [List.length_take]; omega), columnsOf_cut l h m hm]
  rfl
theorem on_err (l : List ByteArray) (h : rowErr l = 0) (c : UInt8) : colErr (rowRes l ++ [c]) = if (rowRes l).length = 72 then 6 else 3 := by
  have := rowRes_le l
  unfold colErr
  rw [columnsOf_row l h, List.length_append]
  by_cases h2 : (rowRes l).length = 72
  · rw [if_pos (by simp; omega), if_pos h2]
  · rw [if_neg (by simp; omega), if_neg h2]
    rfl

end Go.Proofs.Ytgiifodhofdpaaa
