/- The parts of a key: what there is to say of them. -/
import Derived.Test.YtgjahhfpfdgjhaaDoorCFirstPart
import Derived.Test.YtgjahhfpfdgjhaaDoorCols
namespace Go.Proofs.YtgjahhfpfdgjhaaDoor
open Go.RowKit
set_option linter.unusedVariables false

def IsParts (x : List UInt8) (ps : List (List UInt8)) : Prop := keyOf ps = x ∧ 1 ≤ ps.length ∧ ps.length ≤ 8
open Classical in
noncomputable def partsOf (x : List UInt8) : Option (List (List UInt8)) := if h : ∃ ps, IsParts x ps then some h.choose else none
theorem partsOf_is {x : List UInt8} {ps : List (List UInt8)} (h : IsParts x ps) : partsOf x = some ps := by
  unfold partsOf
  rw [dif_pos ⟨ps, h⟩]
  congr 1
  have h2 := (⟨ps, h⟩ : ∃ ps, IsParts x ps).choose_spec
  exact (key_inj _ _).1 (h2.1.trans h.1.symm)
theorem partsOf_not {x : List UInt8} (h : ∀ ps, ¬ IsParts x ps) : partsOf x = none := dif_neg (fun ⟨ps, hp⟩ => h ps hp)
noncomputable def parErr (x : List UInt8) : Nat := if 64 < x.length then 6 else if (partsOf x).isNone then 3 else 0
noncomputable def parRes (x : List UInt8) : List ByteArray := if parErr x = 0 then ((partsOf x).getD []).map mkText else []
theorem parErr_none (x : List UInt8) (h1 : ¬ 64 < x.length) (h2 : ∀ ps, ¬ IsParts x ps) : parErr x = 3 ∧ parRes x = [] := by
  have e : parErr x = 3 := by unfold parErr; rw [if_neg h1, partsOf_not h2]; rfl
  exact ⟨e, by unfold parRes; rw [e]; rfl⟩
theorem parErr_some (x : List UInt8) (h1 : ¬ 64 < x.length) (ps : List (List UInt8)) (h2 : IsParts x ps) : parErr x = 0 ∧ parRes x = ps.map mkText := by
  have e : parErr x = 0 := by unfold parErr; rw [if_neg h1, partsOf_is h2]; rfl
  exact ⟨e, by unfold parRes; rw [e, partsOf_is h2]; rfl⟩
theorem parErr_zero (x : List UInt8) (h : parErr x = 0) : ¬ 64 < x.length ∧ ∃ ps, IsParts x ps ∧ parRes x = ps.map mkText := by
  by_cases h1 : 64 < x.length
  · unfold parErr at h; rw [if_pos h1] at h; cases h
  · refine ⟨h1, ?_⟩
    by_cases h2 : ∃ ps, IsParts x ps
    · obtain ⟨ps, hp⟩ := h2
      exact ⟨ps, hp, (parErr_some x h1 ps hp).2⟩
    · have := (parErr_none x h1 (fun ps hp => h2 ⟨ps, hp⟩)).1
      omega
theorem bs_mkT (cs : List (List UInt8)) : bs (cs.map mkText) = cs := by
  unfold bs mkText
  rw [List.map_map]
  conv => rhs; rw [← List.map_id cs]
  congr 1
theorem mk_bsT (l : List ByteArray) : (bs l).map mkText = l := by
  unfold bs mkText
  rw [List.map_map]
  conv => rhs; rw [← List.map_id l]
  congr 1
theorem par_back (x : List UInt8) (h : parErr x = 0) : keyErr (parRes x) = 0 ∧ keyRes (parRes x) = x := by
  obtain ⟨h1, ps, hp, e⟩ := parErr_zero x h
  have hk : keyErr (parRes x) = 0 := by
    unfold keyErr
    rw [e, bs_mkT, List.length_map, if_neg (by have := hp.2; omega), hp.1, if_neg h1]
  refine ⟨hk, ?_⟩
  unfold keyRes
  rw [hk, if_pos rfl, e, bs_mkT, hp.1]
theorem key_back (l : List ByteArray) (h : keyErr l = 0) : parErr (keyRes l) = 0 ∧ parRes (keyRes l) = l := by
  have hr : keyRes l = keyOf (bs l) := by unfold keyRes; rw [if_pos h]
  unfold keyErr at h
  by_cases h1 : l.length < 1 ∨ 8 < l.length
  · rw [if_pos h1] at h; cases h
  · rw [if_neg h1] at h
    by_cases h2 : 64 < (keyOf (bs l)).length
    · rw [if_pos h2] at h; cases h
    · have hl : (bs l).length = l.length := by unfold bs; simp
      obtain ⟨e1, e2⟩ := parErr_some (keyOf (bs l)) h2 (bs l) ⟨rfl, by omega, by omega⟩
      rw [hr]
      exact ⟨e1, by rw [e2, mk_bsT]⟩
theorem esc_le (p : List UInt8) : p.length ≤ (esc p).length := by rw [esc_length]; omega
theorem key_mem (ps : List (List UInt8)) (p : List UInt8) (h : p ∈ ps) : p.length ≤ (keyOf ps).length := by
  induction ps with
  | nil => cases h
  | cons q ps ih =>
    have := esc_le q
    simp only [keyOf, List.length_append, List.length_cons]
    rcases List.mem_cons.1 h with rfl | h
    · omega
    · have := ih h; omega
theorem parRes_sizes (x : List UInt8) : ∀ s ∈ parRes x, s.size ≤ 64 := fun s hs => by
  by_cases h : parErr x = 0
  · obtain ⟨h1, ps, hp, e⟩ := parErr_zero x h
    rw [e] at hs
    obtain ⟨p, hp', rfl⟩ := List.mem_map.1 hs
    have := key_mem ps p hp'
    rw [hp.1] at this
    show p.toArray.size ≤ 64
    simp
    omega
  · unfold parRes at hs
    rw [if_neg h] at hs
    cases hs
theorem parRes_length (x : List UInt8) : (parRes x).length ≤ 8 := by
  by_cases h : parErr x = 0
  · obtain ⟨h1, ps, hp, e⟩ := parErr_zero x h
    rw [e, List.length_map]
    exact hp.2.2
  · unfold parRes
    rw [if_neg h]
    simp
/-- where bytes begin with a part -/
theorem fp_some : ∀ (r : List UInt8) (t : List UInt8) (k : Nat), fp r = some (t, k) → r = esc t ++ 0 :: 1 :: r.drop k ∧ k ≤ r.length ∧ 2 ≤ k := by
  intro r
  induction h : r.length using Nat.strongRecOn generalizing r with
  | _ n ih =>
    intro t k hf
    match r, h, hf with
    | [], _, hf => cases hf
    | [c], _, hf => cases hf
    | c :: d :: r, h, hf =>
      rw [fp] at hf
      by_cases hc : c = 0
      · rw [if_pos hc] at hf
        subst hc
        by_cases hd : d = 1
        · rw [if_pos hd] at hf
          cases hf
          subst hd
          exact ⟨rfl, (by have h9 : r.length + 1 + 1 = n := h; omega), Nat.le_refl _⟩
        · rw [if_neg hd] at hf
          by_cases hd2 : d = 255
          · rw [if_pos hd2] at hf
            subst hd2
            cases hq : fp r with
            | none => rw [hq] at hf; cases hf
            | some q =>
              rw [hq] at hf
              cases hf
              obtain ⟨e, hl, h2⟩ := ih r.length (by have : r.length + 1 + 1 = n := h; omega) r rfl q.1 q.2 (by rw [hq])
              refine ⟨?_, (by have h9 : r.length + 1 + 1 = n := h; show q.2 + 2 ≤ n; omega), (by show 2 ≤ q.2 + 2; omega)⟩
              have e1 : esc (0 :: q.1) = 0 :: 255 :: esc q.1 := by simp [esc]
              rw [e1]
              show 0 :: 255 :: r = 0 :: 255 :: (esc q.1 ++ 0 :: 1 :: (0 :: 255 :: r).drop (q.2 + 2))
              rw [show (0 :: 255 :: r).drop (q.2 + 2) = r.drop q.2 from rfl, ← e]
          · rw [if_neg hd2] at hf
            cases hf
      · rw [if_neg hc] at hf
        cases hq : fp (d :: r) with
        | none => rw [hq] at hf; cases hf
        | some q =>
          rw [hq] at hf
          cases hf
          obtain ⟨e, hl, h2⟩ := ih (d :: r).length (by have : r.length + 1 + 1 = n := h; show r.length + 1 < n; omega) (d :: r) rfl q.1 q.2 (by rw [hq])
          have hl' : q.2 ≤ r.length + 1 := hl
          refine ⟨?_, (by have h9 : r.length + 1 + 1 = n := h; show q.2 + 1 ≤ n; omega), (by show 2 ≤ q.2 + 1; omega)⟩
          have e1 : esc (c :: q.1) = c :: esc q.1 := by simp [esc, hc]
          rw [e1]
          show c :: d :: r = c :: (esc q.1 ++ 0 :: 1 :: (c :: d :: r).drop (q.2 + 1))
          rw [show (c :: d :: r).drop (q.2 + 1) = (d :: r).drop q.2 from rfl, ← e]
theorem fp_key (p s : List UInt8) : fp (esc p ++ 0 :: 1 :: s) = some (p, (esc p).length + 2) := by
  induction p with
  | nil => simp [esc, fp]
  | cons c p ih =>
    by_cases hc : c = 0
    · subst hc
      have e1 : esc (0 :: p) = 0 :: 255 :: esc p := by simp [esc]
      rw [e1]
      show fp (0 :: 255 :: (esc p ++ 0 :: 1 :: s)) = _
      rw [fp, if_pos rfl, if_neg (by decide), if_pos rfl, ih]
      rfl
    · have e1 : esc (c :: p) = c :: esc p := by simp [esc, hc]
      rw [e1]
      show fp (c :: (esc p ++ 0 :: 1 :: s)) = _
      cases hq : esc p ++ 0 :: 1 :: s with
      | nil => simp at hq
      | cons d r =>
        rw [fp, if_neg hc, ← hq, ih]
        rfl
theorem fp_none (r : List UInt8) (h : fp r = none) (h0 : r ≠ []) (ps : List (List UInt8)) : keyOf ps ≠ r := fun e => by
  cases ps with
  | nil => exact h0 e.symm
  | cons p ps =>
    rw [← e, keyOf, fp_key] at h
    cases h
end Go.Proofs.YtgjahhfpfdgjhaaDoor
