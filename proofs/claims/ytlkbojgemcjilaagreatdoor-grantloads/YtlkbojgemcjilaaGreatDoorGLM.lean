/- Rows as they are handed in; a key parted at its first slash. -/
import Derived.Test.YtlkbojgemcjilaaGreatDoorGTo
import Derived.Test.YtlkbojgemcjilaaGreatDoorGRm
namespace Go.Proofs.YtlkbojgemcjilaaGreatDoor.Xr
open Go.RowKit Go.Maps
set_option linter.unusedVariables false
set_option maxRecDepth 20000
/-- rows as they lie, wherever a slice of them begins -/
def RIn (w : World) (a : Option Addr) (m : List Rw) : Prop := ∀ i (h : i < m.length), ∃ b o ad cap, a = some ⟨b, o, none⟩ ∧ w.cell? ⟨b, o + i * 2, none⟩ = some (.string m[i].key) ∧ w.cell? ⟨b, o + (i * 2 + 1), none⟩ = some (.slice ad m[i].cols.length cap) ∧ Texts w ad m[i].cols
theorem RIn.below {w w' : World} {a : Option Addr} {m : List Rw} (h : RIn w a m) (hb : Below w.heap.size w w') : RIn w' a m := fun i hi => by
  obtain ⟨b, o, ad, cap, e, h1, h2, h3⟩ := h i hi
  exact ⟨b, o, ad, cap, e, cell_on hb h1, cell_on hb h2, h3.below hb⟩
theorem RIn.of_own {w : World} {B : Nat} {v : Value} {rs : List RC} {m : List Rw} (h : w.ownsRow B 79 2 v rs.length (rcCells rs)) (hi : RowsIs w rs m) : ∃ a c, v = .slice a m.length c ∧ RIn w a m := by
  have hl := hi.length
  obtain ⟨a, c, rfl⟩ := slice_of_own h
  refine ⟨a, c, by rw [hl], fun i h9 => ?_⟩
  obtain ⟨g, cap, e, h1, h2⟩ := rows_at h i (by omega)
  have hr := RowsIs.get i (by omega) h9 hi
  cases e
  refine ⟨g, 0, rs[i].ad, rs[i].cap, rfl, ?_, ?_, hr.2.2.texts⟩
  · rw [Nat.zero_add, ← hr.1]; exact h1
  · rw [Nat.zero_add, ← hr.2.1]; exact h2
/-- what is small enough to be handed in -/
def Small (m : List Rw) : Prop := m.length ≤ 140737488351232 ∧ ∀ r ∈ m, r.key.size ≤ 140737488351232 ∧ r.cols.length ≤ 140737488351232 ∧ ∀ c ∈ r.cols, c.size ≤ 140737488351232
/-- a key, parted at its first slash -/
def cutS (s : ByteArray) : Option (ByteArray × ByteArray) := (s.data.toList.findIdx? (· == 47)).map fun i => (s.extract 0 i, s.extract (i + 1) s.size)
theorem numR_some {l : List UInt8} {lo hi n : Nat} (h : numR l lo hi = some n) : l = numT n ∧ lo ≤ n ∧ n ≤ hi := by
  unfold numR at h
  split at h
  · rename_i h1
    obtain rfl := Option.some.inj h
    exact ⟨(toNum_inv (show toNum l = ((toNum l).1, 0) by rw [← h1.1])).1, h1.2.1, h1.2.2⟩
  · cases h
theorem numR_numT (n lo hi : Nat) (h : n ≤ 4611686018427387904) (h1 : lo ≤ n) (h2 : n ≤ hi) : numR (numT n) lo hi = some n := by
  unfold numR
  rw [toNum_numT n h, if_pos ⟨rfl, h1, h2⟩]
theorem cut_some {s : ByteArray} {p : ByteArray × ByteArray} (h : cutS s = some p) : s = p.1 ++ ⟨#[47]⟩ ++ p.2 ∧ (47 : UInt8) ∉ p.1.data.toList := by
  unfold cutS at h
  cases hf : s.data.toList.findIdx? (· == 47) with
  | none => rw [hf] at h; cases h
  | some i =>
    rw [hf] at h
    simp only [Option.map_some] at h
    obtain rfl := Option.some.inj h
    obtain ⟨h1, h2, h3⟩ := List.findIdx?_eq_some_iff_getElem.1 hf
    have h4 : s.data.toList[i] = 47 := by simpa using h2
    have hs : s.size = s.data.toList.length := Lib.size_eq s
    have e1 : (s.extract 0 i).data.toList = s.data.toList.take i := by simp
    have e2 : (s.extract (i + 1) s.size).data.toList = s.data.toList.drop (i + 1) := by
      rw [hs]
      simp
      rw [List.take_of_length_le (by simp)]
    constructor
    · refine bytes_eqG ?_
      simp only [ByteArray.data_append, Array.toList_append]
      rw [e1, e2]
      show s.data.toList = (s.data.toList.take i ++ [47]) ++ s.data.toList.drop (i + 1)
      rw [← h4, List.append_assoc]
      show _ = s.data.toList.take i ++ (s.data.toList[i] :: s.data.toList.drop (i + 1))
      rw [← List.drop_eq_getElem_cons h1, List.take_append_drop]
    · intro hm
      rw [e1] at hm
      obtain ⟨j, hj, ej⟩ := List.mem_iff_getElem.1 hm
      have hj' : j < i := by rw [List.length_take] at hj; omega
      have := h3 j hj'
      rw [List.getElem_take] at ej
      simp [ej] at this
theorem cut_none {s : ByteArray} (h : cutS s = none) : (47 : UInt8) ∉ s.data.toList := by
  unfold cutS at h
  cases hf : s.data.toList.findIdx? (· == 47) with
  | some i => rw [hf] at h; cases h
  | none =>
    intro hm
    have := List.findIdx?_eq_none_iff.1 hf 47 hm
    simp at this
end Go.Proofs.YtlkbojgemcjilaaGreatDoor.Xr
