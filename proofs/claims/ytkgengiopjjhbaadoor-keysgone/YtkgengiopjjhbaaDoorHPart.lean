/- Bytes in parts: what a running hash has of the bytes so far. -/
import Derived.Test.YtkgengiopjjhbaaDoorHStart
import Derived.Deep.MidRow
namespace Go.Proofs.YtkgengiopjjhbaaDoor
open Go.RowKit
set_option linter.unusedVariables false
set_option maxRecDepth 20000

/-- bytes that lie in a row of the world -/
def Bytes (w : World) (a : Option Addr) (l : List UInt8) : Prop := ∀ i (h : i < l.length), ∃ b o, a = some ⟨b, o, none⟩ ∧ w.cell? ⟨b, o + i, none⟩ = some (.int .u8 (l[i].toNat : Int))
theorem Bytes.below {w w' : World} {a : Option Addr} {l : List UInt8} (h : Bytes w a l) (hb : Below w.heap.size w w') : Bytes w' a l := fun i hi => by
  obtain ⟨b, o, ha, hc⟩ := h i hi
  exact ⟨b, o, ha, (hb.cell (World.block_lt_of_cell? _ _ hc)).trans hc⟩
theorem cellsOf_length (a : List UInt8) : (cellsOf a).length = a.length := by simp [cellsOf]
theorem cellsOf_one (a : List UInt8) : ∀ u ∈ cellsOf a, u.oneCell' = true := by
  intro u hu
  obtain ⟨c, _, rfl⟩ := List.mem_map.1 hu
  rfl
theorem cellsOf_get (l : List UInt8) (j : Nat) (h : j < l.length) : (cellsOf l)[j]? = some (.int .u8 (l[j].toNat : Int)) := by
  simp [cellsOf, h]
theorem cellsOf_append (a b : List UInt8) : cellsOf (a ++ b) = cellsOf a ++ cellsOf b := by simp [cellsOf]

/-- what a running hash has of the bytes so far, the last f of them in its block -/
structure Part (D : List UInt8) (s : S8) (bk : List UInt8) (f : Nat) : Prop where
  st : s = blks init D
  len : bk.length = 64
  fl : f = D.length % 64
  tail : bk.take f = D.drop (D.length - f)
theorem Part.lt {D : List UInt8} {s : S8} {bk : List UInt8} {f : Nat} (h : Part D s bk f) : f < 64 := by rw [h.fl]; omega
theorem part_nil : Part [] init (List.replicate 64 0) 0 := ⟨rfl, by simp, rfl, rfl⟩
/-- a block is full -/
theorem Part.step {D : List UInt8} {s : S8} {bk : List UInt8} {f : Nat} (h : Part D s bk f) (c : List UInt8) (hc : c.length = 64 - f) : Part (D ++ c) (comp s (bk.take f ++ c)) (bk.take f ++ c) 0 := by
  have hf := h.lt
  have h1 : (bk.take f ++ c).length = 64 := by simp [h.len]; omega
  have h2 : (D.take (D.length - f)).length % 64 = 0 := by simp; have := h.fl; omega
  have h3 : D = D.take (D.length - f) ++ D.drop (D.length - f) := (List.take_append_drop _ _).symm
  have h4 : (D.drop (D.length - f)).length = f := by simp; have := h.fl; omega
  refine ⟨?_, h1, by simp; have := h.fl; omega, ?_⟩
  · have e1 : blks init D = blks init (D.take (D.length - f)) := by
      conv => lhs; rw [h3]
      exact blks_rest _ _ _ h2 (by omega)
    have e2 : D ++ c = D.take (D.length - f) ++ (bk.take f ++ c) := by
      conv => lhs; rw [h3]
      rw [List.append_assoc, h.tail]
    rw [e2, blks_append _ _ _ h2, blks_one _ _ h1, h.st, e1]
  · simp
/-- fewer bytes than would fill it -/
theorem Part.more {D : List UInt8} {s : S8} {bk : List UInt8} {f : Nat} (h : Part D s bk f) (c : List UInt8) (hc : f + c.length < 64) : Part (D ++ c) s (bk.take f ++ (c ++ bk.drop (f + c.length))) (f + c.length) := by
  have hf := h.lt
  have h2 : (D.take (D.length - f)).length % 64 = 0 := by simp; have := h.fl; omega
  have h3 : D = D.take (D.length - f) ++ D.drop (D.length - f) := (List.take_append_drop _ _).symm
  have h4 : (D.drop (D.length - f)).length = f := by simp; have := h.fl; omega
  have h5 : f ≤ D.length := by have := h.fl; omega
  refine ⟨?_, by simp [h.len]; omega, by simp; have := h.fl; omega, ?_⟩
  · have e1 : blks init D = blks init (D.take (D.length - f)) := by
      conv => lhs; rw [h3]
      exact blks_rest _ _ _ h2 (by omega)
    have e2 : D ++ c = D.take (D.length - f) ++ (D.drop (D.length - f) ++ c) := by
      conv => lhs; rw [h3]
      rw [List.append_assoc]
    rw [e2, blks_rest _ _ _ h2 (by simp; omega), h.st, e1]
  · rw [show (D ++ c).length - (f + c.length) = D.length - f by simp; omega, List.drop_append_of_le_length (by omega), ← h.tail, ← List.append_assoc]
    exact List.take_left' (by simp [h.len]; omega)

theorem rcells_splice (s : S8) (bk : List UInt8) (n f : Nat) (hb : bk.length = 64) (c : List UInt8) (hc : f + c.length ≤ 64) : splice (rcells s bk n) (8 + f) (cellsOf c) = rcells s (bk.take f ++ (c ++ bk.drop (f + c.length))) n := by
  have h8 : (s.toL.map vw).length = 8 := rfl
  unfold splice rcells
  rw [cellsOf_length, List.take_append, List.drop_append, h8, List.take_of_length_le (by omega), List.drop_eq_nil_of_le (by omega), List.nil_append, show 8 + f - 8 = f by omega, show 8 + f + c.length - 8 = f + c.length by omega,
    List.take_append_of_le_length (by rw [cellsOf_length]; omega), List.drop_append_of_le_length (by rw [cellsOf_length]; omega)]
  simp [cellsOf]
theorem splice_set {α : Type} (L : List α) (o : Nat) (v : α) (r : List α) (h : o < L.length) : splice (L.set o v) (o + 1) r = splice L o (v :: r) := by
  unfold splice
  rw [List.length_cons, List.drop_set_of_lt (by omega), show o + 1 + r.length = o + (r.length + 1) by omega]
  have : (L.set o v).take (o + 1) = L.take o ++ [v] := by
    apply List.ext_getElem?
    intro i
    by_cases hi : i < o
    · rw [List.getElem?_take_of_lt (by omega), List.getElem?_set_ne (by omega), List.getElem?_append_left (by simp; omega), List.getElem?_take_of_lt hi]
    · by_cases hi2 : i = o
      · subst hi2
        rw [List.getElem?_take_of_lt (by omega), List.getElem?_append_right (by simp; omega)]
        simp [h, Nat.min_eq_left (Nat.le_of_lt h)]
      · rw [List.getElem?_eq_none (by simp; omega), List.getElem?_eq_none (by simp; omega)]
  rw [this, List.append_assoc]
  rfl
theorem heap_setCells_same (g : Nat) (t : TypeId) : ∀ (vs : List Value) (o : Nat) (w : World) (cur : List Value), w.heap[g]? = some (.cells cur.toArray t (0, 0)) → o + vs.length ≤ cur.length → (w.setCells g o vs).heap[g]? = some (.cells (splice cur o vs).toArray t (0, 0))
  | [], o, w, cur, h, _ => by simpa [World.setCells, splice] using h
  | v :: r, o, w, cur, h, hl => by
    have hl' : o + (r.length + 1) ≤ cur.length := by simpa using hl
    have h1 := heap_setCell_same w g o _ t v h
    rw [List.setIfInBounds_toArray] at h1
    have := heap_setCells_same g t r (o + 1) _ _ h1 (by simp; omega)
    rw [splice_set _ _ _ _ (by omega)] at this
    exact this
theorem below_setCells {B : Nat} {w0 : World} (g : Nat) (hg : B ≤ g) : ∀ (vs : List Value) (o : Nat) (w : World), Below B w0 w → Below B w0 (w.setCells g o vs)
  | [], _, _, h => h
  | v :: r, o, w, h => below_setCells g hg r (o + 1) _ (h.setCell (by exact hg) v)
theorem other_setCells (g k : Nat) (h : k ≠ g) : ∀ (vs : List Value) (o : Nat) (w : World), (w.setCells g o vs).heap[k]? = w.heap[k]?
  | [], _, _ => rfl
  | v :: r, o, w => (other_setCells g k h r (o + 1) _).trans (heap_setCell_other _ _ _ _ h)
theorem rcells_state (s t : S8) (bk : List UInt8) (n : Nat) : splice (rcells s bk n) 0 (t.toL.map vw) = rcells t bk n := by
  have h8 : (s.toL.map vw).length = 8 := rfl
  have h8' : (t.toL.map vw).length = 8 := rfl
  unfold splice rcells
  rw [List.take_zero, List.nil_append, Nat.zero_add, h8', List.drop_append_of_le_length (by omega), List.drop_of_length_le (by omega), List.nil_append]
end Go.Proofs.YtkgengiopjjhbaaDoor
