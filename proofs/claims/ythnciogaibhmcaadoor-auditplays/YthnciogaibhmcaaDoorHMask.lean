/- A key as a block, masked: hash.masked. -/
import Derived.Test.YthnciogaibhmcaaDoorHTop
namespace Go.Proofs.YthnciogaibhmcaaDoor
open Go.RowKit
set_option linter.unusedVariables false
set_option maxRecDepth 20000
set_option maxRecDepth 20000

theorem b_of (a : UInt8) : BitVec.ofInt 8 (a.toNat : Int) = a.toBitVec := by
  apply BitVec.eq_of_toNat_eq
  simp
theorem b_back (a : UInt8) : IntKind.u8.wrap (a.toNat : Int) = (a.toNat : Int) := by
  rw [IntKind.wrap_u8]
  have := a.toNat_lt
  omega
theorem b_xor (a b : UInt8) : bits .xor .u8 (a.toNat : Int) (b.toNat : Int) = ((a ^^^ b).toNat : Int) := by
  have h : bits .xor .u8 (a.toNat : Int) (b.toNat : Int) = IntKind.u8.wrap ((BitVec.ofInt 8 (a.toNat : Int) ^^^ BitVec.ofInt 8 (b.toNat : Int)).toNat : Int) := rfl
  rw [h, b_of, b_of]
  exact b_back (a ^^^ b)
theorem b_or (a b : UInt8) : bits .or .u8 (a.toNat : Int) (b.toNat : Int) = ((a ||| b).toNat : Int) := by
  have h : bits .or .u8 (a.toNat : Int) (b.toNat : Int) = IntKind.u8.wrap ((BitVec.ofInt 8 (a.toNat : Int) ||| BitVec.ofInt 8 (b.toNat : Int)).toNat : Int) := rfl
  rw [h, b_of, b_of]
  exact b_back (a ||| b)
/-- bytes while the first n are masked -/
def maskAt (m : UInt8) (B : List UInt8) (n : Nat) : List UInt8 := maskB m (B.take n) ++ B.drop n
theorem maskAt_zero (m : UInt8) (B : List UInt8) : maskAt m B 0 = B := by simp [maskAt, maskB]
theorem maskAt_length (m : UInt8) (B : List UInt8) (n : Nat) : (maskAt m B n).length = B.length := by simp [maskAt, maskB]; omega
theorem maskAt_all (m : UInt8) (B : List UInt8) (n : Nat) (h : B.length = n) : maskAt m B n = maskB m B := by
  unfold maskAt
  rw [List.take_of_length_le (by omega), List.drop_eq_nil_of_le (by omega), List.append_nil]
theorem maskAt_get (m : UInt8) (B : List UInt8) (n : Nat) (h : n < B.length) : (maskAt m B n)[n]'(by rw [maskAt_length]; exact h) = B[n] := by
  simp only [maskAt]
  rw [List.getElem_append_right (by simp [maskB]; omega)]
  simp [maskB, Nat.min_eq_left (Nat.le_of_lt h)]
theorem maskAt_set (m : UInt8) (B : List UInt8) (n : Nat) (h : n < B.length) : (maskAt m B n).set n (B[n] ^^^ m) = maskAt m B (n + 1) := by
  unfold maskAt
  rw [List.set_append_right _ _ (by simp [maskB]; omega), List.take_succ_eq_append_getElem h]
  rw [show n - (maskB m (B.take n)).length = 0 by simp [maskB]; omega, List.drop_eq_getElem_cons h, List.set_cons_zero]
  unfold maskB
  rw [List.map_append, List.append_assoc]
  rfl
/-- a key's bytes with noughts behind them -/
def fillB (k : List UInt8) : List UInt8 := k ++ List.replicate (64 - k.length) 0
theorem fillB_length (k : List UInt8) (h : k.length ≤ 64) : (fillB k).length = 64 := by simp [fillB]; omega
theorem blockOf_short (k : List UInt8) (h : ¬ 64 < k.length) : blockOf k = fillB k := by simp [blockOf, fillB, h]
theorem blockOf_long (k : List UInt8) (h : 64 < k.length) : blockOf k = fillB (sha k) := by simp [blockOf, fillB, h]
theorem cells_row (l : List UInt8) (t : TypeId) {w : World} {g : Nat} (hg : w.heap[g]? = some (.cells (cellsOf l).toArray t (0, 0))) (i : Nat) (hi : i < l.length) : w.cell? ⟨g, i, none⟩ = some (.int .u8 (l[i].toNat : Int)) := by
  rw [cell_of_row _ _ _ _ _ _ hg, List.getElem?_toArray, cellsOf_get l i hi]
theorem row_bytes (l : List UInt8) (t : TypeId) {w : World} {g : Nat} (hg : w.heap[g]? = some (.cells (cellsOf l).toArray t (0, 0))) : Bytes w (some ⟨g, 0, none⟩) l := fun i hi =>
  ⟨g, 0, rfl, by rw [Nat.zero_add, cells_row l t hg i hi]⟩
theorem cells_set (l : List UInt8) (i : Nat) (b : UInt8) : (cellsOf l).toArray.setIfInBounds i (.int .u8 (b.toNat : Int)) = (cellsOf (l.set i b)).toArray := by
  simp [cellsOf, List.map_set]
theorem made_row (n : Nat) : madeCells (Value.int .u8 0).cells n = (cellsOf (List.replicate n 0)).toArray := by
  rw [← made_zeros n]
/-- copy of at most 64 bytes onto 64 noughts -/
theorem copy_fill {W : World} {g : Nat} {k : List UInt8} {a : Option Addr} {cap : Nat} (hk : k.length ≤ 64) (hB : Bytes W a k) (hcap : k.length ≤ cap) (hg : W.heap[g]? = some (.cells (cellsOf (List.replicate 64 0)).toArray 5 (0, 0))) :
    ∃ v W2, Hid ((Builtin.copy_ #[84, 84] 3 #[.slice (some ⟨g, 0, none⟩) 64 64, .slice a k.length cap]).run Tryd.prog W = .ok v W2) ∧ Hid (W2.heap[g]? = some (.cells (cellsOf (fillB k)).toArray 5 (0, 0))) ∧ Hid (∀ B w0, B ≤ g → Below B w0 W → Below B w0 W2) := by
  by_cases h0 : k.length = 0
  · have hr := run_copy_none (P := Tryd.prog) W 84 84 3 5 (some ⟨g, 0, none⟩) a 64 64 k.length cap Tryd.underlying84 size_byte (by rw [h0]; exact Nat.min_eq_left (by omega))
    refine ⟨_, _, hr, ?_, fun B w0 _ h => h⟩
    obtain rfl : k = [] := List.length_eq_zero_iff.1 h0
    exact hg
  · obtain ⟨b0, o0, ha0, _⟩ := hB 0 (by omega)
    obtain rfl : a = some ⟨b0, o0, none⟩ := ha0
    have hr := run_copy_row (P := Tryd.prog) W 84 84 3 5 g 0 64 64 ⟨b0, o0, none⟩ k.length cap _ 5 (cellsOf k) Tryd.underlying84 size_byte hg
      (by rw [cellsOf_length]; exact (Nat.min_eq_left hk).symm)
      (fun j v hj => by
        have hj' : j < k.length := by have := (List.getElem?_eq_some_iff.1 hj).1; simpa [cellsOf_length] using this
        obtain ⟨b', o', e', hcl⟩ := hB j hj'
        cases e'
        rw [cellsOf_get k j hj'] at hj
        rw [Addr.add_mid, hcl, ← hj])
      (by rw [cellsOf_length]; simp [cellsOf]; omega) (cellsOf_one k)
    refine ⟨_, _, hr, ?_, fun B w0 hB h => h.setRow hB _⟩
    show (W.setRow _ _).heap[g]? = _
    rw [setRow_heap _ _ _ _ _ _ hg]
    have e : List.take 0 (cellsOf (List.replicate 64 0)).toArray.toList ++ (cellsOf k ++ List.drop (0 + (cellsOf k).length) (cellsOf (List.replicate 64 0)).toArray.toList) = cellsOf (fillB k) := by
      rw [cellsOf_length, Nat.zero_add, List.take_zero, List.nil_append, fillB, cellsOf_append]
      simp only [cellsOf, ← List.map_drop, List.drop_replicate]
    rw [List.append_assoc, e]
/-- the masked block lies at g -/
def MaskPost (w : World) (l : List UInt8) (e : Ending) (w' : World) : Prop := ∃ g, e = .returned (.slice (some ⟨g, 0, none⟩) 64 64) ∧ Bytes w' (some ⟨g, 0, none⟩) l ∧ Below w.heap.size w w'

end Go.Proofs.YthnciogaibhmcaaDoor
