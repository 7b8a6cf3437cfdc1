/- YthfmpebgmojcaaaDoorARefRow + YthfmpebgmojcaaaDoorARBytes + YthfmpebgmojcaaaDoorARChain + YthfmpebgmojcaaaDoorARCh + YthfmpebgmojcaaaDoorARAt -/
import Derived.Test.YthfmpebgmojcaaaDoorAToNum
import Derived.Test.YthfmpebgmojcaaaDoorARefSum
import Derived.Test.YthfmpebgmojcaaaDoorAAdd6
import Derived.Test.YthfmpebgmojcaaaDoorARefNum
import Derived.Test.YthfmpebgmojcaaaDoorARw2
/- The reference's Row, by a contract. -/
namespace Go.Proofs.YthfmpebgmojcaaaDoor
open Go.RowKit
set_option linter.unusedVariables false
set_option maxRecDepth 20000
end Go.Proofs.YthfmpebgmojcaaaDoor
/- The reference's bytes of an event: holdfastref14.Bytes by a contract (printed out of ABytes by gen/arbytes.py). -/
namespace Go.Proofs.YthfmpebgmojcaaaDoor
open Go.RowKit
set_option linter.unusedVariables false
set_option maxRecDepth 20000
end Go.Proofs.YthfmpebgmojcaaaDoor
/- The reference's chained hash: holdfastref07.Chain by a contract. -/
namespace Go.Proofs.YthfmpebgmojcaaaDoor
open Go.RowKit
set_option linter.unusedVariables false
set_option maxRecDepth 20000
end Go.Proofs.YthfmpebgmojcaaaDoor
/- The reference's chain in memory: base, anchor, last, three hashes and the row of events. -/
namespace Go.Proofs.YthfmpebgmojcaaaDoor
open Go.RowKit
set_option linter.unusedVariables false
set_option maxRecDepth 20000
def rfnums (c : Ch) : List Value := [.int .i64 (c.bn : Int), .int .i64 (c.an : Int), .int .i64 (c.la : Int)]
def rfcells (c : Ch) (v : Value) : List Value := rfnums c ++ (cellsOf c.bh ++ (cellsOf c.ah ++ (cellsOf c.hd ++ [v])))
structure RAt (w : World) (B g : Nat) (v : Value) (c : Ch) : Prop where
  obj : w.heap[g]? = some (.cells (rfcells c v).toArray 93 (0, 0))
  row : w.ownsRow B 55 4 v c.ev.length (eCells c.ev)
  bg : B ≤ g
section
variable {w w' : World} {B g : Nat} {v : Value} {c : Ch}
theorem RAt.lt (h : RAt w B g v c) : g < w.heap.size := (Array.getElem?_eq_some_iff.1 h.obj).1
theorem RAt.val (h : RAt w B g v c) : ∃ a cap, v = .slice a c.ev.length cap := by
  rcases h.row.2 with ⟨rfl, h0⟩ | ⟨k, cap, cur, rfl, _⟩
  · exact ⟨none, 0, by rw [h0]⟩
  · exact ⟨_, cap, rfl⟩
theorem RAt.lts (h : RAt w B g v c) : ∀ k, v.ownBlock = some k → B ≤ k ∧ k < w.heap.size := fun k hk => h.row.lt k hk
theorem RAt.ne (h : RAt w B g v c) : ∀ k, v.ownBlock = some k → k ≠ g := by
  rintro k hk rfl
  rcases h.row.2 with ⟨rfl, _⟩ | ⟨j, cap, cur, rfl, hb, hj, r⟩
  · cases hk
  · cases hk
    have := h.obj
    rw [hj] at this
    injection this with this
    injection this with _ this
    exact absurd this (by decide)
theorem RAt.c0 (h : RAt w B g v c) : w.cell? ⟨g, 0, none⟩ = some (.int .i64 (c.bn : Int)) := cell_mid (A := []) h.obj 0 rfl
theorem RAt.c1 (h : RAt w B g v c) : w.cell? ⟨g, 1, none⟩ = some (.int .i64 (c.an : Int)) := cell_mid (A := [.int .i64 (c.bn : Int)]) h.obj 1 rfl
theorem RAt.c2 (h : RAt w B g v c) : w.cell? ⟨g, 2, none⟩ = some (.int .i64 (c.la : Int)) := cell_mid (A := [.int .i64 (c.bn : Int), .int .i64 (c.an : Int)]) h.obj 2 rfl
theorem RAt.rb (h : RAt w B g v c) : w.rangeAt g 3 (cellsOf c.bh) := range_mid (A := rfnums c) h.obj 3 rfl
theorem rfcells_ah (c : Ch) (v : Value) : rfcells c v = (rfnums c ++ cellsOf c.bh) ++ (cellsOf c.ah ++ (cellsOf c.hd ++ [v])) := by simp [rfcells]
theorem rfcells_hd (c : Ch) (v : Value) : rfcells c v = (rfnums c ++ (cellsOf c.bh ++ cellsOf c.ah)) ++ (cellsOf c.hd ++ [v]) := by simp [rfcells]
theorem rfcells_v (c : Ch) (v : Value) : rfcells c v = (rfnums c ++ (cellsOf c.bh ++ (cellsOf c.ah ++ cellsOf c.hd))) ++ (v :: []) := by simp [rfcells]
theorem RAt.ra (h : RAt w B g v c) (ok : Lens c) : w.rangeAt g 35 (cellsOf c.ah) := by
  have h0 := h.obj
  rw [rfcells_ah] at h0
  exact range_mid h0 35 (by simp [rfnums, cellsOf_length, ok.lb])
theorem RAt.rh (h : RAt w B g v c) (ok : Lens c) : w.rangeAt g 67 (cellsOf c.hd) := by
  have h0 := h.obj
  rw [rfcells_hd] at h0
  exact range_mid h0 67 (by simp [rfnums, cellsOf_length, ok.lb, ok.lan])
theorem RAt.c99 (h : RAt w B g v c) (ok : Lens c) : w.cell? ⟨g, 99, none⟩ = some v := by
  have h0 := h.obj
  rw [rfcells_v] at h0
  exact cell_mid h0 99 (by simp [rfnums, cellsOf_length, ok.lb, ok.lan, ok.lh])
theorem rfcells_length (ok : Lens c) (v : Value) : (rfcells c v).length = 100 := by simp [rfcells, rfnums, cellsOf_length, ok.lb, ok.lan, ok.lh]
theorem RAt.there (h : RAt w B g v c) (ok : Lens c) (o n : Nat) (ho : o + n ≤ 100) : w.there g o n := there_row h.obj o n (by rw [rfcells_length ok]; exact ho)
theorem RAt.fz (h : RAt w B g v c) (o : Nat) : w.frozen? ⟨g, o, none⟩ = false := frozen_of_row _ _ _ _ _ h.obj
theorem RAt.keep (h : RAt w B g v c) (hg : w'.heap[g]? = w.heap[g]?) (hv : ∀ k, v.ownBlock = some k → w'.heap[k]? = w.heap[k]?) : RAt w' B g v c := by
  refine ⟨hg.trans h.obj, ⟨h.row.1, ?_⟩, h.bg⟩
  rcases h.row.2 with h0 | ⟨k, cap, cur, rfl, hb, hk, r⟩
  · exact .inl h0
  · exact .inr ⟨k, cap, cur, rfl, hb, (hv k rfl).trans hk, r⟩
theorem RAt.below (h : RAt w B g v c) (hb : Below w.heap.size w w') : RAt w' B g v c := h.keep (hb.block g h.lt) (fun k hk => hb.block k (h.lts k hk).2)
theorem RAt.out {P : Nat → Prop} (h : RAt w B g v c) (ho : Out P w w') (hg : ¬ P g) (hv : ∀ k, v.ownBlock = some k → ¬ P k) : RAt w' B g v c := h.keep (ho.block g h.lt hg) (fun k hk => ho.block k (h.lts k hk).2 (hv k hk))
theorem RAt.mono (h : RAt w B g v c) {B' : Nat} (hB : B' ≤ B) : RAt w B' g v c := by
  refine ⟨h.obj, ⟨h.row.1, ?_⟩, Nat.le_trans hB h.bg⟩
  rcases h.row.2 with h0 | ⟨k, cap, cur, rfl, hb, r⟩
  · exact .inl h0
  · exact .inr ⟨k, cap, cur, rfl, Nat.le_trans hB hb, r⟩
theorem RAt.row_set (h : RAt w B g v c) (o : Nat) (vs : List Value) : (w.setCells g o vs).ownsRow B 55 4 v c.ev.length (eCells c.ev) := by
  refine ⟨h.row.1, ?_⟩
  have hne := h.ne
  rcases h.row.2 with h0 | ⟨k, cap, cur, rfl, hb, hk, r⟩
  · exact .inl h0
  · exact .inr ⟨k, cap, cur, rfl, hb, (other_setCells g k (hne k rfl) vs o w).trans hk, r⟩
theorem RAt.setHd (h : RAt w B g v c) (ok : Lens c) (l : List UInt8) (hl : l.length = 32) : RAt (w.setCells g 67 (cellsOf l)) B g v { c with hd := l } := by
  refine ⟨?_, h.row_set _ _, h.bg⟩
  rw [heap_setCells_same g _ (cellsOf l) 67 w _ h.obj (by rw [rfcells_length ok, cellsOf_length, hl]; omega), rfcells_hd, rfcells_hd, splice_mid _ _ _ _ (by simp [cellsOf, hl, ok.lh]) 67 (by simp [rfnums, cellsOf_length, ok.lb, ok.lan])]
  rfl
theorem RAt.setAh (h : RAt w B g v c) (ok : Lens c) (l : List UInt8) (hl : l.length = 32) : RAt (w.setCells g 35 (cellsOf l)) B g v { c with ah := l } := by
  refine ⟨?_, h.row_set _ _, h.bg⟩
  rw [heap_setCells_same g _ (cellsOf l) 35 w _ h.obj (by rw [rfcells_length ok, cellsOf_length, hl]; omega), rfcells_ah, rfcells_ah, splice_mid _ _ _ _ (by simp [cellsOf, hl, ok.lan]) 35 (by simp [rfnums, cellsOf_length, ok.lb])]
  rfl
theorem RAt.setBh (h : RAt w B g v c) (ok : Lens c) (l : List UInt8) (hl : l.length = 32) : RAt (w.setCells g 3 (cellsOf l)) B g v { c with bh := l } := by
  refine ⟨?_, h.row_set _ _, h.bg⟩
  rw [heap_setCells_same g _ (cellsOf l) 3 w _ h.obj (by rw [rfcells_length ok, cellsOf_length, hl]; omega)]
  unfold rfcells
  rw [splice_mid _ _ _ _ (by simp [cellsOf, hl, ok.lb]) 3 (by simp [rfnums])]
  rfl
theorem RAt.setBn (h : RAt w B g v c) (n : Nat) : RAt (w.setCell ⟨g, 0, none⟩ (.int .i64 (n : Int))) B g v { c with bn := n } := by
  refine ⟨?_, h.row_set 0 [_], h.bg⟩
  rw [heap_setCell_same w g 0 _ _ _ h.obj, List.setIfInBounds_toArray]
  rfl
theorem RAt.setAn (h : RAt w B g v c) (n : Nat) : RAt (w.setCell ⟨g, 1, none⟩ (.int .i64 (n : Int))) B g v { c with an := n } := by
  refine ⟨?_, h.row_set 1 [_], h.bg⟩
  rw [heap_setCell_same w g 1 _ _ _ h.obj, List.setIfInBounds_toArray]
  rfl
theorem RAt.setLa (h : RAt w B g v c) (n : Nat) : RAt (w.setCell ⟨g, 2, none⟩ (.int .i64 (n : Int))) B g v { c with la := n } := by
  refine ⟨?_, h.row_set 2 [_], h.bg⟩
  rw [heap_setCell_same w g 2 _ _ _ h.obj, List.setIfInBounds_toArray]
  rfl
end
end Go.Proofs.YthfmpebgmojcaaaDoor
/- The reference's At: the hash behind the first k events, by a contract. -/
namespace Go.Proofs.YthfmpebgmojcaaaDoor
open Go.RowKit
set_option linter.unusedVariables false
set_option maxRecDepth 20000
section
variable {ops : Array Oper} {S : World → Prop} {op : Oper} {a : Act}
end
theorem RAt.row_at {w : World} {B g : Nat} {a0 : Option Addr} {cap : Nat} {c : Ch} (h : RAt w B g (.slice a0 c.ev.length cap) c) (k : Nat) (hk : k < c.ev.length) : ∃ b, a0 = some ⟨b, 0, none⟩ ∧ b < w.heap.size ∧ w.rangeAt b (k * 4) (eVals c.ev[k]) := by
  rcases h.row.2 with ⟨_, h0⟩ | ⟨b, cap', cur, hv, _, hg, _, _, _, ht⟩
  · omega
  · cases hv
    refine ⟨b, rfl, heap_lt hg, fun j u hj => ?_⟩
    have hj4 : j < 4 := (List.getElem?_eq_some_iff.1 hj).1
    rw [cell_of_row _ _ _ _ _ _ hg, ← Array.getElem?_toList]
    have h1 : (cur.toList.take (c.ev.length * 4))[k * 4 + j]? = some u := by rw [ht, eCells_get _ _ hk _ hj4]; exact hj
    rw [List.getElem?_take_of_lt (by omega)] at h1
    exact h1
end Go.Proofs.YthfmpebgmojcaaaDoor
