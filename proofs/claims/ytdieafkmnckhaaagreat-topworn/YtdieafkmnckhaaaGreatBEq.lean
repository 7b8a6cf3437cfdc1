/- Same of package block, by a contract: it tells whether the pages are the same. -/
import Derived.Test.YtdieafkmnckhaaaGreatBNil
import Derived.Stop.BytesEq
namespace Go.Proofs.YtdieafkmnckhaaaGreat
open Go.RowKit
set_option linter.unusedVariables false
set_option maxRecDepth 20000

/-- comparing two pages, kept whole in the walk -/
def neqPg (x y : Value) : Sem Value := binOp .neq 111 x y
theorem neqPg_fold (x y : Value) : binOp .neq 111 x y = neqPg x y := rfl
theorem sizeOf_u8 (w : World) : (sizeOf 5).run Tryz.prog w = .ok 1 w := by
  have h : Tryz.t5.size = 1 := by kernel_rfl
  simp [sizeOf, h]
theorem neqPg_eq (x y : List UInt8) (hx : x.length = 256) (hy : y.length = 256) (w : World) : (neqPg (.agg (cellsOf x).toArray) (.agg (cellsOf y).toArray)).run Tryz.prog w = .ok (.bool (!(x == y))) w := by
  unfold neqPg
  rw [run_neq_struct]
  have := run_equalIn_bytes (P := Tryz.prog) w 9998 111 5 256 Tryz.underlying111 Tryz.underlying5 sizeOf_u8 x y hx hy
  have e : (Op.equalIn 10000 111 (.agg (cellsOf x).toArray) (.agg (cellsOf y).toArray)).run Tryz.prog w = .ok (x == y) w := this
  rw [e]
  rfl
attribute [local go_sem ↓] loadPg_fold neqPg_fold

/-- a page lies in the pages' row, as cells -/
theorem DiskAt.range {w : World} {B d g cap : Nat} {v : Value} {ps : List (List UInt8)} {ch : List (Nat × List UInt8)} (h : DiskAt w B d g cap v ps ch) (n : Nat) (hn : n < ps.length) : w.rangeAt g (n * 256) (cellsOf ps[n]) := fun j u hj => by
  have hj' : j < (ps[n]).length := by have := (List.getElem?_eq_some_iff.1 hj).1; simpa [cellsOf_length] using this
  obtain ⟨b', o', e', hc⟩ := h.page n hn j hj'
  cases e'
  rw [hc, ← hj, cellsOf_get _ j hj']

end Go.Proofs.YtdieafkmnckhaaaGreat
