/- Operations of regions that draw their order, each by what it yields. -/
import Derived.Test.YthnciogaibhmcaaDoorAFn
import Derived.Test.YthnciogaibhmcaaDoorEBridge
import Derived.Test.YthnciogaibhmcaaDoorHRegAt
namespace Go.Proofs.YthnciogaibhmcaaDoor
open Go.RowKit
set_option linter.unusedVariables false
set_option maxRecDepth 20000

section
variable {ops : Array Oper} {S : World → Prop} {op : Oper} {a : Act}
theorem y_nil (hw : Region.wanted op (yielded ops a.tmps) = true) (x : Operand) (ho : op.op = .nilCheck x) (p : Addr) (hx : a.eval x = .pointer (some p)) : YieldsIf Tryd.prog ops S op (.pointer (some p)) a := by
  refine .inl ⟨hw, fun w _ => ?_⟩
  unfold execOp
  simp only [ho, hx]
  simp [go_sem]
theorem y_assign (hw : Region.wanted op (yielded ops a.tmps) = true) (x : Operand) (ho : op.op = .assign x) (v : Value) (hx : a.eval x = v) : YieldsIf Tryd.prog ops S op v a := by
  refine .inl ⟨hw, fun w _ => ?_⟩
  unfold execOp
  simp only [ho, hx]
  simp [go_sem]
theorem y_ext0 (hw : Region.wanted op (yielded ops a.tmps) = true) (x : Operand) (ho : op.op = .extract x 0) (u v : Value) (hx : a.eval x = .tuple #[u, v]) : YieldsIf Tryd.prog ops S op u a := by
  refine .inl ⟨hw, fun w _ => ?_⟩
  unfold execOp
  simp only [ho, hx]
  simp [go_sem]
theorem y_ext1 (hw : Region.wanted op (yielded ops a.tmps) = true) (x : Operand) (ho : op.op = .extract x 1) (u v : Value) (hx : a.eval x = .tuple #[u, v]) : YieldsIf Tryd.prog ops S op v a := by
  refine .inl ⟨hw, fun w _ => ?_⟩
  unfold execOp
  simp only [ho, hx]
  simp [go_sem]
-- fields of a chain at the beginning of its block
theorem y_chain0 (hw : Region.wanted op (yielded ops a.tmps) = true) (x : Operand) (ho : op.op = .fieldAddr 56 x 0) (g : Nat) (hx : a.eval x = .pointer (some ⟨g, 0, none⟩)) : YieldsIf Tryd.prog ops S op (.pointer (some ⟨g, 0, none⟩)) a := by
  refine .inl ⟨hw, fun w _ => ?_⟩
  unfold execOp
  simp only [ho, hx]
  simp [go_sem]
theorem y_chain1 (hw : Region.wanted op (yielded ops a.tmps) = true) (x : Operand) (ho : op.op = .fieldAddr 56 x 1) (g : Nat) (hx : a.eval x = .pointer (some ⟨g, 0, none⟩)) : YieldsIf Tryd.prog ops S op (.pointer (some ⟨g, 33, none⟩)) a := by
  refine .inl ⟨hw, fun w _ => ?_⟩
  unfold execOp
  simp only [ho, hx]
  simp [go_sem]
theorem y_chain2 (hw : Region.wanted op (yielded ops a.tmps) = true) (x : Operand) (ho : op.op = .fieldAddr 56 x 2) (g : Nat) (hx : a.eval x = .pointer (some ⟨g, 0, none⟩)) : YieldsIf Tryd.prog ops S op (.pointer (some ⟨g, 66, none⟩)) a := by
  refine .inl ⟨hw, fun w _ => ?_⟩
  unfold execOp
  simp only [ho, hx]
  simp [go_sem]
theorem y_chain3 (hw : Region.wanted op (yielded ops a.tmps) = true) (x : Operand) (ho : op.op = .fieldAddr 56 x 3) (g : Nat) (hx : a.eval x = .pointer (some ⟨g, 0, none⟩)) : YieldsIf Tryd.prog ops S op (.pointer (some ⟨g, 67, none⟩)) a := by
  refine .inl ⟨hw, fun w _ => ?_⟩
  unfold execOp
  simp only [ho, hx]
  simp [go_sem]
theorem y_link0 (hw : Region.wanted op (yielded ops a.tmps) = true) (x : Operand) (ho : op.op = .fieldAddr 54 x 0) (g o : Nat) (hx : a.eval x = .pointer (some ⟨g, o, none⟩)) : YieldsIf Tryd.prog ops S op (.pointer (some ⟨g, o, none⟩)) a := by
  refine .inl ⟨hw, fun w _ => ?_⟩
  unfold execOp
  simp only [ho, hx]
  simp [go_sem]
theorem y_link1 (hw : Region.wanted op (yielded ops a.tmps) = true) (x : Operand) (ho : op.op = .fieldAddr 54 x 1) (g o : Nat) (hx : a.eval x = .pointer (some ⟨g, o, none⟩)) : YieldsIf Tryd.prog ops S op (.pointer (some ⟨g, o + 1, none⟩)) a := by
  refine .inl ⟨hw, fun w _ => ?_⟩
  unfold execOp
  simp only [ho, hx]
  simp [go_sem]
theorem y_ev (k : Nat) (hk : k < 4) (hw : Region.wanted op (yielded ops a.tmps) = true) (x : Operand) (ho : op.op = .fieldAddr 60 x k) (g : Nat) (hx : a.eval x = .pointer (some ⟨g, 0, none⟩)) : YieldsIf Tryd.prog ops S op (.pointer (some ⟨g, k, none⟩)) a := by
  refine .inl ⟨hw, fun w _ => ?_⟩
  unfold execOp
  simp only [ho, hx]
  match k, hk with
  | 0, _ => simp [go_sem]
  | 1, _ => simp [go_sem]
  | 2, _ => simp [go_sem]
  | 3, _ => simp [go_sem]
-- loads of one cell
theorem y_loadI (hw : Region.wanted op (yielded ops a.tmps) = true) (x : Operand) (ho : op.op = .load 3 x) (g k : Nat) (n : Int) (hx : a.eval x = .pointer (some ⟨g, k, none⟩)) (hS : ∀ w, S w → w.cell? ⟨g, k, none⟩ = some (.int .i64 n)) : YieldsIf Tryd.prog ops S op (.int .i64 n) a := by
  refine .inl ⟨hw, fun w hw' => ?_⟩
  have h1 := hS w hw'
  unfold execOp
  simp only [ho, hx]
  simp [go_sem, h1]
theorem y_loadS (hw : Region.wanted op (yielded ops a.tmps) = true) (x : Operand) (ho : op.op = .load 9 x) (g k : Nat) (n : ByteArray) (hx : a.eval x = .pointer (some ⟨g, k, none⟩)) (hS : ∀ w, S w → w.cell? ⟨g, k, none⟩ = some (.string n)) : YieldsIf Tryd.prog ops S op (.string n) a := by
  refine .inl ⟨hw, fun w hw' => ?_⟩
  have h1 := hS w hw'
  unfold execOp
  simp only [ho, hx]
  simp [go_sem, h1]
theorem y_loadV (hw : Region.wanted op (yielded ops a.tmps) = true) (x : Operand) (ho : op.op = .load 46 x) (g k : Nat) (ad : Option Addr) (n c : Nat) (hx : a.eval x = .pointer (some ⟨g, k, none⟩)) (hS : ∀ w, S w → w.cell? ⟨g, k, none⟩ = some (.slice ad n c)) : YieldsIf Tryd.prog ops S op (.slice ad n c) a := by
  refine .inl ⟨hw, fun w hw' => ?_⟩
  have h1 := hS w hw'
  unfold execOp
  simp only [ho, hx]
  simp [go_sem, h1]
theorem y_loadP (hw : Region.wanted op (yielded ops a.tmps) = true) (x : Operand) (ho : op.op = .load 23 x) (g k : Nat) (p : Option Addr) (hx : a.eval x = .pointer (some ⟨g, k, none⟩)) (hS : ∀ w, S w → w.cell? ⟨g, k, none⟩ = some (.pointer p)) : YieldsIf Tryd.prog ops S op (.pointer p) a := by
  refine .inl ⟨hw, fun w hw' => ?_⟩
  have h1 := hS w hw'
  unfold execOp
  simp only [ho, hx]
  simp [go_sem, h1]
-- loads of rows
theorem y_loadH (hw : Region.wanted op (yielded ops a.tmps) = true) (x : Operand) (ho : op.op = .load 49 x) (g o : Nat) (l : List UInt8) (hl : l.length = 32) (hx : a.eval x = .pointer (some ⟨g, o, none⟩)) (hS : ∀ w, S w → w.rangeAt g o (cellsOf l)) : YieldsIf Tryd.prog ops S op (.agg (bvs l)) a :=
  yieldsIf_load_mid hw 49 x ho g o hx (cellsOf l) _ hS Tryd.underlying49 rfl (by rw [cellsOf_length, hl]; exact size_hash)
theorem size_link : (Tryd.prog.info? 54).map (·.size) = some 33 := by kernel_rfl
theorem size_ev : (Tryd.prog.info? 60).map (·.size) = some 4 := by kernel_rfl
theorem y_loadE (hw : Region.wanted op (yielded ops a.tmps) = true) (x : Operand) (ho : op.op = .load 60 x) (g o : Nat) (e : Ev) (hx : a.eval x = .pointer (some ⟨g, o, none⟩)) (hS : ∀ w, S w → w.rangeAt g o (eVals e)) : YieldsIf Tryd.prog ops S op (.agg (eVals e).toArray) a :=
  yieldsIf_load_mid hw 60 x ho g o hx (eVals e) _ hS Tryd.underlying60 rfl size_ev
theorem y_neqH (hw : Region.wanted op (yielded ops a.tmps) = true) (x y : Operand) (ho : op.op = .binOp .neq 49 x y 49) (l m : List UInt8) (hl : l.length = 32) (hm : m.length = 32) (hx : a.eval x = .agg (bvs l)) (hy : a.eval y = .agg (bvs m)) : YieldsIf Tryd.prog ops S op (.bool (!(l == m))) a := by
  refine .inl ⟨hw, fun w _ => ?_⟩
  have h := hash_eq (A := bvs l) (B := bvs m) ⟨rfl, hl⟩ ⟨rfl, hm⟩ w
  unfold execOp
  simp only [ho, hx, hy]
  simp [go_sem, h]
theorem y_eqlI (hw : Region.wanted op (yielded ops a.tmps) = true) (x y : Operand) (ho : op.op = .binOp .eql 3 x y 3) (p q : Int) (hx : a.eval x = .int .i64 p) (hy : a.eval y = .int .i64 q) : YieldsIf Tryd.prog ops S op (.bool (p == q)) a := by
  refine .inl ⟨hw, fun w _ => ?_⟩
  unfold execOp
  simp only [ho, hx, hy]
  simp [go_sem]
theorem y_pick (hw : Region.wanted op (yielded ops a.tmps) = true) (x y z : Operand) (ho : op.op = .pick x y z) (b : Bool) (u v : Value) (hx : a.eval x = .bool b) (hy : a.eval y = u) (hz : a.eval z = v) : YieldsIf Tryd.prog ops S op (if b then u else v) a := by
  refine .inl ⟨hw, fun w _ => ?_⟩
  unfold execOp
  simp only [ho, hx, hy, hz]
  cases b <;> simp [go_sem]
end
end Go.Proofs.YthnciogaibhmcaaDoor
