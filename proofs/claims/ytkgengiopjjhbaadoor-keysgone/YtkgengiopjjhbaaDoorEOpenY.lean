/- What was sealed, opened: seal.Open. -/
import Derived.Test.YtkgengiopjjhbaaDoorESeal
namespace Go.Proofs.YtkgengiopjjhbaaDoor
open Go.RowKit Go.Shelf
set_option linter.unusedVariables false
set_option maxRecDepth 20000

theorem hf_tagOf : ∀ (args : Array Value) (w : World), (callFunc 28 args).run Tryd.prog w = .ok (.enter 28 args) w := fun args w => by simp [go_sem]
theorem hf_crossed : ∀ (args : Array Value) (w : World), (callFunc 27 args).run Tryd.prog w = .ok (.enter 27 args) w := fun args w => by simp [go_sem]
theorem tag_eq {A B : Array Value} {a b : List UInt8} (hA : TV A a) (hB : TV B b) (w : World) : (Op.equalIn 10000 70 (.agg A) (.agg B)).run Tryd.prog w = .ok (a == b) w := by
  rw [hA.eq, hB.eq]
  exact run_equalIn_bytes (P := Tryd.prog) w 9998 70 5 16 Tryd.underlying70 Tryd.underlying5 sizeOf_u8 a b hA.len hB.len
section
variable {ops : Array Oper} {S : World → Prop} {op : Oper} {a : Act}
theorem y_from (hw : Region.wanted op (yielded ops a.tmps) = true) (x : Operand) (t : Nat) (ho : op.op = .slice 24 x (some (.tmp t)) none none) (g o n c k : Nat) (hx : a.eval x = .slice (some ⟨g, o, none⟩) n c) (hy : a.eval (.tmp t) = .int .i64 (k : Int)) (hk : k < n) (hc : n ≤ c) : YieldsIf Tryd.prog ops S op (.slice (some ⟨g, o + k, none⟩) (n - k) (c - k)) a := by
  refine .inl ⟨hw, fun w _ => ?_⟩
  have h0 : (0 : Int) ≤ (k : Int) := by omega
  have h1 : (k : Int) ≤ (n : Int) := by omega
  have h3 : ¬ c = k := by omega
  have hy' : a.tmps[t]?.getD undef = .int .i64 (k : Int) := by simpa [Act.eval] using hy
  unfold execOp
  simp only [ho, hx]
  simp [go_sem, hy', h0, h1, h3]
theorem y_upto (hw : Region.wanted op (yielded ops a.tmps) = true) (x : Operand) (t : Nat) (ho : op.op = .slice 24 x none (some (.tmp t)) none) (g o n c k : Nat) (hx : a.eval x = .slice (some ⟨g, o, none⟩) n c) (hy : a.eval (.tmp t) = .int .i64 (k : Int)) (hk : k ≤ c) : YieldsIf Tryd.prog ops S op (.slice (some ⟨g, o, none⟩) k c) a := by
  refine .inl ⟨hw, fun w _ => ?_⟩
  have h0 : (0 : Int) ≤ (k : Int) := by omega
  have h1 : (k : Int) ≤ (c : Int) := by omega
  have hy' : a.tmps[t]?.getD undef = .int .i64 (k : Int) := by simpa [Act.eval] using hy
  unfold execOp
  simp only [ho, hx]
  simp [go_sem, hy', h0, h1]
theorem y_part (hw : Region.wanted op (yielded ops a.tmps) = true) (x : Operand) (t : Nat) (ho : op.op = .slice 24 x (some (.const (.int .i64 8))) (some (.tmp t)) none) (g o n c k : Nat) (hx : a.eval x = .slice (some ⟨g, o, none⟩) n c) (hy : a.eval (.tmp t) = .int .i64 (k : Int)) (hk : 8 ≤ k) (hc : k < c) : YieldsIf Tryd.prog ops S op (.slice (some ⟨g, o + 8, none⟩) (k - 8) (c - 8)) a := by
  refine .inl ⟨hw, fun w _ => ?_⟩
  have h0 : (8 : Int) ≤ (k : Int) := by omega
  have h1 : (k : Int) ≤ (c : Int) := by omega
  have h3 : ¬ c = 8 := by omega
  have hy' : a.tmps[t]?.getD undef = .int .i64 (k : Int) := by simpa [Act.eval] using hy
  unfold execOp
  simp only [ho, hx]
  simp [go_sem, hy', h0, h1, h3]
theorem y_arr (hw : Region.wanted op (yielded ops a.tmps) = true) (x : Operand) (ho : op.op = .sliceToArrayPointer 70 x) (ad : Option Addr) (n c : Nat) (hx : a.eval x = .slice ad n c) (hn : 16 ≤ n) : YieldsIf Tryd.prog ops S op (.pointer ad) a := by
  refine .inl ⟨hw, fun w _ => ?_⟩
  unfold execOp
  simp only [ho, hx, Sem.run_bind, run_array_tag ad n c w hn, Result.andThen_ok, Sem.run_pure]
theorem y_loadT (hw : Region.wanted op (yielded ops a.tmps) = true) (x : Operand) (ho : op.op = .load 70 x) (g o : Nat) (l : List UInt8) (hl : l.length = 16) (hx : a.eval x = .pointer (some ⟨g, o, none⟩)) (hS : ∀ w, S w → Bytes w (some ⟨g, o, none⟩) l) : YieldsIf Tryd.prog ops S op (.agg (bvs l)) a := by
  refine .inl ⟨hw, fun w hw' => ?_⟩
  unfold execOp
  simp only [ho, hx, Sem.run_bind, run_load_tag hl (hS w hw'), Result.andThen_ok, Sem.run_pure]
theorem y_loadK (hw : Region.wanted op (yielded ops a.tmps) = true) (x : Operand) (ho : op.op = .load 23 x) (g : Nat) {O : Array Value} {l : List UInt8} (hO : HV O l) (hx : a.eval x = .pointer (some ⟨g, 0, none⟩)) (hS : ∀ w, S w → w.heap[g]? = some (.cells O 23 (0, 0))) : YieldsIf Tryd.prog ops S op (.agg O) a := by
  refine .inl ⟨hw, fun w hw' => ?_⟩
  have h := loadH_run hO (hS w hw')
  rw [← loadH_fold] at h
  unfold execOp
  simp only [ho, hx, Sem.run_bind, h, Result.andThen_ok, Sem.run_pure]
theorem y_neqT (hw : Region.wanted op (yielded ops a.tmps) = true) (x y : Operand) (ho : op.op = .binOp .neq 70 x y 70) (A B : Array Value) {l m : List UInt8} (hA : TV A l) (hB : TV B m) (hx : a.eval x = .agg A) (hy : a.eval y = .agg B) : YieldsIf Tryd.prog ops S op (.bool (!(l == m))) a := by
  refine .inl ⟨hw, fun w _ => ?_⟩
  have h := tag_eq hA hB w
  unfold execOp
  simp only [ho, hx, hy]
  simp [go_sem, h]
theorem y_assign (hw : Region.wanted op (yielded ops a.tmps) = true) (x : Operand) (ho : op.op = .assign x) (v : Value) (hx : a.eval x = v) : YieldsIf Tryd.prog ops S op v a := by
  refine .inl ⟨hw, fun w _ => ?_⟩
  unfold execOp
  simp only [ho, hx]
  simp [go_sem]
end
end Go.Proofs.YtkgengiopjjhbaaDoor
