/- Operations on words that yield without a walk: for regions that are gone through by hand. -/
import Derived.Test.YthnciogaibhmcaaDoorHRef
namespace Go.Proofs.YthnciogaibhmcaaDoor
open Go.RowKit
set_option linter.unusedVariables false
set_option maxRecDepth 20000
section
variable {ops : Array Oper} {S : World → Prop} {op : Oper} {a : Act}
theorem yh_assign (hw : Region.wanted op (yielded ops a.tmps) = true) (x : Operand) (ho : op.op = .assign x) (v : Value) (hx : a.eval x = v) : YieldsIf Tryd.prog ops S op v a := by
  refine .inl ⟨hw, fun w _ => ?_⟩
  unfold execOp
  simp only [ho, hx]
  simp [go_sem]
theorem y_index (hw : Region.wanted op (yielded ops a.tmps) = true) (x y : Operand) (ho : op.op = .indexAddr 113 x y) (g n c k : Nat) (hx : a.eval x = .slice (some ⟨g, 0, none⟩) n c) (hy : a.eval y = .int .i64 (k : Int)) (hk : k < n) : YieldsIf Tryd.prog ops S op (.pointer (some ⟨g, k, none⟩)) a := by
  refine .inl ⟨hw, fun w _ => ?_⟩
  have h1 : (k : Int) < (n : Int) := by omega
  have h0 : (0 : Int) ≤ (k : Int) := by omega
  unfold execOp
  simp only [ho, hx, hy]
  simp [go_sem, h0, h1]
theorem y_load (hw : Region.wanted op (yielded ops a.tmps) = true) (x : Operand) (ho : op.op = .load 101 x) (g k : Nat) (v : W32) (hx : a.eval x = .pointer (some ⟨g, k, none⟩)) (hS : ∀ w, S w → w.cell? ⟨g, k, none⟩ = some (vw v)) : YieldsIf Tryd.prog ops S op (vw v) a := by
  refine .inl ⟨hw, fun w hw' => ?_⟩
  have h1 := hS w hw'
  unfold execOp
  simp only [ho, hx]
  simp [go_sem, h1]
theorem y_xor (hw : Region.wanted op (yielded ops a.tmps) = true) (x y : Operand) (ho : op.op = .binOp .xor 101 x y 101) (p q : W32) (hx : a.eval x = vw p) (hy : a.eval y = vw q) : YieldsIf Tryd.prog ops S op (vw (p ^^^ q)) a := by
  refine .inl ⟨hw, fun w _ => ?_⟩
  have h1 := w_xor p q
  unfold execOp
  simp only [ho, hx, hy]
  simp [go_sem, h1]
theorem y_and (hw : Region.wanted op (yielded ops a.tmps) = true) (x y : Operand) (ho : op.op = .binOp .and 101 x y 101) (p q : W32) (hx : a.eval x = vw p) (hy : a.eval y = vw q) : YieldsIf Tryd.prog ops S op (vw (p &&& q)) a := by
  refine .inl ⟨hw, fun w _ => ?_⟩
  have h1 := w_and p q
  unfold execOp
  simp only [ho, hx, hy]
  simp [go_sem, h1]
theorem y_not (hw : Region.wanted op (yielded ops a.tmps) = true) (x : Operand) (ho : op.op = .unOp .xor 101 x) (p : W32) (hx : a.eval x = vw p) : YieldsIf Tryd.prog ops S op (vw (~~~p)) a := by
  refine .inl ⟨hw, fun w _ => ?_⟩
  have h1 := w_not p
  have sg : IntKind.u32.signed = false := rfl
  obtain ⟨r, hr⟩ : ∃ r, r = ~~~p := ⟨_, rfl⟩
  rw [← hr] at h1 ⊢
  unfold execOp
  simp only [ho, hx]
  simp [go_sem, sg, h1]
theorem y_add (hw : Region.wanted op (yielded ops a.tmps) = true) (x y : Operand) (ho : op.op = .binOp .add 101 x y 101) (p q : W32) (hx : a.eval x = vw p) (hy : a.eval y = vw q) : YieldsIf Tryd.prog ops S op (vw (p + q)) a := by
  refine .inl ⟨hw, fun w _ => ?_⟩
  have h1 := w_add p q
  obtain ⟨r, hr⟩ : ∃ r, r = p + q := ⟨_, rfl⟩
  rw [← hr] at h1 ⊢
  clear hr
  unfold execOp
  simp only [ho, hx, hy]
  simp [go_sem, h1]
end
theorem wp_build8 {o : Oper} {a : Act} {w : World} {K : Act → World → Prop} {Q : Exit → Act → World → Prop} (t0 t1 t2 t3 t4 t5 t6 t7 : Operand) (ho : o.op = .buildSlice 113 8 #[(0, t0), (1, t1), (2, t2), (3, t3), (4, t4), (5, t5), (6, t6), (7, t7)]) (v0 v1 v2 v3 v4 v5 v6 v7 : W32) (h0 : a.eval t0 = vw v0) (h1 : a.eval t1 = vw v1) (h2 : a.eval t2 = vw v2) (h3 : a.eval t3 = vw v3) (h4 : a.eval t4 = vw v4) (h5 : a.eval t5 = vw v5) (h6 : a.eval t6 = vw v6) (h7 : a.eval t7 = vw v7)
    (h : K (a.put o.dst (.slice (some ⟨w.heap.size, 0, none⟩) 8 8)) (w.alloc (.cells #[vw v0, vw v1, vw v2, vw v3, vw v4, vw v5, vw v6, vw v7] 101))) : o.wp Tryd.prog a w K Q := by
  unfold Oper.wp execOp
  simp only [ho, List.map_toArray, List.map_cons, List.map_nil, h0, h1, h2, h3, h4, h5, h6, h7]
  simp [go_sem]
  exact h
end Go.Proofs.YthnciogaibhmcaaDoor
