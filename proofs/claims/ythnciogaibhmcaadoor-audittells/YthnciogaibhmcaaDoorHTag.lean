/- The HMAC of bytes: hash.Tag. -/
import Derived.Test.YthnciogaibhmcaaDoorHMask
namespace Go.Proofs.YthnciogaibhmcaaDoor
open Go.RowKit
set_option linter.unusedVariables false
set_option maxRecDepth 20000
set_option maxRecDepth 20000

theorem hf_start : ∀ (args : Array Value) (w : World), (callFunc 69 args).run Tryd.prog w = .ok (.enter 69 args) w := fun args w => by simp [go_sem]
theorem hf_with : ∀ (args : Array Value) (w : World), (callFunc 70 args).run Tryd.prog w = .ok (.enter 70 args) w := fun args w => by simp [go_sem]
theorem hf_sum : ∀ (args : Array Value) (w : World), (callFunc 71 args).run Tryd.prog w = .ok (.enter 71 args) w := fun args w => by simp [go_sem]
/-- the slice of a whole array yields without a look at memory -/
theorem yields_slice_hash {ops : Array Oper} {S : World → Prop} {op : Oper} {a : Act} (hw : Region.wanted op (yielded ops a.tmps) = true) (x : Operand) (ho : op.op = .slice 49 x none none none) (g : Nat) (hx : a.eval x = .pointer (some ⟨g, 0, none⟩)) : YieldsIf Tryd.prog ops S op (.slice (some ⟨g, 0, none⟩) 32 32) a := by
  refine .inl ⟨hw, fun w _ => ?_⟩
  unfold execOp
  simp only [ho, hx]
  simp [go_sem]
theorem yields_move {ops : Array Oper} {S : World → Prop} {op : Oper} {a : Act} (hw : Region.wanted op (yielded ops a.tmps) = true) (x : Operand) (ho : op.op = .move x) (v : Value) (hx : a.eval x = v) : YieldsIf Tryd.prog ops S op v a := by
  refine .inl ⟨hw, fun w _ => ?_⟩
  unfold execOp
  simp only [ho, hx]
  simp [go_sem]
theorem wp_store_hash {o : Oper} {a : Act} {w : World} {K : Act → World → Prop} {Q : Exit → Act → World → Prop} (x y : Operand) (ho : o.op = .store 49 x y) (g : Nat) (O Y : Array Value) {l m : List UInt8} (hO : HV O l) (hY : HV Y m) (ha : a.eval x = .pointer (some ⟨g, 0, none⟩)) (hb : a.eval y = .agg O)
    (hg : w.heap[g]? = some (.cells Y 49 (0, 0))) (h : K (a.put o.dst undef) (w.setRow g O)) : o.wp Tryd.prog a w K Q :=
  wp_store_row 49 x y ho g O ha hb 49 Y hg hO.info (hY.size.trans hO.size.symm) hO.one h

end Go.Proofs.YthnciogaibhmcaaDoor
