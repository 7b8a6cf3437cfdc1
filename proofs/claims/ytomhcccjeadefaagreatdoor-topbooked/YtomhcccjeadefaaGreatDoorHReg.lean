/- Regions that draw their order, by states that several orders come to; one operation by its own law. No program. -/
import Derived.Test.YtomhcccjeadefaaGreatDoorHEnd
import Derived.OrdersHeld
namespace Go.Proofs.YtomhcccjeadefaaGreatDoor
open Go.RowKit
set_option linter.unusedVariables false
set_option maxRecDepth 20000
theorem wp_act {P : Program} {c : Code} {Q : Exit → Act → World → Prop} {w : World} (a : Act) (h : ∀ A, A = a → c.wp P Q A w) : c.wp P Q a w := h a rfl
theorem put_sz (a : Act) (d : Option Tmp) (v : Value) : (a.put d v).tmps.size = a.tmps.size := by cases d <;> simp [Act.put]
theorem ev_eq (a : Act) (v : Value) {d : Tmp} (h : d < a.tmps.size) : (a.put (some d) v).eval (.tmp d) = v := by
  simp [Act.eval, Act.put, h]
theorem ev_ne (a : Act) (v : Value) {d e : Tmp} (h : d ≠ e) : (a.put (some d) v).eval (.tmp e) = a.eval (.tmp e) :=
  Act.eval_put fun d' hd => by cases hd; intro hh; cases hh; exact h rfl
theorem put_swap (a : Act) {d e : Tmp} {v u : Value} (h : d ≠ e) : (a.put (some d) v).put (some e) u = (a.put (some e) u).put (some d) v :=
  Act.put_comm a v u (fun d' hd he => by cases hd; cases he; exact h rfl)
theorem heap_lt {w : World} {g : Nat} {o : Obj} (h : w.heap[g]? = some o) : g < w.heap.size := (Array.getElem?_eq_some_iff.1 h).1
section
variable {P : Program} {ops : Array Oper} {Q : Exit → Act → World → Prop}
theorem wp_split {c : Code} {a : Act} {w : World} (G : Act → World → Prop) (h1 : c.wp P (fun e a w => e = .normal ∧ G a w) a w) (h2 : ∀ a w, G a w → Q .normal a w) : c.wp P Q a w :=
  Code.wp_mono (fun e a w h => by obtain ⟨rfl, h⟩ := h; exact h2 a w h) h1
theorem wpOp_own {i : Nat} {o : Oper} {K : Act → World → Prop} {a : Act} {w : World} (hi : ops[i]? = some o) (hg : o.guard = none) (h : ∀ K' : Act → World → Prop, (∀ a w, K a w → K' a w) → o.wp P a w K' Q) : wpOp P ops Q i K a w :=
  wpOp_step hi fun K' hK' => by
    have hw : Region.wanted o (yielded ops a.tmps) = true := by simp [Region.wanted, hg]
    rw [if_pos hw]
    exact h K' hK'
theorem wp_calls {o : Oper} {a : Act} {w : World} {K : Act → World → Prop} (f : FuncId) (args : Array Value) (he : (execOp a.eval o).run P w = .ok (.enter f args) w) (h : Calls P f args w fun e w'' => ∃ v, e = .returned v ∧ K (a.put o.dst v) w'') : o.wp P a w K Q := by
  unfold Oper.wp
  rw [he, Oper.upon_enter]
  refine h.mono fun e w'' hh => ?_
  obtain ⟨v, rfl, hk⟩ := hh
  exact hk
theorem wp_calls0 {o : Oper} {a : Act} {w : World} {K : Act → World → Prop} (f : FuncId) (hf : ∀ (args : Array Value) (w : World), (callFunc f args).run P w = .ok (.enter f args) w) (ts : Array TypeId) (ho : o.op = .call { callee := .value (.func f), args := #[], argTypes := ts }) (h : Calls P f #[] w fun e w'' => ∃ v, e = .returned v ∧ K (a.put o.dst v) w'') : o.wp P a w K Q :=
  wp_calls f #[] (by simp [execOp, ho, resolve, invoke, go_sem, hf]) h
theorem wp_calls1 {o : Oper} {a : Act} {w : World} {K : Act → World → Prop} (f : FuncId) (hf : ∀ (args : Array Value) (w : World), (callFunc f args).run P w = .ok (.enter f args) w) (x : Operand) (ts : Array TypeId) (ho : o.op = .call { callee := .value (.func f), args := #[x], argTypes := ts }) (v : Value) (hx : a.eval x = v) (h : Calls P f #[v] w fun e w'' => ∃ v, e = .returned v ∧ K (a.put o.dst v) w'') : o.wp P a w K Q :=
  wp_calls f #[v] (by subst hx; simp [execOp, ho, resolve, invoke, go_sem, hf]) h
theorem wp_calls2 {o : Oper} {a : Act} {w : World} {K : Act → World → Prop} (f : FuncId) (hf : ∀ (args : Array Value) (w : World), (callFunc f args).run P w = .ok (.enter f args) w) (x y : Operand) (ts : Array TypeId) (ho : o.op = .call { callee := .value (.func f), args := #[x, y], argTypes := ts }) (v u : Value) (hx : a.eval x = v) (hy : a.eval y = u) (h : Calls P f #[v, u] w fun e w'' => ∃ v, e = .returned v ∧ K (a.put o.dst v) w'') : o.wp P a w K Q :=
  wp_calls f #[v, u] (by subst hx; subst hy; simp [execOp, ho, resolve, invoke, go_sem, hf]) h
end
end Go.Proofs.YtomhcccjeadefaaGreatDoor
