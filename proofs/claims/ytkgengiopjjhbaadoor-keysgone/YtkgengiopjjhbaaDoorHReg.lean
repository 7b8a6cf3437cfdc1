/- Regions that draw their order, by states that several orders come to; one operation by its own law. No program. -/
import Derived.Test.YtkgengiopjjhbaaDoorHEnd
import Derived.OrdersHeld
namespace Go.Proofs.YtkgengiopjjhbaaDoor
open Go.RowKit
set_option linter.unusedVariables false
set_option maxRecDepth 20000

theorem wp_act {P : Program} {c : Code} {Q : Exit → Act → World → Prop} {w : World} (a : Act) (h : ∀ A, A = a → c.wp P Q A w) : c.wp P Q a w := h a rfl
theorem put_sz (a : Act) (d : Option Tmp) (v : Value) : (a.put d v).tmps.size = a.tmps.size := by cases d <;> simp [Act.put]
theorem ev_eq (a : Act) (v : Value) {d : Tmp} (h : d < a.tmps.size) : (a.put (some d) v).eval (.tmp d) = v := by
  simp [Act.eval, Act.put, h]
theorem ev_ne (a : Act) (v : Value) {d e : Tmp} (h : d ≠ e) : (a.put (some d) v).eval (.tmp e) = a.eval (.tmp e) :=
  Act.eval_put fun d' hd => by cases hd; intro hh; cases hh; exact h rfl
theorem put_swap (a : Act) {d e : Tmp} {v u : Value} (h : d ≠ e) : (a.put (some d) v).put (some e) u = (a.put (some e) u).put (some d) v :=
  Act.put_comm a v u (fun d' hd he => by cases hd; cases he; exact h rfl)
theorem heap_lt {w : World} {g : Nat} {o : Obj} (h : w.heap[g]? = some o) : g < w.heap.size := (Array.getElem?_eq_some_iff.1 h).1
section
variable {P : Program} {ops : Array Oper} {Q : Exit → Act → World → Prop}
/-- what a piece of code comes to, named; then what follows from there -/
theorem wp_split {c : Code} {a : Act} {w : World} (G : Act → World → Prop) (h1 : c.wp P (fun e a w => e = .normal ∧ G a w) a w) (h2 : ∀ a w, G a w → Q .normal a w) : c.wp P Q a w :=
  Code.wp_mono (fun e a w h => by obtain ⟨rfl, h⟩ := h; exact h2 a w h) h1
/-- one operation of a region that draws its order, by its own law -/
theorem wpOp_own {i : Nat} {o : Oper} {K : Act → World → Prop} {a : Act} {w : World} (hi : ops[i]? = some o) (hg : o.guard = none) (h : ∀ K' : Act → World → Prop, (∀ a w, K a w → K' a w) → o.wp P a w K' Q) : wpOp P ops Q i K a w :=
  wpOp_step hi fun K' hK' => by
    have hw : Region.wanted o (yielded ops a.tmps) = true := by simp [Region.wanted, hg]
    rw [if_pos hw]
    exact h K' hK'
theorem wp_calls {o : Oper} {a : Act} {w : World} {K : Act → World → Prop} (f : FuncId) (args : Array Value) (he : (execOp a.eval o).run P w = .ok (.enter f args) w) (h : Calls P f args w fun e w'' => ∃ v, e = .returned v ∧ K (a.put o.dst v) w'') : o.wp P a w K Q := by
  unfold Oper.wp
  rw [he, Oper.upon_enter]
  refine h.mono fun e w'' hh => ?_
  obtain ⟨v, rfl, hk⟩ := hh
  exact hk
theorem wp_calls0 {o : Oper} {a : Act} {w : World} {K : Act → World → Prop} (f : FuncId) (hf : ∀ (args : Array Value) (w : World), (callFunc f args).run P w = .ok (.enter f args) w) (ts : Array TypeId) (ho : o.op = .call { callee := .value (.func f), args := #[], argTypes := ts }) (h : Calls P f #[] w fun e w'' => ∃ v, e = .returned v ∧ K (a.put o.dst v) w'') : o.wp P a w K Q :=
  wp_calls f #[] (by simp [execOp, ho, resolve, invoke, go_sem, hf]) h
theorem wp_calls1 {o : Oper} {a : Act} {w : World} {K : Act → World → Prop} (f : FuncId) (hf : ∀ (args : Array Value) (w : World), (callFunc f args).run P w = .ok (.enter f args) w) (x : Operand) (ts : Array TypeId) (ho : o.op = .call { callee := .value (.func f), args := #[x], argTypes := ts }) (v : Value) (hx : a.eval x = v) (h : Calls P f #[v] w fun e w'' => ∃ v, e = .returned v ∧ K (a.put o.dst v) w'') : o.wp P a w K Q :=
  wp_calls f #[v] (by subst hx; simp [execOp, ho, resolve, invoke, go_sem, hf]) h
theorem wp_calls2 {o : Oper} {a : Act} {w : World} {K : Act → World → Prop} (f : FuncId) (hf : ∀ (args : Array Value) (w : World), (callFunc f args).run P w = .ok (.enter f args) w) (x y : Operand) (ts : Array TypeId) (ho : o.op = .call { callee := .value (.func f), args := #[x, y], argTypes := ts }) (v u : Value) (hx : a.eval x = v) (hy : a.eval y = u) (h : Calls P f #[v, u] w fun e w'' => ∃ v, e = .returned v ∧ K (a.put o.dst v) w'') : o.wp P a w K Q :=
  wp_calls f #[v, u] (by subst hx; subst hy; simp [execOp, ho, resolve, invoke, go_sem, hf]) h

/-- a region by its states: each has the operations that have come up, and what holds there -/
theorem wpAny_states {md : Region.Mode} {σ : Type} (L : σ → Array Bool) (I : σ → Act → World → Prop)
    (hdone : ∀ s a w, I s a w → Region.ready md ops (L s) = [] → Q .normal a w)
    (hstep : ∀ s a w, I s a w → ∀ i ∈ Region.ready md ops (L s), wpOp P ops Q i (fun a' w' => ∃ s', L s' = (L s).setIfInBounds i true ∧ I s' a' w') a w) :
    ∀ (fuel : Nat) (s : σ) (a : Act) (w : World), I s a w → (L s).toList.count false ≤ fuel → (L s).size = ops.size → wpAny P md ops Q fuel (L s) a w
  | 0, s, a, w, hI, hc, hs => by
    have hr : Region.ready md ops (L s) = [] := by
      apply List.eq_nil_iff_forall_not_mem.2
      intro i hi
      have h0 := (mem_ready.1 hi).1
      have hmem : false ∈ (L s).toList := by
        rcases Nat.lt_or_ge i (L s).size with h' | h'
        · simp [h'] at h0
          rw [← h0]
          exact Array.getElem_mem_toList h'
        · simp [h'] at h0
      have := List.count_pos_iff.2 hmem
      omega
    exact ⟨hr, hdone s a w hI hr⟩
  | fuel + 1, s, a, w, hI, hc, hs => by
    refine ⟨hdone s a w hI, fun i hi => wpOp_mono (fun a' w' h => ?_) (hstep s a w hI i hi)⟩
    obtain ⟨s', hL, hI'⟩ := h
    rw [← hL]
    refine wpAny_states L I hdone hstep fuel s' a' w' hI' ?_ (by rw [hL]; simpa using hs)
    have h0 := (mem_ready.1 hi).1
    rcases Nat.lt_or_ge i (L s).size with h' | h'
    · simp [h'] at h0
      rw [hL, Array.toList_setIfInBounds, List.count_set (by simpa using h')]
      simp [h0]
      simp at hc
      omega
    · simp [h'] at h0
/-- a region that draws, by its states -/
theorem wp_region_states {id : Nat} {a : Act} {w : World} (hm : P.follows .mixedOrders = true) {σ : Type} (L : σ → Array Bool) (I : σ → Act → World → Prop) (s0 : σ) (h0 : L s0 = Array.replicate ops.size false) (hI : I s0 a { w with drawn := w.drawn + 1 })
    (hdone : ∀ s a w, I s a w → Region.ready .any ops (L s) = [] → Q .normal a w)
    (hstep : ∀ s a w, I s a w → ∀ i ∈ Region.ready .any ops (L s), wpOp P ops Q i (fun a' w' => ∃ s', L s' = (L s).setIfInBounds i true ∧ I s' a' w') a w) : (Code.region id ops true).wp P Q a w := by
  refine wp_region_any hm ?_
  have h := wpAny_states (P := P) (Q := Q) L I hdone hstep ops.size s0 a { w with drawn := w.drawn + 1 } hI (by rw [h0]; simp) (by rw [h0]; simp)
  rwa [h0] at h
end
end Go.Proofs.YtkgengiopjjhbaaDoor
