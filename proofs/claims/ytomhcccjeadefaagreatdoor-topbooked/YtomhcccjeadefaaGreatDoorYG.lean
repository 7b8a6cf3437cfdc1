/- Operations of regions that draw their order, each by what it yields: for every program and every type. No program. -/
import Derived.Test.YtomhcccjeadefaaGreatDoorRows
import Derived.OrdersHeld
import Derived.RegionTactic
import Derived.WalkKit
namespace Go.Proofs.YtomhcccjeadefaaGreatDoor
open Go.RowKit
set_option linter.unusedVariables false
section
variable {P : Program} {ops : Array Oper} {S : World → Prop} {op : Oper} {a : Act} {v : Value}
theorem yg {s : Sem Value} (hw : Region.wanted op (yielded ops a.tmps) = true) (he : execOp a.eval op = (do pure (Next.value (← s)))) (h : ∀ w, S w → s.run P w = .ok v w) : YieldsIf P ops S op v a := by
  refine .inl ⟨hw, fun w hs => ?_⟩
  rw [he]
  simp [go_sem, h w hs]
theorem yg_fld (hw : Region.wanted op (yielded ops a.tmps) = true) (x : Operand) {t : TypeId} {k : Nat} (ho : op.op = .fieldAddr t x k) {u : Value} (hx : a.eval x = u) (h : ∀ w, (Instr.fieldAt t u k).run P w = .ok v w) : YieldsIf P ops S op v a := by
  subst hx
  exact yg hw (by simp only [execOp, ho]) (fun w _ => h w)
theorem yg_ld (hw : Region.wanted op (yielded ops a.tmps) = true) (x : Operand) {t : TypeId} (ho : op.op = .load t x) {u : Value} (hx : a.eval x = u) (h : ∀ w, S w → (Instr.loadAt t u).run P w = .ok v w) : YieldsIf P ops S op v a := by
  subst hx
  exact yg hw (by simp only [execOp, ho]) h
theorem yg_ix (hw : Region.wanted op (yielded ops a.tmps) = true) (x y : Operand) {t : TypeId} (ho : op.op = .indexAddr t x y) {u z : Value} (hx : a.eval x = u) (hy : a.eval y = z) (h : ∀ w, (Instr.indexAt t u z).run P w = .ok v w) : YieldsIf P ops S op v a := by
  subst hx; subst hy
  exact yg hw (by simp only [execOp, ho]) (fun w _ => h w)
theorem yg_bin (hw : Region.wanted op (yielded ops a.tmps) = true) (x y : Operand) {b : BinOp} {t t' : TypeId} (ho : op.op = .binOp b t x y t') {u z : Value} (hx : a.eval x = u) (hy : a.eval y = z) (h : ∀ w, (do eqGuard b t x y u z; binOp b t u z : Sem Value).run P w = .ok v w) : YieldsIf P ops S op v a := by
  subst hx; subst hy
  exact yg hw (by simp only [execOp, ho]) (fun w _ => h w)
theorem yg_cv (hw : Region.wanted op (yielded ops a.tmps) = true) (x : Operand) {s t : TypeId} (ho : op.op = .convert s t x) {u : Value} (hx : a.eval x = u) (h : ∀ w, (convert s t u).run P w = .ok v w) : YieldsIf P ops S op v a := by
  subst hx
  exact yg hw (by simp only [execOp, ho]) (fun w _ => h w)
theorem yg_ext (hw : Region.wanted op (yielded ops a.tmps) = true) (x : Operand) {k : Nat} (ho : op.op = .extract x k) {u : Value} (hx : a.eval x = u) (h : ∀ w, (Instr.extract u k).run P w = .ok v w) : YieldsIf P ops S op v a := by
  subst hx
  exact yg hw (by simp only [execOp, ho]) (fun w _ => h w)
theorem yg_mv (hw : Region.wanted op (yielded ops a.tmps) = true) (x : Operand) (ho : op.op = .move x) (hx : a.eval x = v) : YieldsIf P ops S op v a := by
  subst hx
  exact .inl ⟨hw, fun w _ => by simp only [execOp, ho]; simp [go_sem]⟩
theorem yg_as (hw : Region.wanted op (yielded ops a.tmps) = true) (x : Operand) (ho : op.op = .assign x) (hx : a.eval x = v) : YieldsIf P ops S op v a := by
  subst hx
  exact .inl ⟨hw, fun w _ => by simp only [execOp, ho]; simp [go_sem]⟩
theorem yg_nil (hw : Region.wanted op (yielded ops a.tmps) = true) (x : Operand) (ho : op.op = .nilCheck x) {p : Addr} (hx : a.eval x = .pointer (some p)) : YieldsIf P ops S op (.pointer (some p)) a :=
  .inl ⟨hw, fun w _ => by simp only [execOp, ho, hx]; simp [go_sem]⟩
theorem yg_pickT (hw : Region.wanted op (yielded ops a.tmps) = true) (x y z : Operand) (ho : op.op = .pick x y z) (hx : a.eval x = .bool true) (hy : a.eval y = v) : YieldsIf P ops S op v a := by
  subst hy
  exact .inl ⟨hw, fun w _ => by simp only [execOp, ho, hx]; simp [go_sem]⟩
theorem guard_t {i d : Nat} {b : Bool} (hg : op.guard = some (i, true)) (hd : (ops[i]?).bind (·.dst) = some d) (hsz : d < a.tmps.size) (he : a.eval (.tmp d) = .bool b) : Region.wanted op (yielded ops a.tmps) = b := by
  have h1 : a.tmps[d]? = some (.bool b) := by
    have : a.tmps.getD d undef = .bool b := he
    simp [hsz] at this
    rw [Array.getElem?_eq_getElem hsz, this]
  unfold Region.wanted yielded
  simp only [hg, hd, Option.bind_some, h1]
  cases b <;> rfl
theorem opOwn {Q : Exit → Act → World → Prop} {i : Nat} {o : Oper} {K : Act → World → Prop} {w : World} (hi : ops[i]? = some o) (hw : Region.wanted o (yielded ops a.tmps) = true) (h : ∀ K' : Act → World → Prop, (∀ a w, K a w → K' a w) → o.wp P a w K' Q) : wpOp P ops Q i K a w :=
  wpOp_step hi fun K' hK' => by
    rw [if_pos hw]
    exact h K' hK'
end
/-! Regions whose last operations write what the others read: behind an operation of L nothing is asked of the world, as all that is taken first comes ahead of it. -/
section
variable {P : Program} {ops : Array Oper} {Q : Exit → Act → World → Prop} {md : Region.Mode} {S : World → Prop} {L : Nat → Bool}
def wpAnyG (P : Program) (md : Region.Mode) (ops : Array Oper) (Q : Exit → Act → World → Prop) (L : Nat → Bool) (S : World → Prop) : Nat → Array Bool → Act → World → Prop
  | 0, listed, a, w => Region.ready md ops listed = [] ∧ Q .normal a w
  | fuel + 1, listed, a, w =>
    (Region.ready md ops listed = [] → Q .normal a w) ∧
    ∀ i ∈ Region.ready md ops listed, wpOp P ops Q i (fun a' w' => (L i = true ∨ S w') ∧ wpAnyG P md ops Q L S fuel (listed.setIfInBounds i true) a' w') a w
theorem wpAny_of_G : ∀ (fuel : Nat) (listed : Array Bool) (a : Act) (w : World), wpAnyG P md ops Q L S fuel listed a w → wpAny P md ops Q fuel listed a w
  | 0, _, _, _, h => h
  | fuel + 1, _, _, _, h => ⟨h.1, fun i hi => wpOp_mono (fun a' w' h' => wpAny_of_G fuel _ a' w' h'.2) (h.2 i hi)⟩
def Closed (md : Region.Mode) (ops : Array Oper) (listed : Array Bool) : Prop := ∀ k, listed.getD k false = true → ∀ o, ops[k]? = some o → ∀ e ∈ o.after, Region.binds md e = true → listed.getD e.on false = true
def closedB (md : Region.Mode) (ops : Array Oper) (listed : Array Bool) : Bool := (List.range ops.size).all fun k => !listed.getD k false || (match ops[k]? with
  | some o => o.after.all fun e => !Region.binds md e || listed.getD e.on false
  | none => true)
theorem closedB_spec {listed : Array Bool} (h : closedB md ops listed = true) : Closed md ops listed := fun k hk o ho e he hb => by
  have hlt : k < ops.size := (Array.getElem?_eq_some_iff.1 ho).1
  have h1 := List.all_eq_true.1 h k (List.mem_range.2 hlt)
  simp only [hk, Bool.not_true, Bool.false_or, ho] at h1
  have h2 := Array.all_eq_true'.1 h1 e he
  simpa [hb] using h2
theorem Closed.step {listed : Array Bool} (h : Closed md ops listed) {j : Nat} {oj : Oper} (hoj : ops[j]? = some oj) (hall : ∀ e ∈ oj.after, Region.binds md e = true → listed.getD e.on false = true) : Closed md ops (listed.setIfInBounds j true) := fun k hk o ho e he hb => by
  refine getD_set_true ?_
  by_cases hjk : j = k
  · subst hjk
    rw [hoj] at ho
    cases ho
    exact hall e he hb
  · rw [getD_set_ne false hjk] at hk
    exact h k hk o ho e he hb
def depends (md : Region.Mode) (ops : Array Oper) : Nat → Nat → Nat → Bool
  | 0, _, _ => false
  | f + 1, j, i => match ops[j]? with
    | some o => o.after.any fun e => Region.binds md e && (e.on == i || depends md ops f e.on i)
    | none => false
theorem depends_in {listed : Array Bool} (hc : Closed md ops listed) {i : Nat} : ∀ (f j : Nat), depends md ops f j i = true → (∀ o, ops[j]? = some o → ∀ e ∈ o.after, Region.binds md e = true → listed.getD e.on false = true) → listed.getD i false = true
  | 0, j, h, _ => by cases h
  | f + 1, j, h, hd => by
    unfold depends at h
    cases ho : ops[j]? with
    | none => rw [ho] at h; cases h
    | some o =>
      rw [ho] at h
      obtain ⟨e, he, h1⟩ := Array.any_eq_true'.1 h
      simp only [Bool.and_eq_true, Bool.or_eq_true, beq_iff_eq] at h1
      have h2 := hd o ho e he h1.1
      rcases h1.2 with h3 | h3
      · rw [← h3]; exact h2
      · exact depends_in hc f e.on h3 (fun o' ho' e' he' hb' => hc e.on h2 o' ho' e' he' hb')
def waitsAll (md : Region.Mode) (ops : Array Oper) (L : Nat → Bool) (i : Nat) : Bool := (List.range ops.size).all fun j => !L j || depends md ops ops.size j i
theorem waitsAll_spec {i : Nat} (h : waitsAll md ops L i = true) : ∀ j oj, L j = true → ops[j]? = some oj → depends md ops ops.size j i = true := fun j oj hL hj => by
  have hlt : j < ops.size := (Array.getElem?_eq_some_iff.1 hj).1
  have h1 := List.all_eq_true.1 h j (List.mem_range.2 hlt)
  simpa only [hL, Bool.not_true, Bool.false_or] using h1
theorem wpAnyG_first {i : Nat} {oi : Oper} {v : Value} (hi : ops[i]? = some oi) (hsel : ∀ (j : Nat) (o : Oper) cs b, ops[j]? = some o → o.op ≠ .select cs b)
    (hQ : ∀ c a w, Q (.panic c) (a.put oi.dst v) w → Q (.panic c) a w) (hLi : L i = false) (hL : ∀ j oj, L j = true → ops[j]? = some oj → depends md ops ops.size j i = true) :
    ∀ (fuel : Nat) (listed : Array Bool) (a : Act) (w : World), Closed md ops listed →
      (∀ j oj, ops[j]? = some oj → j ≠ i → listed.getD j true = false → (∀ e ∈ oj.after, Region.binds md e = true → e.on ≠ i) → oi.apart ops oj = true) →
      i ∈ Region.ready md ops listed → YieldsIf P ops S oi v a → S w →
      wpAnyG P md ops Q L S fuel (listed.setIfInBounds i true) (a.put oi.dst v) w → wpAnyG P md ops Q L S (fuel + 1) listed a w := by
  intro fuel
  induction fuel with
  | zero =>
    intro listed a w _ _ hr hy hS H
    refine ⟨fun h => (by rw [h] at hr; cases hr), fun j hj => ?_⟩
    by_cases hji : j = i
    · subst hji; exact hy.wpOp hi hS ⟨.inr hS, H⟩
    · have := ready_mono hj hji
      rw [H.1] at this
      cases this
  | succ fuel ih =>
    intro listed a w hcl hfree hr hy hS H
    refine ⟨fun h => (by rw [h] at hr; cases hr), fun j hj => ?_⟩
    by_cases hji : j = i
    · subst hji; exact hy.wpOp hi hS ⟨.inr hS, H⟩
    · have h1 := H.2 j (ready_mono hj hji)
      obtain ⟨hjun, oj, hoj, hall⟩ := mem_ready.1 hj
      have hnot : ∀ e ∈ oj.after, Region.binds md e = true → e.on ≠ i := fun e he hb heq => by
        have h1 := hall e he hb
        have h0 := (mem_ready.1 hr).1
        rw [heq] at h1
        rcases Nat.lt_or_ge i listed.size with h' | h'
        · simp [h'] at h0 h1; rw [h0] at h1; cases h1
        · simp [Array.getElem?_eq_none h'] at h1
      have hLj : L j = false := by
        cases h : L j with
        | false => rfl
        | true =>
          have hin := depends_in hcl _ _ (hL j oj h hoj) (fun o ho e he hb => by rw [hoj] at ho; cases ho; exact hall e he hb)
          have h0 := (mem_ready.1 hr).1
          rcases Nat.lt_or_ge i listed.size with h' | h'
          · simp [h'] at h0 hin; rw [h0] at hin; cases hin
          · simp [Array.getElem?_eq_none h'] at hin
      have h2 := wpOp_putIf hoj (hfree j oj hoj hji hjun hnot) (fun cs b => hsel i oi cs b hi) (fun cs b => hsel j oj cs b hoj) hQ hy h1
      have hfree' : ∀ k ok, ops[k]? = some ok → k ≠ i → (listed.setIfInBounds j true).getD k true = false →
          (∀ e ∈ ok.after, Region.binds md e = true → e.on ≠ i) → oi.apart ops ok = true := fun k ok hk hki hun hno => by
        refine hfree k ok hk hki ?_ hno
        by_cases hjk : j = k
        · subst hjk; exact hjun
        · rw [getD_set_ne true hjk] at hun; exact hun
      refine wpOp_mono (fun a' w' h3 => ?_) h2
      have hs' : S w' := h3.2.1.resolve_left (by rw [hLj]; exact Bool.false_ne_true)
      refine ⟨.inr hs', ih (listed.setIfInBounds j true) a' w' (hcl.step hoj hall) hfree' (ready_mono hr (Ne.symm hji)) h3.1 hs' ?_⟩
      rw [Array.setIfInBounds_comm _ _ hji]
      exact h3.2.2
theorem wpAnyG_take {i : Nat} {oi : Oper} {v : Value} {fuel : Nat} {listed : Array Bool} {a : Act} {w : World} (hi : ops[i]? = some oi)
    (hs : (Region.noSelect ops && (!L i && (waitsAll md ops L i && closedB md ops listed))) = true) (hf : Region.free md ops listed i = true) (hr : (Region.ready md ops listed).contains i = true)
    (hQ : ∀ c a w, Q (.panic c) (a.put oi.dst v) w → Q (.panic c) a w) (hy : YieldsIf P ops S oi v a) (hS : S w)
    (h : wpAnyG P md ops Q L S fuel (listed.setIfInBounds i true) (a.put oi.dst v) w) : wpAnyG P md ops Q L S (fuel + 1) listed a w := by
  simp only [Bool.and_eq_true, Bool.not_eq_true'] at hs
  exact wpAnyG_first hi (Region.noSelect_spec hs.1) hQ hs.2.1 (waitsAll_spec hs.2.2.1) fuel listed a w (closedB_spec hs.2.2.2) (Region.free_spec hi hf) (by simpa using hr) hy hS h
theorem wpAnyG_all {rs : List Nat} {fuel : Nat} {listed : Array Bool} {a : Act} {w : World} (hr : Region.ready md ops listed = rs) (hne : rs ≠ [])
    (h : ∀ i ∈ rs, wpOp P ops Q i (fun a' w' => (L i = true ∨ S w') ∧ wpAnyG P md ops Q L S fuel (listed.setIfInBounds i true) a' w') a w) : wpAnyG P md ops Q L S (fuel + 1) listed a w :=
  ⟨fun h0 => absurd (hr ▸ h0) hne, hr ▸ h⟩
theorem wpAnyG_done {listed : Array Bool} {a : Act} {w : World} (hr : Region.ready md ops listed = []) (h : Q .normal a w) :
    ∀ fuel, wpAnyG P md ops Q L S fuel listed a w
  | 0 => ⟨hr, h⟩
  | _ + 1 => ⟨fun _ => h, by rw [hr]; simp⟩
theorem wp_region_G {id : Nat} {a : Act} {w : World} (L : Nat → Bool) (S : World → Prop) (hm : P.follows .mixedOrders = true)
    (h : wpAnyG P .any ops Q L S ops.size (Array.replicate ops.size false) a { w with drawn := w.drawn + 1 }) : (Code.region id ops true).wp P Q a w :=
  wp_region_any hm (wpAny_of_G _ _ _ _ h)
theorem wpAnyG_one {i : Nat} {oi : Oper} {v : Value} {fuel : Nat} {listed : Array Bool} {a : Act} {w : World} (hi : ops[i]? = some oi) (hr : Region.ready md ops listed = [i]) (hy : YieldsIf P ops S oi v a) (hS : S w)
    (h : wpAnyG P md ops Q L S fuel (listed.setIfInBounds i true) (a.put oi.dst v) w) : wpAnyG P md ops Q L S (fuel + 1) listed a w :=
  wpAnyG_all hr (by simp) fun j hj => by
    obtain rfl : j = i := by simpa using hj
    exact hy.wpOp hi hS ⟨.inr hS, h⟩
end
end Go.Proofs.YtomhcccjeadefaaGreatDoor
