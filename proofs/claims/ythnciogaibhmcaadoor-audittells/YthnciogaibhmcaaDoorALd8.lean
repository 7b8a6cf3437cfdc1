/- YthnciogaibhmcaaDoorALd1 + YthnciogaibhmcaaDoorALd5 + YthnciogaibhmcaaDoorYG + YthnciogaibhmcaaDoorATk + YthnciogaibhmcaaDoorATk2 + YthnciogaibhmcaaDoorALd2 + YthnciogaibhmcaaDoorALd3 + YthnciogaibhmcaaDoorALd4 + YthnciogaibhmcaaDoorALd6 + YthnciogaibhmcaaDoorALd7 + YthnciogaibhmcaaDoorALd8 -/
import Derived.Test.YthnciogaibhmcaaDoorAToNum
import Derived.Test.YthnciogaibhmcaaDoorARows
import Derived.BigQuiet
import Derived.Test.YthnciogaibhmcaaDoorRows
import Derived.OrdersHeld
import Derived.RegionTactic
import Derived.WalkKit
import Derived.Test.YthnciogaibhmcaaDoorAAnc
import Derived.Laws.IdiomStrings
import Derived.Laws.Cover3
/- Loading a chain from its own rows: takeNumbers, by a contract for the right row. -/
namespace Go.Proofs.YthnciogaibhmcaaDoor
open Go.RowKit
set_option linter.unusedVariables false
set_option maxRecDepth 20000

section
variable {w : World} {B g : Nat} {v : Value} {c : Ch}
theorem ChAt.setBn (h : ChAt w B g v c) (n : Nat) : ChAt (w.setCell ⟨g, 0, none⟩ (.int .i64 (n : Int))) B g v { c with bn := n } := by
  refine ⟨?_, h.row_set 0 [_], h.bg⟩
  rw [heap_setCell_same w g 0 _ _ _ h.obj, List.setIfInBounds_toArray]
  rfl
theorem ChAt.setAn (h : ChAt w B g v c) (ok : Lens c) (n : Nat) : ChAt (w.setCell ⟨g, 33, none⟩ (.int .i64 (n : Int))) B g v { c with an := n } := by
  refine ⟨?_, h.row_set 33 [_], h.bg⟩
  rw [heap_setCell_same w g 33 _ _ _ h.obj, List.setIfInBounds_toArray]
  unfold ccells
  rw [show lnkC c.an c.ah = .int .i64 (c.an : Int) :: cellsOf c.ah from rfl, List.cons_append, set_mid _ _ _ _ 33 (by simp [lnkC_length, ok.lb])]
  rfl
end
set_option maxHeartbeats 1000000 in
theorem takeNumbers_ok {w : World} {B g : Nat} {v : Value} {c : Ch} (h : ChAt w B g v c) (ok : Lens c) (ad : Option Addr) (cp p q s : Nat) (ht : Texts w ad ([p, q, s].map txt)) (h1 : p ≤ 1099511627776) (h2 : q ≤ 1099511627776) (h3 : s ≤ 1099511627776) :
    Calls Tryd.prog 36 #[.pointer (some ⟨g, 0, none⟩), .agg #[.string ⟨#[35]⟩, .slice ad 3 cp]] w fun e w' => e = .returned (.bool true) ∧ ChAt w' B g v { c with bn := p, an := q, la := s } ∧ Out (fun j => j = g) w w' := by
  have hb0 : Below w.heap.size w (w.alloc (.cells #[.string ⟨#[35]⟩, .slice ad 3 cp] 45)) := (Below.refl _ w).alloc (Nat.le_refl _) _
  have h0 := h.below hb0
  have ht0 := ht.below hb0
  obtain ⟨b, o, rfl, j0⟩ := ht0 0 (by simp)
  obtain ⟨b1, o1, e1, j1⟩ := ht0 1 (by simp)
  cases e1
  obtain ⟨b2, o2, e2, j2⟩ := ht0 2 (by simp)
  cases e2
  have k0 : (w.alloc (.cells #[.string ⟨#[35]⟩, .slice (some ⟨b, o, none⟩) 3 cp] 45)).cell? ⟨b, o, none⟩ = some (.string (txt p)) := j0
  have k1 : (w.alloc (.cells #[.string ⟨#[35]⟩, .slice (some ⟨b, o, none⟩) 3 cp] 45)).cell? ⟨b, o + 1, none⟩ = some (.string (txt q)) := j1
  have k2 : (w.alloc (.cells #[.string ⟨#[35]⟩, .slice (some ⟨b, o, none⟩) 3 cp] 45)).cell? ⟨b, o + 2, none⟩ = some (.string (txt s)) := j2
  clear j0 j1 j2 ht ht0
  have C1 := hid (fun W => number_back p 0 1099511627776 (Nat.zero_le _) h1 (by decide) W)
  have C2 := hid (fun W => number_back q 0 1099511627776 (Nat.zero_le _) h2 (by decide) W)
  have C3 := hid (fun W => number_back s 0 1099511627776 (Nat.zero_le _) h3 (by decide) W)
  generalize txt p = tp at *
  generalize txt q = tq at *
  generalize txt s = ts at *
  have q0 := h0.c0
  have f0 := h0.fz 0
  have h4 := h0.setBn p
  have q33 := h4.c33 (c := { c with bn := p }) ⟨ok.lb, ok.lan, ok.lh⟩
  have f33 := h4.fz 33
  have h5 := h4.setAn (c := { c with bn := p }) ⟨ok.lb, ok.lan, ok.lh⟩ q
  have q99 := h5.c99 (c := { c with bn := p, an := q }) ⟨ok.lb, ok.lan, ok.lh⟩
  have f99 := h5.fz 99
  have h6 := h5.setLa (c := { c with bn := p, an := q }) ⟨ok.lb, ok.lan, ok.lh⟩ s
  have H6 := hid h6
  have HB := hid hb0
  clear h h0 h4 h5 h6 hb0
  go_enter Tryd.func36, Tryd.ntmps36
  go_wp2_with fail
  refine (C1.out _).mono ?_
  rintro x w1 ⟨rfl, e9⟩
  subst w1
  go_wp2_with fail
  refine (C2.out _).mono ?_
  rintro x w1 ⟨rfl, e9⟩
  subst w1
  go_wp2_with fail
  refine (C3.out _).mono ?_
  rintro x w1 ⟨rfl, e9⟩
  subst w1
  go_wp2_with fail
  go_ret
  exact ⟨rfl, H6.out, Out.setCell (P := fun j => j = g) (Out.setCell (P := fun j => j = g) (Out.setCell (P := fun j => j = g) (Out.of_below HB.out) ⟨g, 0, none⟩ _ rfl) ⟨g, 33, none⟩ _ rfl) ⟨g, 99, none⟩ _ rfl⟩
end Go.Proofs.YthnciogaibhmcaaDoor

/- Loading a chain: lastAt, by a contract. -/
namespace Go.Proofs.YthnciogaibhmcaaDoor
open Go.RowKit
set_option linter.unusedVariables false
set_option maxRecDepth 20000
/-- the time of the last event, or 0 -/
def lastT (c : Ch) : Nat := (c.ev.getLast?.map (·.tim)).getD 0
set_option maxHeartbeats 1000000 in
theorem lastAt_any {w : World} {B g : Nat} {v : Value} {c : Ch} (h : ChAt w B g v c) (ok : Lens c) (hfew : c.ev.length ≤ 1000) :
    Calls Tryd.prog 60 #[.pointer (some ⟨g, 0, none⟩)] w fun e w' => e = .returned (.int .i64 (lastT c : Int)) ∧ Below w.heap.size w w' := by
  obtain ⟨a0, cap, rfl⟩ := h.val
  have c66 := h.c66 ok
  by_cases h0 : c.ev.length = 0
  · have hl : lastT c = 0 := by unfold lastT; rw [List.eq_nil_of_length_eq_zero h0]; rfl
    rw [hl]
    rw [h0] at c66
    clear h hl h0
    go_enter Tryd.func60, Tryd.ntmps60
    go_wp2
    go_ret
    exact ⟨rfl, Below.refl _ _⟩
  · obtain ⟨n, hn⟩ : ∃ n, c.ev.length = n + 1 := ⟨c.ev.length - 1, by omega⟩
    obtain ⟨b, rfl, hrow⟩ := h.row_at n (by omega)
    have d1 : w.cell? ⟨b, n * 4 + 1, none⟩ = some (.int .i64 ((c.ev[n]'(by omega)).tim : Int)) := hrow 1 _ rfl
    have hl : lastT c = (c.ev[n]'(by omega)).tim := by
      unfold lastT
      rw [List.getLast?_eq_getElem?, List.getElem?_eq_getElem (by omega)]
      simp [hn]
    rw [hl]
    generalize (c.ev[n]'(by omega)).tim = q at *
    rw [hn] at c66
    have g1 : (((n + 1 : Nat) : Int) == 0) = false := by rw [beq_eq_false_iff_ne]; omega
    have hn1 : n ≤ 1000 := by omega
    have Hl := hid hl
    clear h hrow hl h0 hn hfew Hl
    go_enter Tryd.func60, Tryd.ntmps60
    go_wp2_with fail
    go_quiet (fail)
    go_wp2
    go_ret
    exact ⟨rfl, ⟨rfl, rfl, rfl, Nat.le_refl _, fun _ _ => rfl⟩⟩
end Go.Proofs.YthnciogaibhmcaaDoor

/- Operations of regions that draw their order, each by what it yields: for every program and every type. No program. -/
namespace Go.Proofs.YthnciogaibhmcaaDoor
open Go.RowKit
set_option linter.unusedVariables false
section
variable {P : Program} {ops : Array Oper} {S : World → Prop} {op : Oper} {a : Act} {v : Value}
theorem yg {s : Sem Value} (hw : Region.wanted op (yielded ops a.tmps) = true) (he : execOp a.eval op = (do pure (Next.value (← s)))) (h : ∀ w, S w → s.run P w = .ok v w) : YieldsIf P ops S op v a := by
  refine .inl ⟨hw, fun w hs => ?_⟩
  rw [he]
  simp [go_sem, h w hs]
theorem yg_fld (hw : Region.wanted op (yielded ops a.tmps) = true) (x : Operand) {t : TypeId} {k : Nat} (ho : op.op = .fieldAddr t x k) {u : Value} (hx : a.eval x = u) (h : ∀ w, (Instr.fieldAt t u k).run P w = .ok v w) : YieldsIf P ops S op v a := by
  subst hx
  exact yg hw (by simp only [execOp, ho]) (fun w _ => h w)
theorem yg_ld (hw : Region.wanted op (yielded ops a.tmps) = true) (x : Operand) {t : TypeId} (ho : op.op = .load t x) {u : Value} (hx : a.eval x = u) (h : ∀ w, S w → (Instr.loadAt t u).run P w = .ok v w) : YieldsIf P ops S op v a := by
  subst hx
  exact yg hw (by simp only [execOp, ho]) h
theorem yg_ix (hw : Region.wanted op (yielded ops a.tmps) = true) (x y : Operand) {t : TypeId} (ho : op.op = .indexAddr t x y) {u z : Value} (hx : a.eval x = u) (hy : a.eval y = z) (h : ∀ w, (Instr.indexAt t u z).run P w = .ok v w) : YieldsIf P ops S op v a := by
  subst hx; subst hy
  exact yg hw (by simp only [execOp, ho]) (fun w _ => h w)
theorem yg_bin (hw : Region.wanted op (yielded ops a.tmps) = true) (x y : Operand) {b : BinOp} {t t' : TypeId} (ho : op.op = .binOp b t x y t') {u z : Value} (hx : a.eval x = u) (hy : a.eval y = z) (h : ∀ w, (do eqGuard b t x y u z; binOp b t u z : Sem Value).run P w = .ok v w) : YieldsIf P ops S op v a := by
  subst hx; subst hy
  exact yg hw (by simp only [execOp, ho]) (fun w _ => h w)
theorem yg_ext (hw : Region.wanted op (yielded ops a.tmps) = true) (x : Operand) {k : Nat} (ho : op.op = .extract x k) {u : Value} (hx : a.eval x = u) (h : ∀ w, (Instr.extract u k).run P w = .ok v w) : YieldsIf P ops S op v a := by
  subst hx
  exact yg hw (by simp only [execOp, ho]) (fun w _ => h w)
theorem yg_mv (hw : Region.wanted op (yielded ops a.tmps) = true) (x : Operand) (ho : op.op = .move x) (hx : a.eval x = v) : YieldsIf P ops S op v a := by
  subst hx
  exact .inl ⟨hw, fun w _ => by simp only [execOp, ho]; simp [go_sem]⟩
theorem yg_as (hw : Region.wanted op (yielded ops a.tmps) = true) (x : Operand) (ho : op.op = .assign x) (hx : a.eval x = v) : YieldsIf P ops S op v a := by
  subst hx
  exact .inl ⟨hw, fun w _ => by simp only [execOp, ho]; simp [go_sem]⟩
theorem yg_nil (hw : Region.wanted op (yielded ops a.tmps) = true) (x : Operand) (ho : op.op = .nilCheck x) {p : Addr} (hx : a.eval x = .pointer (some p)) : YieldsIf P ops S op (.pointer (some p)) a :=
  .inl ⟨hw, fun w _ => by simp only [execOp, ho, hx]; simp [go_sem]⟩
theorem yg_pickF (hw : Region.wanted op (yielded ops a.tmps) = true) (x y z : Operand) (ho : op.op = .pick x y z) (hx : a.eval x = .bool false) (hz : a.eval z = v) : YieldsIf P ops S op v a := by
  subst hz
  exact .inl ⟨hw, fun w _ => by simp only [execOp, ho, hx]; simp [go_sem]⟩
theorem guard_f {i d : Nat} {b : Bool} (hg : op.guard = some (i, false)) (hd : (ops[i]?).bind (·.dst) = some d) (hsz : d < a.tmps.size) (he : a.eval (.tmp d) = .bool b) : Region.wanted op (yielded ops a.tmps) = !b := by
  have h1 : a.tmps[d]? = some (.bool b) := by
    have : a.tmps.getD d undef = .bool b := he
    simp [hsz] at this
    rw [Array.getElem?_eq_getElem hsz, this]
  unfold Region.wanted yielded
  simp only [hg, hd, Option.bind_some, h1]
  cases b <;> rfl
theorem opOwn {Q : Exit → Act → World → Prop} {i : Nat} {o : Oper} {K : Act → World → Prop} {w : World} (hi : ops[i]? = some o) (hw : Region.wanted o (yielded ops a.tmps) = true) (h : ∀ K' : Act → World → Prop, (∀ a w, K a w → K' a w) → o.wp P a w K' Q) : wpOp P ops Q i K a w :=
  wpOp_step hi fun K' hK' => by
    rw [if_pos hw]
    exact h K' hK'
theorem yg_len (hw : Region.wanted op (yielded ops a.tmps) = true) (x : Nat) {t : TypeId} (ho : op.op = .call { callee := .builtin .len, args := #[.tmp x], argTypes := #[t] }) {u : Value} (hx : a.eval (.tmp x) = u) (h : ∀ w, S w → (invoke (.builtin .len #[t] op.type #[false]) #[u]).run P w = .ok (.value v) w) : YieldsIf P ops S op v a := by
  refine .inl ⟨hw, fun w hs => ?_⟩
  have h1 := h w hs
  simp only [execOp, ho, resolve]
  simp only [List.map_toArray, List.map_cons, List.map_nil, hx]
  simpa [go_sem] using h1
end
/-! Regions whose last operations write what the others read: behind an operation of L nothing is asked of the world, as all that is taken first comes ahead of it. -/
section
variable {P : Program} {ops : Array Oper} {Q : Exit → Act → World → Prop} {md : Region.Mode} {S : World → Prop} {L : Nat → Bool}
def wpAnyG (P : Program) (md : Region.Mode) (ops : Array Oper) (Q : Exit → Act → World → Prop) (L : Nat → Bool) (S : World → Prop) : Nat → Array Bool → Act → World → Prop
  | 0, listed, a, w => Region.ready md ops listed = [] ∧ Q .normal a w
  | fuel + 1, listed, a, w =>
    (Region.ready md ops listed = [] → Q .normal a w) ∧
    ∀ i ∈ Region.ready md ops listed, wpOp P ops Q i (fun a' w' => (L i = true ∨ S w') ∧ wpAnyG P md ops Q L S fuel (listed.setIfInBounds i true) a' w') a w
theorem wpAny_of_G : ∀ (fuel : Nat) (listed : Array Bool) (a : Act) (w : World), wpAnyG P md ops Q L S fuel listed a w → wpAny P md ops Q fuel listed a w
  | 0, _, _, _, h => h
  | fuel + 1, _, _, _, h => ⟨h.1, fun i hi => wpOp_mono (fun a' w' h' => wpAny_of_G fuel _ a' w' h'.2) (h.2 i hi)⟩
/-- what came up came up behind all that it waits for -/
def Closed (md : Region.Mode) (ops : Array Oper) (listed : Array Bool) : Prop := ∀ k, listed.getD k false = true → ∀ o, ops[k]? = some o → ∀ e ∈ o.after, Region.binds md e = true → listed.getD e.on false = true
def closedB (md : Region.Mode) (ops : Array Oper) (listed : Array Bool) : Bool := (List.range ops.size).all fun k => !listed.getD k false || (match ops[k]? with
  | some o => o.after.all fun e => !Region.binds md e || listed.getD e.on false
  | none => true)
theorem closedB_spec {listed : Array Bool} (h : closedB md ops listed = true) : Closed md ops listed := fun k hk o ho e he hb => by
  have hlt : k < ops.size := (Array.getElem?_eq_some_iff.1 ho).1
  have h1 := List.all_eq_true.1 h k (List.mem_range.2 hlt)
  simp only [hk, Bool.not_true, Bool.false_or, ho] at h1
  have h2 := Array.all_eq_true'.1 h1 e he
  simpa [hb] using h2
theorem Closed.step {listed : Array Bool} (h : Closed md ops listed) {j : Nat} {oj : Oper} (hoj : ops[j]? = some oj) (hall : ∀ e ∈ oj.after, Region.binds md e = true → listed.getD e.on false = true) : Closed md ops (listed.setIfInBounds j true) := fun k hk o ho e he hb => by
  refine getD_set_true ?_
  by_cases hjk : j = k
  · subst hjk
    rw [hoj] at ho
    cases ho
    exact hall e he hb
  · rw [getD_set_ne false hjk] at hk
    exact h k hk o ho e he hb
/-- j waits for i, by however many steps -/
def depends (md : Region.Mode) (ops : Array Oper) : Nat → Nat → Nat → Bool
  | 0, _, _ => false
  | f + 1, j, i => match ops[j]? with
    | some o => o.after.any fun e => Region.binds md e && (e.on == i || depends md ops f e.on i)
    | none => false
theorem depends_in {listed : Array Bool} (hc : Closed md ops listed) {i : Nat} : ∀ (f j : Nat), depends md ops f j i = true → (∀ o, ops[j]? = some o → ∀ e ∈ o.after, Region.binds md e = true → listed.getD e.on false = true) → listed.getD i false = true
  | 0, j, h, _ => by cases h
  | f + 1, j, h, hd => by
    unfold depends at h
    cases ho : ops[j]? with
    | none => rw [ho] at h; cases h
    | some o =>
      rw [ho] at h
      obtain ⟨e, he, h1⟩ := Array.any_eq_true'.1 h
      simp only [Bool.and_eq_true, Bool.or_eq_true, beq_iff_eq] at h1
      have h2 := hd o ho e he h1.1
      rcases h1.2 with h3 | h3
      · rw [← h3]; exact h2
      · exact depends_in hc f e.on h3 (fun o' ho' e' he' hb' => hc e.on h2 o' ho' e' he' hb')
/-- all operations of L wait for that one -/
def waitsAll (md : Region.Mode) (ops : Array Oper) (L : Nat → Bool) (i : Nat) : Bool := (List.range ops.size).all fun j => !L j || depends md ops ops.size j i
theorem waitsAll_spec {i : Nat} (h : waitsAll md ops L i = true) : ∀ j oj, L j = true → ops[j]? = some oj → depends md ops ops.size j i = true := fun j oj hL hj => by
  have hlt : j < ops.size := (Array.getElem?_eq_some_iff.1 hj).1
  have h1 := List.all_eq_true.1 h j (List.mem_range.2 hlt)
  simpa only [hL, Bool.not_true, Bool.false_or] using h1
theorem wpAnyG_first {i : Nat} {oi : Oper} {v : Value} (hi : ops[i]? = some oi) (hsel : ∀ (j : Nat) (o : Oper) cs b, ops[j]? = some o → o.op ≠ .select cs b)
    (hQ : ∀ c a w, Q (.panic c) (a.put oi.dst v) w → Q (.panic c) a w) (hLi : L i = false) (hL : ∀ j oj, L j = true → ops[j]? = some oj → depends md ops ops.size j i = true) :
    ∀ (fuel : Nat) (listed : Array Bool) (a : Act) (w : World), Closed md ops listed →
      (∀ j oj, ops[j]? = some oj → j ≠ i → listed.getD j true = false → (∀ e ∈ oj.after, Region.binds md e = true → e.on ≠ i) → oi.apart ops oj = true) →
      i ∈ Region.ready md ops listed → YieldsIf P ops S oi v a → S w →
      wpAnyG P md ops Q L S fuel (listed.setIfInBounds i true) (a.put oi.dst v) w → wpAnyG P md ops Q L S (fuel + 1) listed a w := by
  intro fuel
  induction fuel with
  | zero =>
    intro listed a w _ _ hr hy hS H
    refine ⟨fun h => (by rw [h] at hr; cases hr), fun j hj => ?_⟩
    by_cases hji : j = i
    · subst hji; exact hy.wpOp hi hS ⟨.inr hS, H⟩
    · have := ready_mono hj hji
      rw [H.1] at this
      cases this
  | succ fuel ih =>
    intro listed a w hcl hfree hr hy hS H
    refine ⟨fun h => (by rw [h] at hr; cases hr), fun j hj => ?_⟩
    by_cases hji : j = i
    · subst hji; exact hy.wpOp hi hS ⟨.inr hS, H⟩
    · have h1 := H.2 j (ready_mono hj hji)
      obtain ⟨hjun, oj, hoj, hall⟩ := mem_ready.1 hj
      have hnot : ∀ e ∈ oj.after, Region.binds md e = true → e.on ≠ i := fun e he hb heq => by
        have h1 := hall e he hb
        have h0 := (mem_ready.1 hr).1
        rw [heq] at h1
        rcases Nat.lt_or_ge i listed.size with h' | h'
        · simp [h'] at h0 h1; rw [h0] at h1; cases h1
        · simp [Array.getElem?_eq_none h'] at h1
      have hLj : L j = false := by
        cases h : L j with
        | false => rfl
        | true =>
          have hin := depends_in hcl _ _ (hL j oj h hoj) (fun o ho e he hb => by rw [hoj] at ho; cases ho; exact hall e he hb)
          have h0 := (mem_ready.1 hr).1
          rcases Nat.lt_or_ge i listed.size with h' | h'
          · simp [h'] at h0 hin; rw [h0] at hin; cases hin
          · simp [Array.getElem?_eq_none h'] at hin
      have h2 := wpOp_putIf hoj (hfree j oj hoj hji hjun hnot) (fun cs b => hsel i oi cs b hi) (fun cs b => hsel j oj cs b hoj) hQ hy h1
      have hfree' : ∀ k ok, ops[k]? = some ok → k ≠ i → (listed.setIfInBounds j true).getD k true = false →
          (∀ e ∈ ok.after, Region.binds md e = true → e.on ≠ i) → oi.apart ops ok = true := fun k ok hk hki hun hno => by
        refine hfree k ok hk hki ?_ hno
        by_cases hjk : j = k
        · subst hjk; exact hjun
        · rw [getD_set_ne true hjk] at hun; exact hun
      refine wpOp_mono (fun a' w' h3 => ?_) h2
      have hs' : S w' := h3.2.1.resolve_left (by rw [hLj]; exact Bool.false_ne_true)
      refine ⟨.inr hs', ih (listed.setIfInBounds j true) a' w' (hcl.step hoj hall) hfree' (ready_mono hr (Ne.symm hji)) h3.1 hs' ?_⟩
      rw [Array.setIfInBounds_comm _ _ hji]
      exact h3.2.2
theorem wpAnyG_take {i : Nat} {oi : Oper} {v : Value} {fuel : Nat} {listed : Array Bool} {a : Act} {w : World} (hi : ops[i]? = some oi)
    (hs : (Region.noSelect ops && (!L i && (waitsAll md ops L i && closedB md ops listed))) = true) (hf : Region.free md ops listed i = true) (hr : (Region.ready md ops listed).contains i = true)
    (hQ : ∀ c a w, Q (.panic c) (a.put oi.dst v) w → Q (.panic c) a w) (hy : YieldsIf P ops S oi v a) (hS : S w)
    (h : wpAnyG P md ops Q L S fuel (listed.setIfInBounds i true) (a.put oi.dst v) w) : wpAnyG P md ops Q L S (fuel + 1) listed a w := by
  simp only [Bool.and_eq_true, Bool.not_eq_true'] at hs
  exact wpAnyG_first hi (Region.noSelect_spec hs.1) hQ hs.2.1 (waitsAll_spec hs.2.2.1) fuel listed a w (closedB_spec hs.2.2.2) (Region.free_spec hi hf) (by simpa using hr) hy hS h
theorem wpAnyG_all {rs : List Nat} {fuel : Nat} {listed : Array Bool} {a : Act} {w : World} (hr : Region.ready md ops listed = rs) (hne : rs ≠ [])
    (h : ∀ i ∈ rs, wpOp P ops Q i (fun a' w' => (L i = true ∨ S w') ∧ wpAnyG P md ops Q L S fuel (listed.setIfInBounds i true) a' w') a w) : wpAnyG P md ops Q L S (fuel + 1) listed a w :=
  ⟨fun h0 => absurd (hr ▸ h0) hne, hr ▸ h⟩
theorem wpAnyG_done {listed : Array Bool} {a : Act} {w : World} (hr : Region.ready md ops listed = []) (h : Q .normal a w) :
    ∀ fuel, wpAnyG P md ops Q L S fuel listed a w
  | 0 => ⟨hr, h⟩
  | _ + 1 => ⟨fun _ => h, by rw [hr]; simp⟩
theorem wp_region_G {id : Nat} {a : Act} {w : World} (L : Nat → Bool) (S : World → Prop) (hm : P.follows .mixedOrders = true)
    (h : wpAnyG P .any ops Q L S ops.size (Array.replicate ops.size false) a { w with drawn := w.drawn + 1 }) : (Code.region id ops true).wp P Q a w :=
  wp_region_any hm (wpAny_of_G _ _ _ _ h)
/-- one operation in the midst, by what it yields -/
theorem wpAnyG_one {i : Nat} {oi : Oper} {v : Value} {fuel : Nat} {listed : Array Bool} {a : Act} {w : World} (hi : ops[i]? = some oi) (hr : Region.ready md ops listed = [i]) (hy : YieldsIf P ops S oi v a) (hS : S w)
    (h : wpAnyG P md ops Q L S fuel (listed.setIfInBounds i true) (a.put oi.dst v) w) : wpAnyG P md ops Q L S (fuel + 1) listed a w :=
  wpAnyG_all hr (by simp) fun j hj => by
    obtain rfl : j = i := by simpa using hj
    exact hy.wpOp hi hS ⟨.inr hS, h⟩
end
end Go.Proofs.YthnciogaibhmcaaDoor

/- takeEvent of a chain, its regions, over a frame that is a letter. -/
namespace Go.Proofs.YthnciogaibhmcaaDoor
open Go.RowKit
set_option linter.unusedVariables false
set_option maxRecDepth 20000
/-- a row in its box, its three columns, and what else is kept -/
def TE (R b o cp : Nat) (key p q s : ByteArray) (K : World → Prop) (V : World) : Prop := V.heap[R]? = some (.cells #[.string key, .slice (some ⟨b, o, none⟩) 3 cp] 45 (0, 0)) ∧ (V.cell? ⟨b, o, none⟩ = some (.string p) ∧ V.cell? ⟨b, o + 1, none⟩ = some (.string q) ∧ V.cell? ⟨b, o + 2, none⟩ = some (.string s)) ∧ K V
section
variable {R b o cp : Nat} {key p q s : ByteArray} {K : World → Prop} {V V' : World}
theorem TE.k0 (h : TE R b o cp key p q s K V) : V.cell? ⟨R, 0, none⟩ = some (.string key) := cell_of_row _ _ 0 _ _ _ h.1
theorem TE.k1 (h : TE R b o cp key p q s K V) : V.cell? ⟨R, 1, none⟩ = some (.slice (some ⟨b, o, none⟩) 3 cp) := cell_of_row _ _ 1 _ _ _ h.1
theorem TE.keep (h : TE R b o cp key p q s K V) (hb : Below V.heap.size V V') (hk : K V') : TE R b o cp key p q s K V' :=
  ⟨(hb.block _ (heap_lt h.1)).trans h.1, ⟨(hb.cell (World.block_lt_of_cell? _ _ h.2.1.1)).trans h.2.1.1, (hb.cell (World.block_lt_of_cell? _ _ h.2.1.2.1)).trans h.2.1.2.1, (hb.cell (World.block_lt_of_cell? _ _ h.2.1.2.2)).trans h.2.1.2.2⟩, hk⟩
theorem cell_grown {w w' : World} {r : Option Nat} {x k : Nat} {u : Value} (h : w.grownBy w' r) (hne : r ≠ some x) (hc : w.cell? ⟨x, k, none⟩ = some u) : w'.cell? ⟨x, k, none⟩ = some u := by
  have := h.block x (World.block_lt_of_cell? _ _ hc) (fun e => hne e.symm)
  unfold World.cell? at hc ⊢
  rw [this]
  exact hc
theorem TE.grown {r : Option Nat} (h : TE R b o cp key p q s K V) (hg : V.grownBy V' r) (hR : r ≠ some R) (hb : r ≠ some b) (hk : K V') : TE R b o cp key p q s K V' :=
  ⟨(hg.block _ (heap_lt h.1) (fun e => hR e.symm)).trans h.1, ⟨cell_grown hg hb h.2.1.1, cell_grown hg hb h.2.1.2.1, cell_grown hg hb h.2.1.2.2⟩, hk⟩
end
theorem tooLong_no (a b : ByteArray) (ha : a.size ≤ 12) (hb : b.size ≤ 30) (w : World) : Calls Tryd.prog 59 #[.string a, .string b] w fun e w' => e = .returned (.bool false) ∧ w' = w := by
  refine (tooLong_any a b (by omega) (by omega) w).mono ?_
  rintro e w' ⟨rfl, rfl⟩
  exact ⟨by rw [decide_eq_false (by omega)], rfl⟩
theorem hf_tooLong : ∀ (args : Array Value) (w : World), (callFunc 59 args).run Tryd.prog w = .ok (.enter 59 args) w := fun args w => by simp [go_sem]
theorem hf_lastAt : ∀ (args : Array Value) (w : World), (callFunc 60 args).run Tryd.prog w = .ok (.enter 60 args) w := fun args w => by simp [go_sem]
theorem hf_stNumber : ∀ (args : Array Value) (w : World), (callFunc 57 args).run Tryd.prog w = .ok (.enter 57 args) w := fun args w => by simp [go_sem]
theorem wp_calls3 {P : Program} {Q : Exit → Act → World → Prop} {o : Oper} {a : Act} {w : World} {K : Act → World → Prop} (f : FuncId) (hf : ∀ (args : Array Value) (w : World), (callFunc f args).run P w = .ok (.enter f args) w) (x y z : Operand) (ts : Array TypeId) (ho : o.op = .call { callee := .value (.func f), args := #[x, y, z], argTypes := ts }) (v u t : Value) (hx : a.eval x = v) (hy : a.eval y = u) (hz : a.eval z = t) (h : Calls P f #[v, u, t] w fun e w'' => ∃ v, e = .returned v ∧ K (a.put o.dst v) w'') : o.wp P a w K Q :=
  wp_calls f #[v, u, t] (by subst hx; subst hy; subst hz; simp [execOp, ho, resolve, invoke, go_sem, hf]) h
theorem y_buildE {ops : Array Oper} {S : World → Prop} {op : Oper} {a : Act} (hw : Region.wanted op (yielded ops a.tmps) = true) (x y z u : Operand) (ho : op.op = .build 60 #[(0, x), (1, y), (2, z), (3, u)]) (e : Ev) (h0 : a.eval x = .int .i64 (e.num : Int)) (h1 : a.eval y = .int .i64 (e.tim : Int)) (h2 : a.eval z = .string e.what) (h3 : a.eval u = .string e.who) : YieldsIf Tryd.prog ops S op (.agg (eVals e).toArray) a := by
  refine .inl ⟨hw, fun w _ => ?_⟩
  unfold execOp
  simp only [ho, List.map_toArray, List.map_cons, List.map_nil, h0, h1, h2, h3, eVals]
  simp [go_sem]
noncomputable def codeTE (n : Nat) : Code := ((Tryd.f38.body.bind (regionAt n)).getD .skip)
set_option maxHeartbeats 2000000 in
theorem te_region2 {V0 W5 : World} {B g R b o cp : Nat} {c : Ch} {A : Act} {m : Nat} {p q s : ByteArray} {v : Value} (sz : A.tmps.size = 69) (e3 : A.eval (.tmp 3) = .pointer (some ⟨R, 0, none⟩)) (e5 : A.eval (.tmp 5) = .int .i64 (m : Int)) (hm4 : m ≤ 4611686018427387904) (hq : q.size ≤ 12) (hsz : s.size ≤ 30) (hT : TabAt V0) (hV0 : V0 = W5.drew) (hs0 : TE R b o cp (evKey m) p q s (fun V => ChAt V B g v c) V0) :
    (codeTE 2).wp Tryd.prog (fun x a V => x = .normal ∧ a = ((((((((((((((((((((((A.put (some 11) (.pointer (some ⟨R, 0, none⟩))).put (some 12) (.string (evKey m))).put (some 13) (.int .i64 (m : Int))).put (some 14) (.string (evKey m))).put (some 15) (.bool false)).put (some 16) (.bool false)).put (some 17) (.pointer (some ⟨R, 1, none⟩))).put (some 18) (.slice (some ⟨b, o, none⟩) 3 cp)).put (some 19) (.int .i64 3)).put (some 20) (.bool false)).put (some 21) (.bool false)).put (some 22) (.bool false)).put (some 23) (.pointer (some ⟨R, 1, none⟩))).put (some 24) (.slice (some ⟨b, o, none⟩) 3 cp)).put (some 25) (.pointer (some ⟨b, o + 1, none⟩))).put (some 26) (.string q)).put (some 27) (.pointer (some ⟨R, 1, none⟩))).put (some 28) (.slice (some ⟨b, o, none⟩) 3 cp)).put (some 29) (.pointer (some ⟨b, o + 2, none⟩))).put (some 30) (.string s)).put (some 31) (.bool false)).put (some 32) (.bool false)) ∧ TE R b o cp (evKey m) p q s (fun V => ChAt V B g v c) V ∧ Below V0.heap.size V0 V) A W5 := by
  have hm : Tryd.prog.follows .mixedOrders = true := by kernel_rfl
  unfold codeTE
  conv => arg 2; whnf
  refine wp_region_G (fun _ => false) (TE R b o cp (evKey m) p q s (fun V => ChAt V B g v c)) hm ?_
  rw [show ({ W5 with drawn := W5.drawn + 1 } : World) = V0 from hV0.symm]
  refine wpAnyG_take (i := 0) (v := .pointer (some ⟨R, 0, none⟩)) rfl (by kernel_rfl) (by kernel_rfl) (by kernel_rfl) (fun _ _ _ h => nomatch h.1) (yg_fld (by simp [Region.wanted]) (.tmp 3) rfl e3 (fun w => by simp [go_sem])) hs0 ?_
  show wpAnyG _ _ _ _ _ _ _ _ (A.put (some 11) (.pointer (some ⟨R, 0, none⟩))) _
  refine wpAnyG_take (i := 1) (v := .string (evKey m)) rfl (by kernel_rfl) (by kernel_rfl) (by kernel_rfl) (fun _ _ _ h => nomatch h.1) (yg_ld (by simp [Region.wanted]) (.tmp 11) rfl (ev_eq _ _ (by simp [sz])) (fun w hw => by have h1 := hw.k0; simp [go_sem, h1])) hs0 ?_
  show wpAnyG _ _ _ _ _ _ _ _ ((A.put (some 11) (.pointer (some ⟨R, 0, none⟩))).put (some 12) (.string (evKey m))) _
  refine wpAnyG_take (i := 2) (v := .int .i64 (m : Int)) rfl (by kernel_rfl) (by kernel_rfl) (by kernel_rfl) (fun _ _ _ h => nomatch h.1) (yg_mv (by simp [Region.wanted]) (.tmp 5) rfl ((ev_ne _ _ (by decide)).trans ((ev_ne _ _ (by decide)).trans e5))) hs0 ?_
  show wpAnyG _ _ _ _ _ _ _ _ (((A.put (some 11) (.pointer (some ⟨R, 0, none⟩))).put (some 12) (.string (evKey m))).put (some 13) (.int .i64 (m : Int))) _
  refine wpAnyG_all (rs := [3]) (by kernel_rfl) (by simp) fun i1 hm1 => ?_
  obtain rfl : i1 = 3 := by simpa using hm1
  refine wpOp_own rfl rfl fun K1 hK1 => ?_
  refine wp_calls1 45 hf_eventKey (.tmp 13) _ rfl (.int .i64 (m : Int)) (ev_eq _ _ (by simp [put_sz, sz])) ?_
  refine (eventKey_any m hm4 V0 hT).mono ?_
  rintro _ V1 ⟨rfl, hb1⟩
  have hs1 := hs0.keep hb1 (hs0.2.2.below hb1)
  refine ⟨_, rfl, hK1 _ _ ⟨.inr hs1, ?_⟩⟩
  clear hK1 K1 hm1
  show wpAnyG _ _ _ _ _ _ _ _ ((((A.put (some 11) (.pointer (some ⟨R, 0, none⟩))).put (some 12) (.string (evKey m))).put (some 13) (.int .i64 (m : Int))).put (some 14) (.string (evKey m))) _
  refine wpAnyG_take (i := 4) (v := .bool false) rfl (by kernel_rfl) (by kernel_rfl) (by kernel_rfl) (fun _ _ _ h => nomatch h.1) (yg_bin (by simp [Region.wanted]) (.tmp 12) (.tmp 14) rfl ((ev_ne _ _ (by decide)).trans ((ev_ne _ _ (by decide)).trans (ev_eq _ _ (by simp [put_sz, sz])))) (ev_eq _ _ (by simp [put_sz, sz])) (fun w => by simp [go_sem])) hs1 ?_
  show wpAnyG _ _ _ _ _ _ _ _ (((((A.put (some 11) (.pointer (some ⟨R, 0, none⟩))).put (some 12) (.string (evKey m))).put (some 13) (.int .i64 (m : Int))).put (some 14) (.string (evKey m))).put (some 15) (.bool false)) _
  refine wpAnyG_take (i := 5) (v := .bool false) rfl (by kernel_rfl) (by kernel_rfl) (by kernel_rfl) (fun _ _ _ h => nomatch h.1) (yg_mv (by simp [Region.wanted]) (.tmp 15) rfl (ev_eq _ _ (by simp [put_sz, sz]))) hs1 ?_
  show wpAnyG _ _ _ _ _ _ _ _ ((((((A.put (some 11) (.pointer (some ⟨R, 0, none⟩))).put (some 12) (.string (evKey m))).put (some 13) (.int .i64 (m : Int))).put (some 14) (.string (evKey m))).put (some 15) (.bool false)).put (some 16) (.bool false)) _
  refine wpAnyG_take (i := 6) (v := .pointer (some ⟨R, 1, none⟩)) rfl (by kernel_rfl) (by kernel_rfl) (by kernel_rfl) (fun _ _ _ h => nomatch h.1) (yg_fld (guard_f (i := 5) (d := 16) rfl rfl (by simp [put_sz, sz]) (ev_eq _ _ (by simp [put_sz, sz]))) (.tmp 3) rfl ((ev_ne _ _ (by decide)).trans ((ev_ne _ _ (by decide)).trans ((ev_ne _ _ (by decide)).trans ((ev_ne _ _ (by decide)).trans ((ev_ne _ _ (by decide)).trans ((ev_ne _ _ (by decide)).trans e3)))))) (fun w => by simp [go_sem])) hs1 ?_
  show wpAnyG _ _ _ _ _ _ _ _ (((((((A.put (some 11) (.pointer (some ⟨R, 0, none⟩))).put (some 12) (.string (evKey m))).put (some 13) (.int .i64 (m : Int))).put (some 14) (.string (evKey m))).put (some 15) (.bool false)).put (some 16) (.bool false)).put (some 17) (.pointer (some ⟨R, 1, none⟩))) _
  refine wpAnyG_take (i := 7) (v := .slice (some ⟨b, o, none⟩) 3 cp) rfl (by kernel_rfl) (by kernel_rfl) (by kernel_rfl) (fun _ _ _ h => nomatch h.1) (yg_ld (guard_f (i := 5) (d := 16) rfl rfl (by simp [put_sz, sz]) ((ev_ne _ _ (by decide)).trans (ev_eq _ _ (by simp [put_sz, sz])))) (.tmp 17) rfl (ev_eq _ _ (by simp [put_sz, sz])) (fun w hw => by have h1 := hw.k1; simp [go_sem, h1])) hs1 ?_
  show wpAnyG _ _ _ _ _ _ _ _ ((((((((A.put (some 11) (.pointer (some ⟨R, 0, none⟩))).put (some 12) (.string (evKey m))).put (some 13) (.int .i64 (m : Int))).put (some 14) (.string (evKey m))).put (some 15) (.bool false)).put (some 16) (.bool false)).put (some 17) (.pointer (some ⟨R, 1, none⟩))).put (some 18) (.slice (some ⟨b, o, none⟩) 3 cp)) _
  refine wpAnyG_take (i := 8) (v := .int .i64 3) rfl (by kernel_rfl) (by kernel_rfl) (by kernel_rfl) (fun _ _ _ h => nomatch h.1) (yg_len (guard_f (i := 5) (d := 16) rfl rfl (by simp [put_sz, sz]) ((ev_ne _ _ (by decide)).trans ((ev_ne _ _ (by decide)).trans (ev_eq _ _ (by simp [put_sz, sz]))))) 18 rfl (ev_eq _ _ (by simp [put_sz, sz])) (fun w _ => by simp [go_sem])) hs1 ?_
  show wpAnyG _ _ _ _ _ _ _ _ (((((((((A.put (some 11) (.pointer (some ⟨R, 0, none⟩))).put (some 12) (.string (evKey m))).put (some 13) (.int .i64 (m : Int))).put (some 14) (.string (evKey m))).put (some 15) (.bool false)).put (some 16) (.bool false)).put (some 17) (.pointer (some ⟨R, 1, none⟩))).put (some 18) (.slice (some ⟨b, o, none⟩) 3 cp)).put (some 19) (.int .i64 3)) _
  obtain ⟨Az1, hAz1⟩ : ∃ Az1, Az1 = (((((((((A.put (some 11) (.pointer (some ⟨R, 0, none⟩))).put (some 12) (.string (evKey m))).put (some 13) (.int .i64 (m : Int))).put (some 14) (.string (evKey m))).put (some 15) (.bool false)).put (some 16) (.bool false)).put (some 17) (.pointer (some ⟨R, 1, none⟩))).put (some 18) (.slice (some ⟨b, o, none⟩) 3 cp)).put (some 19) (.int .i64 3)) := ⟨_, rfl⟩
  have szAz1 : Az1.tmps.size = 69 := by rw [hAz1]; simp [put_sz, sz]
  have eAz13 : Az1.eval (.tmp 3) = .pointer (some ⟨R, 0, none⟩) := by rw [hAz1]; exact ((ev_ne _ _ (by decide)).trans ((ev_ne _ _ (by decide)).trans ((ev_ne _ _ (by decide)).trans ((ev_ne _ _ (by decide)).trans ((ev_ne _ _ (by decide)).trans ((ev_ne _ _ (by decide)).trans ((ev_ne _ _ (by decide)).trans ((ev_ne _ _ (by decide)).trans ((ev_ne _ _ (by decide)).trans e3)))))))))
  have eAz116 : Az1.eval (.tmp 16) = .bool false := by rw [hAz1]; exact ((ev_ne _ _ (by decide)).trans ((ev_ne _ _ (by decide)).trans ((ev_ne _ _ (by decide)).trans (ev_eq _ _ (by simp [put_sz, sz])))))
  have eAz119 : Az1.eval (.tmp 19) = .int .i64 3 := by rw [hAz1]; exact (ev_eq _ _ (by simp [put_sz, sz]))
  rw [← hAz1]
  refine wpAnyG_take (i := 9) (v := .bool false) rfl (by kernel_rfl) (by kernel_rfl) (by kernel_rfl) (fun _ _ _ h => nomatch h.1) (yg_bin (guard_f (i := 5) (d := 16) rfl rfl (by simp [szAz1]) eAz116) (.tmp 19) (.const (.int .i64 3)) rfl eAz119 rfl (fun w => by simp [go_sem])) hs1 ?_
  show wpAnyG _ _ _ _ _ _ _ _ (Az1.put (some 20) (.bool false)) _
  refine wpAnyG_take (i := 10) (v := .bool false) rfl (by kernel_rfl) (by kernel_rfl) (by kernel_rfl) (fun _ _ _ h => nomatch h.1) (yg_pickF (by simp [Region.wanted]) (.tmp 16) (.const (.bool true)) (.tmp 20) rfl ((ev_ne _ _ (by decide)).trans eAz116) (ev_eq _ _ (by simp [szAz1]))) hs1 ?_
  show wpAnyG _ _ _ _ _ _ _ _ ((Az1.put (some 20) (.bool false)).put (some 21) (.bool false)) _
  refine wpAnyG_take (i := 11) (v := .bool false) rfl (by kernel_rfl) (by kernel_rfl) (by kernel_rfl) (fun _ _ _ h => nomatch h.1) (yg_mv (by simp [Region.wanted]) (.tmp 21) rfl (ev_eq _ _ (by simp [put_sz, szAz1]))) hs1 ?_
  show wpAnyG _ _ _ _ _ _ _ _ (((Az1.put (some 20) (.bool false)).put (some 21) (.bool false)).put (some 22) (.bool false)) _
  refine wpAnyG_take (i := 12) (v := .pointer (some ⟨R, 1, none⟩)) rfl (by kernel_rfl) (by kernel_rfl) (by kernel_rfl) (fun _ _ _ h => nomatch h.1) (yg_fld (guard_f (i := 11) (d := 22) rfl rfl (by simp [put_sz, szAz1]) (ev_eq _ _ (by simp [put_sz, szAz1]))) (.tmp 3) rfl ((ev_ne _ _ (by decide)).trans ((ev_ne _ _ (by decide)).trans ((ev_ne _ _ (by decide)).trans eAz13))) (fun w => by simp [go_sem])) hs1 ?_
  show wpAnyG _ _ _ _ _ _ _ _ ((((Az1.put (some 20) (.bool false)).put (some 21) (.bool false)).put (some 22) (.bool false)).put (some 23) (.pointer (some ⟨R, 1, none⟩))) _
  refine wpAnyG_take (i := 13) (v := .slice (some ⟨b, o, none⟩) 3 cp) rfl (by kernel_rfl) (by kernel_rfl) (by kernel_rfl) (fun _ _ _ h => nomatch h.1) (yg_ld (guard_f (i := 11) (d := 22) rfl rfl (by simp [put_sz, szAz1]) ((ev_ne _ _ (by decide)).trans (ev_eq _ _ (by simp [put_sz, szAz1])))) (.tmp 23) rfl (ev_eq _ _ (by simp [put_sz, szAz1])) (fun w hw => by have h1 := hw.k1; simp [go_sem, h1])) hs1 ?_
  show wpAnyG _ _ _ _ _ _ _ _ (((((Az1.put (some 20) (.bool false)).put (some 21) (.bool false)).put (some 22) (.bool false)).put (some 23) (.pointer (some ⟨R, 1, none⟩))).put (some 24) (.slice (some ⟨b, o, none⟩) 3 cp)) _
  refine wpAnyG_take (i := 14) (v := .pointer (some ⟨b, o + 1, none⟩)) rfl (by kernel_rfl) (by kernel_rfl) (by kernel_rfl) (fun _ _ _ h => nomatch h.1) (yg_ix (guard_f (i := 11) (d := 22) rfl rfl (by simp [put_sz, szAz1]) ((ev_ne _ _ (by decide)).trans ((ev_ne _ _ (by decide)).trans (ev_eq _ _ (by simp [put_sz, szAz1]))))) (.tmp 24) (.const (.int .i64 1)) rfl (ev_eq _ _ (by simp [put_sz, szAz1])) rfl (fun w => by simp [go_sem])) hs1 ?_
  show wpAnyG _ _ _ _ _ _ _ _ ((((((Az1.put (some 20) (.bool false)).put (some 21) (.bool false)).put (some 22) (.bool false)).put (some 23) (.pointer (some ⟨R, 1, none⟩))).put (some 24) (.slice (some ⟨b, o, none⟩) 3 cp)).put (some 25) (.pointer (some ⟨b, o + 1, none⟩))) _
  refine wpAnyG_take (i := 15) (v := .string q) rfl (by kernel_rfl) (by kernel_rfl) (by kernel_rfl) (fun _ _ _ h => nomatch h.1) (yg_ld (guard_f (i := 11) (d := 22) rfl rfl (by simp [put_sz, szAz1]) ((ev_ne _ _ (by decide)).trans ((ev_ne _ _ (by decide)).trans ((ev_ne _ _ (by decide)).trans (ev_eq _ _ (by simp [put_sz, szAz1])))))) (.tmp 25) rfl (ev_eq _ _ (by simp [put_sz, szAz1])) (fun w hw => by have h1 := hw.2.1.2.1; simp [go_sem, h1])) hs1 ?_
  show wpAnyG _ _ _ _ _ _ _ _ (((((((Az1.put (some 20) (.bool false)).put (some 21) (.bool false)).put (some 22) (.bool false)).put (some 23) (.pointer (some ⟨R, 1, none⟩))).put (some 24) (.slice (some ⟨b, o, none⟩) 3 cp)).put (some 25) (.pointer (some ⟨b, o + 1, none⟩))).put (some 26) (.string q)) _
  refine wpAnyG_take (i := 16) (v := .pointer (some ⟨R, 1, none⟩)) rfl (by kernel_rfl) (by kernel_rfl) (by kernel_rfl) (fun _ _ _ h => nomatch h.1) (yg_fld (guard_f (i := 11) (d := 22) rfl rfl (by simp [put_sz, szAz1]) ((ev_ne _ _ (by decide)).trans ((ev_ne _ _ (by decide)).trans ((ev_ne _ _ (by decide)).trans ((ev_ne _ _ (by decide)).trans (ev_eq _ _ (by simp [put_sz, szAz1]))))))) (.tmp 3) rfl ((ev_ne _ _ (by decide)).trans ((ev_ne _ _ (by decide)).trans ((ev_ne _ _ (by decide)).trans ((ev_ne _ _ (by decide)).trans ((ev_ne _ _ (by decide)).trans ((ev_ne _ _ (by decide)).trans ((ev_ne _ _ (by decide)).trans eAz13))))))) (fun w => by simp [go_sem])) hs1 ?_
  show wpAnyG _ _ _ _ _ _ _ _ ((((((((Az1.put (some 20) (.bool false)).put (some 21) (.bool false)).put (some 22) (.bool false)).put (some 23) (.pointer (some ⟨R, 1, none⟩))).put (some 24) (.slice (some ⟨b, o, none⟩) 3 cp)).put (some 25) (.pointer (some ⟨b, o + 1, none⟩))).put (some 26) (.string q)).put (some 27) (.pointer (some ⟨R, 1, none⟩))) _
  refine wpAnyG_take (i := 17) (v := .slice (some ⟨b, o, none⟩) 3 cp) rfl (by kernel_rfl) (by kernel_rfl) (by kernel_rfl) (fun _ _ _ h => nomatch h.1) (yg_ld (guard_f (i := 11) (d := 22) rfl rfl (by simp [put_sz, szAz1]) ((ev_ne _ _ (by decide)).trans ((ev_ne _ _ (by decide)).trans ((ev_ne _ _ (by decide)).trans ((ev_ne _ _ (by decide)).trans ((ev_ne _ _ (by decide)).trans (ev_eq _ _ (by simp [put_sz, szAz1])))))))) (.tmp 27) rfl (ev_eq _ _ (by simp [put_sz, szAz1])) (fun w hw => by have h1 := hw.k1; simp [go_sem, h1])) hs1 ?_
  show wpAnyG _ _ _ _ _ _ _ _ (((((((((Az1.put (some 20) (.bool false)).put (some 21) (.bool false)).put (some 22) (.bool false)).put (some 23) (.pointer (some ⟨R, 1, none⟩))).put (some 24) (.slice (some ⟨b, o, none⟩) 3 cp)).put (some 25) (.pointer (some ⟨b, o + 1, none⟩))).put (some 26) (.string q)).put (some 27) (.pointer (some ⟨R, 1, none⟩))).put (some 28) (.slice (some ⟨b, o, none⟩) 3 cp)) _
  obtain ⟨Az2, hAz2⟩ : ∃ Az2, Az2 = (((((((((Az1.put (some 20) (.bool false)).put (some 21) (.bool false)).put (some 22) (.bool false)).put (some 23) (.pointer (some ⟨R, 1, none⟩))).put (some 24) (.slice (some ⟨b, o, none⟩) 3 cp)).put (some 25) (.pointer (some ⟨b, o + 1, none⟩))).put (some 26) (.string q)).put (some 27) (.pointer (some ⟨R, 1, none⟩))).put (some 28) (.slice (some ⟨b, o, none⟩) 3 cp)) := ⟨_, rfl⟩
  have szAz2 : Az2.tmps.size = 69 := by rw [hAz2]; simp [put_sz, szAz1]
  have eAz222 : Az2.eval (.tmp 22) = .bool false := by rw [hAz2]; exact ((ev_ne _ _ (by decide)).trans ((ev_ne _ _ (by decide)).trans ((ev_ne _ _ (by decide)).trans ((ev_ne _ _ (by decide)).trans ((ev_ne _ _ (by decide)).trans ((ev_ne _ _ (by decide)).trans (ev_eq _ _ (by simp [put_sz, szAz1]))))))))
  have eAz226 : Az2.eval (.tmp 26) = .string q := by rw [hAz2]; exact ((ev_ne _ _ (by decide)).trans ((ev_ne _ _ (by decide)).trans (ev_eq _ _ (by simp [put_sz, szAz1]))))
  have eAz228 : Az2.eval (.tmp 28) = .slice (some ⟨b, o, none⟩) 3 cp := by rw [hAz2]; exact (ev_eq _ _ (by simp [put_sz, szAz1]))
  rw [← hAz2]
  refine wpAnyG_take (i := 18) (v := .pointer (some ⟨b, o + 2, none⟩)) rfl (by kernel_rfl) (by kernel_rfl) (by kernel_rfl) (fun _ _ _ h => nomatch h.1) (yg_ix (guard_f (i := 11) (d := 22) rfl rfl (by simp [szAz2]) eAz222) (.tmp 28) (.const (.int .i64 2)) rfl eAz228 rfl (fun w => by simp [go_sem])) hs1 ?_
  show wpAnyG _ _ _ _ _ _ _ _ (Az2.put (some 29) (.pointer (some ⟨b, o + 2, none⟩))) _
  refine wpAnyG_take (i := 19) (v := .string s) rfl (by kernel_rfl) (by kernel_rfl) (by kernel_rfl) (fun _ _ _ h => nomatch h.1) (yg_ld (guard_f (i := 11) (d := 22) rfl rfl (by simp [put_sz, szAz2]) ((ev_ne _ _ (by decide)).trans eAz222)) (.tmp 29) rfl (ev_eq _ _ (by simp [szAz2])) (fun w hw => by have h1 := hw.2.1.2.2; simp [go_sem, h1])) hs1 ?_
  show wpAnyG _ _ _ _ _ _ _ _ ((Az2.put (some 29) (.pointer (some ⟨b, o + 2, none⟩))).put (some 30) (.string s)) _
  refine wpAnyG_all (rs := [20]) (by kernel_rfl) (by simp) fun i2 hm2 => ?_
  obtain rfl : i2 = 20 := by simpa using hm2
  refine opOwn rfl (guard_f (i := 11) (d := 22) rfl rfl (by simp [put_sz, szAz2]) ((ev_ne _ _ (by decide)).trans ((ev_ne _ _ (by decide)).trans eAz222))) fun K2 hK2 => ?_
  refine wp_calls2 59 hf_tooLong (.tmp 26) (.tmp 30) _ rfl (.string q) (.string s) ((ev_ne _ _ (by decide)).trans ((ev_ne _ _ (by decide)).trans eAz226)) (ev_eq _ _ (by simp [put_sz, szAz2])) ?_
  refine (tooLong_no q s hq hsz V1).mono ?_
  rintro _ V2 ⟨rfl, e2⟩
  subst V2
  refine ⟨_, rfl, hK2 _ _ ⟨.inr hs1, ?_⟩⟩
  clear hK2 K2 hm2
  show wpAnyG _ _ _ _ _ _ _ _ (((Az2.put (some 29) (.pointer (some ⟨b, o + 2, none⟩))).put (some 30) (.string s)).put (some 31) (.bool false)) _
  refine wpAnyG_take (i := 21) (v := .bool false) rfl (by kernel_rfl) (by kernel_rfl) (by kernel_rfl) (fun _ _ _ h => nomatch h.1) (yg_pickF (by simp [Region.wanted]) (.tmp 22) (.const (.bool true)) (.tmp 31) rfl ((ev_ne _ _ (by decide)).trans ((ev_ne _ _ (by decide)).trans ((ev_ne _ _ (by decide)).trans eAz222))) (ev_eq _ _ (by simp [put_sz, szAz2]))) hs1 ?_
  show wpAnyG _ _ _ _ _ _ _ _ ((((Az2.put (some 29) (.pointer (some ⟨b, o + 2, none⟩))).put (some 30) (.string s)).put (some 31) (.bool false)).put (some 32) (.bool false)) _
  refine wpAnyG_done (by kernel_rfl) ⟨rfl, ?_, hs1, hb1⟩ _
  show ((((Az2.put (some 29) (.pointer (some ⟨b, o + 2, none⟩))).put (some 30) (.string s)).put (some 31) (.bool false)).put (some 32) (.bool false)) = _
  rw [hAz2, hAz1]

set_option maxHeartbeats 2000000 in
theorem te_region4 {V0 W5 : World} {B g R b o cp : Nat} {c : Ch} {A : Act} {t : Nat} {key q s : ByteArray} {v : Value} (sz : A.tmps.size = 69) (e3 : A.eval (.tmp 3) = .pointer (some ⟨R, 0, none⟩)) (e0 : A.eval (.tmp 0) = .pointer (some ⟨g, 0, none⟩)) (ok : Lens c) (hfew : c.ev.length ≤ 1000) (hlo : lastT c ≤ t) (hhi : t ≤ c.la) (hla : c.la ≤ 4611686018427387904) (hV0 : V0 = W5.drew) (hs0 : TE R b o cp key (txt t) q s (fun V => ChAt V B g v c) V0) :
    (codeTE 4).wp Tryd.prog (fun x a V => x = .normal ∧ a = ((((((((((((((((A.put (some 34) (.pointer (some ⟨R, 1, none⟩))).put (some 35) (.slice (some ⟨b, o, none⟩) 3 cp)).put (some 36) (.pointer (some ⟨b, o, none⟩))).put (some 37) (.string (txt t))).put (some 38) (.pointer (some ⟨g, 0, none⟩))).put (some 40) (.pointer (some ⟨g, 0, none⟩))).put (some 41) (.pointer (some ⟨g, 0, none⟩))).put (some 42) (.pointer (some ⟨g, 99, none⟩))).put (some 43) (.int .i64 (c.la : Int))).put (some 39) (.int .i64 (lastT c : Int))).put (some 44) (.tuple #[.int .i64 (t : Int), .bool true])).put (some 33) (.tuple #[.int .i64 (t : Int), .bool true])).put (some 45) (.int .i64 (t : Int))).put (some 46) (.bool true)).put (some 6) (.int .i64 (t : Int))).put (some 7) (.bool true)) ∧ TE R b o cp key (txt t) q s (fun V => ChAt V B g v c) V ∧ Below V0.heap.size V0 V) A W5 := by
  have hm : Tryd.prog.follows .mixedOrders = true := by kernel_rfl
  unfold codeTE
  conv => arg 2; whnf
  refine wp_region_G (fun _ => false) (TE R b o cp key (txt t) q s (fun V => ChAt V B g v c)) hm ?_
  rw [show ({ W5 with drawn := W5.drawn + 1 } : World) = V0 from hV0.symm]
  refine wpAnyG_take (i := 0) (v := .pointer (some ⟨R, 1, none⟩)) rfl (by kernel_rfl) (by kernel_rfl) (by kernel_rfl) (fun _ _ _ h => nomatch h.1) (yg_fld (by simp [Region.wanted]) (.tmp 3) rfl e3 (fun w => by simp [go_sem])) hs0 ?_
  show wpAnyG _ _ _ _ _ _ _ _ (A.put (some 34) (.pointer (some ⟨R, 1, none⟩))) _
  refine wpAnyG_take (i := 1) (v := .slice (some ⟨b, o, none⟩) 3 cp) rfl (by kernel_rfl) (by kernel_rfl) (by kernel_rfl) (fun _ _ _ h => nomatch h.1) (yg_ld (by simp [Region.wanted]) (.tmp 34) rfl (ev_eq _ _ (by simp [sz])) (fun w hw => by have h1 := hw.k1; simp [go_sem, h1])) hs0 ?_
  show wpAnyG _ _ _ _ _ _ _ _ ((A.put (some 34) (.pointer (some ⟨R, 1, none⟩))).put (some 35) (.slice (some ⟨b, o, none⟩) 3 cp)) _
  refine wpAnyG_take (i := 2) (v := .pointer (some ⟨b, o, none⟩)) rfl (by kernel_rfl) (by kernel_rfl) (by kernel_rfl) (fun _ _ _ h => nomatch h.1) (yg_ix (by simp [Region.wanted]) (.tmp 35) (.const (.int .i64 0)) rfl (ev_eq _ _ (by simp [put_sz, sz])) rfl (fun w => by simp [go_sem])) hs0 ?_
  show wpAnyG _ _ _ _ _ _ _ _ (((A.put (some 34) (.pointer (some ⟨R, 1, none⟩))).put (some 35) (.slice (some ⟨b, o, none⟩) 3 cp)).put (some 36) (.pointer (some ⟨b, o, none⟩))) _
  refine wpAnyG_take (i := 3) (v := .string (txt t)) rfl (by kernel_rfl) (by kernel_rfl) (by kernel_rfl) (fun _ _ _ h => nomatch h.1) (yg_ld (by simp [Region.wanted]) (.tmp 36) rfl (ev_eq _ _ (by simp [put_sz, sz])) (fun w hw => by have h1 := hw.2.1.1; simp [go_sem, h1])) hs0 ?_
  show wpAnyG _ _ _ _ _ _ _ _ ((((A.put (some 34) (.pointer (some ⟨R, 1, none⟩))).put (some 35) (.slice (some ⟨b, o, none⟩) 3 cp)).put (some 36) (.pointer (some ⟨b, o, none⟩))).put (some 37) (.string (txt t))) _
  refine wpAnyG_take (i := 4) (v := .pointer (some ⟨g, 0, none⟩)) rfl (by kernel_rfl) (by kernel_rfl) (by kernel_rfl) (fun _ _ _ h => nomatch h.1) (yg_mv (by simp [Region.wanted]) (.tmp 0) rfl ((ev_ne _ _ (by decide)).trans ((ev_ne _ _ (by decide)).trans ((ev_ne _ _ (by decide)).trans ((ev_ne _ _ (by decide)).trans e0))))) hs0 ?_
  show wpAnyG _ _ _ _ _ _ _ _ (((((A.put (some 34) (.pointer (some ⟨R, 1, none⟩))).put (some 35) (.slice (some ⟨b, o, none⟩) 3 cp)).put (some 36) (.pointer (some ⟨b, o, none⟩))).put (some 37) (.string (txt t))).put (some 38) (.pointer (some ⟨g, 0, none⟩))) _
  refine wpAnyG_take (i := 6) (v := .pointer (some ⟨g, 0, none⟩)) rfl (by kernel_rfl) (by kernel_rfl) (by kernel_rfl) (fun _ _ _ h => nomatch h.1) (yg_mv (by simp [Region.wanted]) (.tmp 0) rfl ((ev_ne _ _ (by decide)).trans ((ev_ne _ _ (by decide)).trans ((ev_ne _ _ (by decide)).trans ((ev_ne _ _ (by decide)).trans ((ev_ne _ _ (by decide)).trans e0)))))) hs0 ?_
  show wpAnyG _ _ _ _ _ _ _ _ ((((((A.put (some 34) (.pointer (some ⟨R, 1, none⟩))).put (some 35) (.slice (some ⟨b, o, none⟩) 3 cp)).put (some 36) (.pointer (some ⟨b, o, none⟩))).put (some 37) (.string (txt t))).put (some 38) (.pointer (some ⟨g, 0, none⟩))).put (some 40) (.pointer (some ⟨g, 0, none⟩))) _
  refine wpAnyG_take (i := 7) (v := .pointer (some ⟨g, 0, none⟩)) rfl (by kernel_rfl) (by kernel_rfl) (by kernel_rfl) (fun _ _ _ h => nomatch h.1) (yg_nil (by simp [Region.wanted]) (.tmp 40) rfl (ev_eq _ _ (by simp [put_sz, sz]))) hs0 ?_
  show wpAnyG _ _ _ _ _ _ _ _ (((((((A.put (some 34) (.pointer (some ⟨R, 1, none⟩))).put (some 35) (.slice (some ⟨b, o, none⟩) 3 cp)).put (some 36) (.pointer (some ⟨b, o, none⟩))).put (some 37) (.string (txt t))).put (some 38) (.pointer (some ⟨g, 0, none⟩))).put (some 40) (.pointer (some ⟨g, 0, none⟩))).put (some 41) (.pointer (some ⟨g, 0, none⟩))) _
  refine wpAnyG_take (i := 8) (v := .pointer (some ⟨g, 99, none⟩)) rfl (by kernel_rfl) (by kernel_rfl) (by kernel_rfl) (fun _ _ _ h => nomatch h.1) (yg_fld (by simp [Region.wanted]) (.tmp 41) rfl (ev_eq _ _ (by simp [put_sz, sz])) (fun w => by simp [go_sem])) hs0 ?_
  show wpAnyG _ _ _ _ _ _ _ _ ((((((((A.put (some 34) (.pointer (some ⟨R, 1, none⟩))).put (some 35) (.slice (some ⟨b, o, none⟩) 3 cp)).put (some 36) (.pointer (some ⟨b, o, none⟩))).put (some 37) (.string (txt t))).put (some 38) (.pointer (some ⟨g, 0, none⟩))).put (some 40) (.pointer (some ⟨g, 0, none⟩))).put (some 41) (.pointer (some ⟨g, 0, none⟩))).put (some 42) (.pointer (some ⟨g, 99, none⟩))) _
  refine wpAnyG_take (i := 9) (v := .int .i64 (c.la : Int)) rfl (by kernel_rfl) (by kernel_rfl) (by kernel_rfl) (fun _ _ _ h => nomatch h.1) (yg_ld (by simp [Region.wanted]) (.tmp 42) rfl (ev_eq _ _ (by simp [put_sz, sz])) (fun w hw => by have h1 := hw.2.2.c99 ok; simp [go_sem, h1])) hs0 ?_
  show wpAnyG _ _ _ _ _ _ _ _ (((((((((A.put (some 34) (.pointer (some ⟨R, 1, none⟩))).put (some 35) (.slice (some ⟨b, o, none⟩) 3 cp)).put (some 36) (.pointer (some ⟨b, o, none⟩))).put (some 37) (.string (txt t))).put (some 38) (.pointer (some ⟨g, 0, none⟩))).put (some 40) (.pointer (some ⟨g, 0, none⟩))).put (some 41) (.pointer (some ⟨g, 0, none⟩))).put (some 42) (.pointer (some ⟨g, 99, none⟩))).put (some 43) (.int .i64 (c.la : Int))) _
  obtain ⟨Az1, hAz1⟩ : ∃ Az1, Az1 = (((((((((A.put (some 34) (.pointer (some ⟨R, 1, none⟩))).put (some 35) (.slice (some ⟨b, o, none⟩) 3 cp)).put (some 36) (.pointer (some ⟨b, o, none⟩))).put (some 37) (.string (txt t))).put (some 38) (.pointer (some ⟨g, 0, none⟩))).put (some 40) (.pointer (some ⟨g, 0, none⟩))).put (some 41) (.pointer (some ⟨g, 0, none⟩))).put (some 42) (.pointer (some ⟨g, 99, none⟩))).put (some 43) (.int .i64 (c.la : Int))) := ⟨_, rfl⟩
  have szAz1 : Az1.tmps.size = 69 := by rw [hAz1]; simp [put_sz, sz]
  have eAz137 : Az1.eval (.tmp 37) = .string (txt t) := by rw [hAz1]; exact ((ev_ne _ _ (by decide)).trans ((ev_ne _ _ (by decide)).trans ((ev_ne _ _ (by decide)).trans ((ev_ne _ _ (by decide)).trans ((ev_ne _ _ (by decide)).trans (ev_eq _ _ (by simp [put_sz, sz])))))))
  have eAz138 : Az1.eval (.tmp 38) = .pointer (some ⟨g, 0, none⟩) := by rw [hAz1]; exact ((ev_ne _ _ (by decide)).trans ((ev_ne _ _ (by decide)).trans ((ev_ne _ _ (by decide)).trans ((ev_ne _ _ (by decide)).trans (ev_eq _ _ (by simp [put_sz, sz]))))))
  have eAz143 : Az1.eval (.tmp 43) = .int .i64 (c.la : Int) := by rw [hAz1]; exact (ev_eq _ _ (by simp [put_sz, sz]))
  rw [← hAz1]
  refine wpAnyG_all (rs := [5]) (by kernel_rfl) (by simp) fun i1 hm1 => ?_
  obtain rfl : i1 = 5 := by simpa using hm1
  refine wpOp_own rfl rfl fun K1 hK1 => ?_
  refine wp_calls1 60 hf_lastAt (.tmp 38) _ rfl (.pointer (some ⟨g, 0, none⟩)) eAz138 ?_
  refine (lastAt_any hs0.2.2 ok hfew).mono ?_
  rintro _ V1 ⟨rfl, hb1⟩
  have hs1 := hs0.keep hb1 (hs0.2.2.below hb1)
  refine ⟨_, rfl, hK1 _ _ ⟨.inr hs1, ?_⟩⟩
  clear hK1 K1 hm1
  show wpAnyG _ _ _ _ _ _ _ _ (Az1.put (some 39) (.int .i64 (lastT c : Int))) _
  refine wpAnyG_all (rs := [10]) (by kernel_rfl) (by simp) fun i2 hm2 => ?_
  obtain rfl : i2 = 10 := by simpa using hm2
  refine wpOp_own rfl rfl fun K2 hK2 => ?_
  refine wp_calls3 57 hf_stNumber (.tmp 37) (.tmp 39) (.tmp 43) _ rfl (.string (txt t)) (.int .i64 (lastT c : Int)) (.int .i64 (c.la : Int)) ((ev_ne _ _ (by decide)).trans eAz137) (ev_eq _ _ (by simp [szAz1])) ((ev_ne _ _ (by decide)).trans eAz143) ?_
  refine (number_back t (lastT c) c.la hlo hhi hla V1).mono ?_
  rintro _ V2 ⟨rfl, e2⟩
  subst V2
  refine ⟨_, rfl, hK2 _ _ ⟨.inr hs1, ?_⟩⟩
  clear hK2 K2 hm2
  show wpAnyG _ _ _ _ _ _ _ _ ((Az1.put (some 39) (.int .i64 (lastT c : Int))).put (some 44) (.tuple #[.int .i64 (t : Int), .bool true])) _
  refine wpAnyG_take (i := 11) (v := .tuple #[.int .i64 (t : Int), .bool true]) rfl (by kernel_rfl) (by kernel_rfl) (by kernel_rfl) (fun _ _ _ h => nomatch h.1) (yg_mv (by simp [Region.wanted]) (.tmp 44) rfl (ev_eq _ _ (by simp [put_sz, szAz1]))) hs1 ?_
  show wpAnyG _ _ _ _ _ _ _ _ (((Az1.put (some 39) (.int .i64 (lastT c : Int))).put (some 44) (.tuple #[.int .i64 (t : Int), .bool true])).put (some 33) (.tuple #[.int .i64 (t : Int), .bool true])) _
  refine wpAnyG_take (i := 12) (v := .int .i64 (t : Int)) rfl (by kernel_rfl) (by kernel_rfl) (by kernel_rfl) (fun _ _ _ h => nomatch h.1) (yg_ext (by simp [Region.wanted]) (.tmp 33) rfl (ev_eq _ _ (by simp [put_sz, szAz1])) (fun w => by simp [go_sem])) hs1 ?_
  show wpAnyG _ _ _ _ _ _ _ _ ((((Az1.put (some 39) (.int .i64 (lastT c : Int))).put (some 44) (.tuple #[.int .i64 (t : Int), .bool true])).put (some 33) (.tuple #[.int .i64 (t : Int), .bool true])).put (some 45) (.int .i64 (t : Int))) _
  refine wpAnyG_take (i := 13) (v := .bool true) rfl (by kernel_rfl) (by kernel_rfl) (by kernel_rfl) (fun _ _ _ h => nomatch h.1) (yg_ext (by simp [Region.wanted]) (.tmp 33) rfl ((ev_ne _ _ (by decide)).trans (ev_eq _ _ (by simp [put_sz, szAz1]))) (fun w => by simp [go_sem])) hs1 ?_
  show wpAnyG _ _ _ _ _ _ _ _ (((((Az1.put (some 39) (.int .i64 (lastT c : Int))).put (some 44) (.tuple #[.int .i64 (t : Int), .bool true])).put (some 33) (.tuple #[.int .i64 (t : Int), .bool true])).put (some 45) (.int .i64 (t : Int))).put (some 46) (.bool true)) _
  refine wpAnyG_take (i := 14) (v := .int .i64 (t : Int)) rfl (by kernel_rfl) (by kernel_rfl) (by kernel_rfl) (fun _ _ _ h => nomatch h.1) (yg_as (by simp [Region.wanted]) (.tmp 45) rfl ((ev_ne _ _ (by decide)).trans (ev_eq _ _ (by simp [put_sz, szAz1])))) hs1 ?_
  show wpAnyG _ _ _ _ _ _ _ _ ((((((Az1.put (some 39) (.int .i64 (lastT c : Int))).put (some 44) (.tuple #[.int .i64 (t : Int), .bool true])).put (some 33) (.tuple #[.int .i64 (t : Int), .bool true])).put (some 45) (.int .i64 (t : Int))).put (some 46) (.bool true)).put (some 6) (.int .i64 (t : Int))) _
  refine wpAnyG_take (i := 15) (v := .bool true) rfl (by kernel_rfl) (by kernel_rfl) (by kernel_rfl) (fun _ _ _ h => nomatch h.1) (yg_as (by simp [Region.wanted]) (.tmp 46) rfl ((ev_ne _ _ (by decide)).trans (ev_eq _ _ (by simp [put_sz, szAz1])))) hs1 ?_
  show wpAnyG _ _ _ _ _ _ _ _ (((((((Az1.put (some 39) (.int .i64 (lastT c : Int))).put (some 44) (.tuple #[.int .i64 (t : Int), .bool true])).put (some 33) (.tuple #[.int .i64 (t : Int), .bool true])).put (some 45) (.int .i64 (t : Int))).put (some 46) (.bool true)).put (some 6) (.int .i64 (t : Int))).put (some 7) (.bool true)) _
  refine wpAnyG_done (by kernel_rfl) ⟨rfl, ?_, hs1, hb1⟩ _
  show (((((((Az1.put (some 39) (.int .i64 (lastT c : Int))).put (some 44) (.tuple #[.int .i64 (t : Int), .bool true])).put (some 33) (.tuple #[.int .i64 (t : Int), .bool true])).put (some 45) (.int .i64 (t : Int))).put (some 46) (.bool true)).put (some 6) (.int .i64 (t : Int))).put (some 7) (.bool true)) = _
  rw [hAz1]

set_option maxHeartbeats 2000000 in
theorem te_region6 {V0 W5 : World} {B g R b o cp : Nat} {c : Ch} {A : Act} {e : Ev} {key p : ByteArray} {a0 : Option Addr} {n0 c0 : Nat} (sz : A.tmps.size = 69) (e3 : A.eval (.tmp 3) = .pointer (some ⟨R, 0, none⟩)) (e0 : A.eval (.tmp 0) = .pointer (some ⟨g, 0, none⟩)) (e5 : A.eval (.tmp 5) = .int .i64 (e.num : Int)) (e6 : A.eval (.tmp 6) = .int .i64 (e.tim : Int)) (ok : Lens c) (hfew : c.ev.length ≤ 1000) (H0 : ChAt V0 B g (.slice a0 n0 c0) c) (hB : B ≤ V0.heap.size) (hneR : (Value.slice a0 n0 c0).ownBlock ≠ some R) (hneb : (Value.slice a0 n0 c0).ownBlock ≠ some b) (hV0 : V0 = W5.drew) (hs0 : TE R b o cp key p e.what e.who (fun V => V.heap[g]? = some (.cells (ccells c (.slice a0 n0 c0)).toArray 56 (0, 0))) V0) :
    (codeTE 6).wp Tryd.prog (fun x a V => x = .normal ∧ ∃ k cap, a = ((((((((((((((((((((A.put (some 48) (.pointer (some ⟨g, 0, none⟩))).put (some 49) (.pointer (some ⟨g, 0, none⟩))).put (some 50) (.pointer (some ⟨g, 0, none⟩))).put (some 51) (.pointer (some ⟨g, 66, none⟩))).put (some 52) (.slice a0 n0 c0)).put (some 53) (.int .i64 (e.num : Int))).put (some 54) (.int .i64 (e.tim : Int))).put (some 55) (.pointer (some ⟨R, 1, none⟩))).put (some 56) (.slice (some ⟨b, o, none⟩) 3 cp)).put (some 57) (.pointer (some ⟨b, o + 1, none⟩))).put (some 58) (.string e.what)).put (some 59) (.pointer (some ⟨R, 1, none⟩))).put (some 60) (.slice (some ⟨b, o, none⟩) 3 cp)).put (some 61) (.pointer (some ⟨b, o + 2, none⟩))).put (some 62) (.string e.who)).put (some 63) (.agg (eVals e).toArray)).put (some 64) (.slice (some ⟨V0.heap.size, 0, none⟩) 1 1)).put (some 65) (.slice (some ⟨k, 0, none⟩) (c.ev ++ [e]).length cap)).put (some 66) (.pointer (some ⟨g, 0, none⟩))).put (some 67) (.pointer (some ⟨g, 66, none⟩))) ∧ ChAt V B g (.slice (some ⟨k, 0, none⟩) (c.ev ++ [e]).length cap) { c with ev := c.ev ++ [e] } ∧ Out (CBlk g (.slice a0 n0 c0)) V0 V ∧ ((Value.slice a0 n0 c0).ownBlock = some k ∨ V0.heap.size ≤ k)) A W5 := by
  have hm : Tryd.prog.follows .mixedOrders = true := by kernel_rfl
  unfold codeTE
  conv => arg 2; whnf
  refine wp_region_G (fun i => i == 20) (TE R b o cp key p e.what e.who (fun V => V.heap[g]? = some (.cells (ccells c (.slice a0 n0 c0)).toArray 56 (0, 0)))) hm ?_
  rw [show ({ W5 with drawn := W5.drawn + 1 } : World) = V0 from hV0.symm]
  refine wpAnyG_take (i := 0) (v := .pointer (some ⟨g, 0, none⟩)) rfl (by kernel_rfl) (by kernel_rfl) (by kernel_rfl) (fun _ _ _ h => nomatch h.1) (yg_mv (by simp [Region.wanted]) (.tmp 0) rfl e0) hs0 ?_
  show wpAnyG _ _ _ _ _ _ _ _ (A.put (some 48) (.pointer (some ⟨g, 0, none⟩))) _
  refine wpAnyG_take (i := 1) (v := .pointer (some ⟨g, 0, none⟩)) rfl (by kernel_rfl) (by kernel_rfl) (by kernel_rfl) (fun _ _ _ h => nomatch h.1) (yg_mv (by simp [Region.wanted]) (.tmp 0) rfl ((ev_ne _ _ (by decide)).trans e0)) hs0 ?_
  show wpAnyG _ _ _ _ _ _ _ _ ((A.put (some 48) (.pointer (some ⟨g, 0, none⟩))).put (some 49) (.pointer (some ⟨g, 0, none⟩))) _
  refine wpAnyG_take (i := 2) (v := .pointer (some ⟨g, 0, none⟩)) rfl (by kernel_rfl) (by kernel_rfl) (by kernel_rfl) (fun _ _ _ h => nomatch h.1) (yg_nil (by simp [Region.wanted]) (.tmp 49) rfl (ev_eq _ _ (by simp [put_sz, sz]))) hs0 ?_
  show wpAnyG _ _ _ _ _ _ _ _ (((A.put (some 48) (.pointer (some ⟨g, 0, none⟩))).put (some 49) (.pointer (some ⟨g, 0, none⟩))).put (some 50) (.pointer (some ⟨g, 0, none⟩))) _
  refine wpAnyG_take (i := 3) (v := .pointer (some ⟨g, 66, none⟩)) rfl (by kernel_rfl) (by kernel_rfl) (by kernel_rfl) (fun _ _ _ h => nomatch h.1) (yg_fld (by simp [Region.wanted]) (.tmp 50) rfl (ev_eq _ _ (by simp [put_sz, sz])) (fun w => by simp [go_sem])) hs0 ?_
  show wpAnyG _ _ _ _ _ _ _ _ ((((A.put (some 48) (.pointer (some ⟨g, 0, none⟩))).put (some 49) (.pointer (some ⟨g, 0, none⟩))).put (some 50) (.pointer (some ⟨g, 0, none⟩))).put (some 51) (.pointer (some ⟨g, 66, none⟩))) _
  refine wpAnyG_take (i := 4) (v := .slice a0 n0 c0) rfl (by kernel_rfl) (by kernel_rfl) (by kernel_rfl) (fun _ _ _ h => nomatch h.1) (yg_ld (by simp [Region.wanted]) (.tmp 51) rfl (ev_eq _ _ (by simp [put_sz, sz])) (fun w hw => by have h1 := cell_66 hw.2.2 ok; simp [go_sem, h1])) hs0 ?_
  show wpAnyG _ _ _ _ _ _ _ _ (((((A.put (some 48) (.pointer (some ⟨g, 0, none⟩))).put (some 49) (.pointer (some ⟨g, 0, none⟩))).put (some 50) (.pointer (some ⟨g, 0, none⟩))).put (some 51) (.pointer (some ⟨g, 66, none⟩))).put (some 52) (.slice a0 n0 c0)) _
  refine wpAnyG_take (i := 5) (v := .int .i64 (e.num : Int)) rfl (by kernel_rfl) (by kernel_rfl) (by kernel_rfl) (fun _ _ _ h => nomatch h.1) (yg_mv (by simp [Region.wanted]) (.tmp 5) rfl ((ev_ne _ _ (by decide)).trans ((ev_ne _ _ (by decide)).trans ((ev_ne _ _ (by decide)).trans ((ev_ne _ _ (by decide)).trans ((ev_ne _ _ (by decide)).trans e5)))))) hs0 ?_
  show wpAnyG _ _ _ _ _ _ _ _ ((((((A.put (some 48) (.pointer (some ⟨g, 0, none⟩))).put (some 49) (.pointer (some ⟨g, 0, none⟩))).put (some 50) (.pointer (some ⟨g, 0, none⟩))).put (some 51) (.pointer (some ⟨g, 66, none⟩))).put (some 52) (.slice a0 n0 c0)).put (some 53) (.int .i64 (e.num : Int))) _
  refine wpAnyG_take (i := 6) (v := .int .i64 (e.tim : Int)) rfl (by kernel_rfl) (by kernel_rfl) (by kernel_rfl) (fun _ _ _ h => nomatch h.1) (yg_mv (by simp [Region.wanted]) (.tmp 6) rfl ((ev_ne _ _ (by decide)).trans ((ev_ne _ _ (by decide)).trans ((ev_ne _ _ (by decide)).trans ((ev_ne _ _ (by decide)).trans ((ev_ne _ _ (by decide)).trans ((ev_ne _ _ (by decide)).trans e6))))))) hs0 ?_
  show wpAnyG _ _ _ _ _ _ _ _ (((((((A.put (some 48) (.pointer (some ⟨g, 0, none⟩))).put (some 49) (.pointer (some ⟨g, 0, none⟩))).put (some 50) (.pointer (some ⟨g, 0, none⟩))).put (some 51) (.pointer (some ⟨g, 66, none⟩))).put (some 52) (.slice a0 n0 c0)).put (some 53) (.int .i64 (e.num : Int))).put (some 54) (.int .i64 (e.tim : Int))) _
  refine wpAnyG_take (i := 7) (v := .pointer (some ⟨R, 1, none⟩)) rfl (by kernel_rfl) (by kernel_rfl) (by kernel_rfl) (fun _ _ _ h => nomatch h.1) (yg_fld (by simp [Region.wanted]) (.tmp 3) rfl ((ev_ne _ _ (by decide)).trans ((ev_ne _ _ (by decide)).trans ((ev_ne _ _ (by decide)).trans ((ev_ne _ _ (by decide)).trans ((ev_ne _ _ (by decide)).trans ((ev_ne _ _ (by decide)).trans ((ev_ne _ _ (by decide)).trans e3))))))) (fun w => by simp [go_sem])) hs0 ?_
  show wpAnyG _ _ _ _ _ _ _ _ ((((((((A.put (some 48) (.pointer (some ⟨g, 0, none⟩))).put (some 49) (.pointer (some ⟨g, 0, none⟩))).put (some 50) (.pointer (some ⟨g, 0, none⟩))).put (some 51) (.pointer (some ⟨g, 66, none⟩))).put (some 52) (.slice a0 n0 c0)).put (some 53) (.int .i64 (e.num : Int))).put (some 54) (.int .i64 (e.tim : Int))).put (some 55) (.pointer (some ⟨R, 1, none⟩))) _
  refine wpAnyG_take (i := 8) (v := .slice (some ⟨b, o, none⟩) 3 cp) rfl (by kernel_rfl) (by kernel_rfl) (by kernel_rfl) (fun _ _ _ h => nomatch h.1) (yg_ld (by simp [Region.wanted]) (.tmp 55) rfl (ev_eq _ _ (by simp [put_sz, sz])) (fun w hw => by have h1 := hw.k1; simp [go_sem, h1])) hs0 ?_
  show wpAnyG _ _ _ _ _ _ _ _ (((((((((A.put (some 48) (.pointer (some ⟨g, 0, none⟩))).put (some 49) (.pointer (some ⟨g, 0, none⟩))).put (some 50) (.pointer (some ⟨g, 0, none⟩))).put (some 51) (.pointer (some ⟨g, 66, none⟩))).put (some 52) (.slice a0 n0 c0)).put (some 53) (.int .i64 (e.num : Int))).put (some 54) (.int .i64 (e.tim : Int))).put (some 55) (.pointer (some ⟨R, 1, none⟩))).put (some 56) (.slice (some ⟨b, o, none⟩) 3 cp)) _
  obtain ⟨Az1, hAz1⟩ : ∃ Az1, Az1 = (((((((((A.put (some 48) (.pointer (some ⟨g, 0, none⟩))).put (some 49) (.pointer (some ⟨g, 0, none⟩))).put (some 50) (.pointer (some ⟨g, 0, none⟩))).put (some 51) (.pointer (some ⟨g, 66, none⟩))).put (some 52) (.slice a0 n0 c0)).put (some 53) (.int .i64 (e.num : Int))).put (some 54) (.int .i64 (e.tim : Int))).put (some 55) (.pointer (some ⟨R, 1, none⟩))).put (some 56) (.slice (some ⟨b, o, none⟩) 3 cp)) := ⟨_, rfl⟩
  have szAz1 : Az1.tmps.size = 69 := by rw [hAz1]; simp [put_sz, sz]
  have eAz13 : Az1.eval (.tmp 3) = .pointer (some ⟨R, 0, none⟩) := by rw [hAz1]; exact ((ev_ne _ _ (by decide)).trans ((ev_ne _ _ (by decide)).trans ((ev_ne _ _ (by decide)).trans ((ev_ne _ _ (by decide)).trans ((ev_ne _ _ (by decide)).trans ((ev_ne _ _ (by decide)).trans ((ev_ne _ _ (by decide)).trans ((ev_ne _ _ (by decide)).trans ((ev_ne _ _ (by decide)).trans e3)))))))))
  have eAz148 : Az1.eval (.tmp 48) = .pointer (some ⟨g, 0, none⟩) := by rw [hAz1]; exact ((ev_ne _ _ (by decide)).trans ((ev_ne _ _ (by decide)).trans ((ev_ne _ _ (by decide)).trans ((ev_ne _ _ (by decide)).trans ((ev_ne _ _ (by decide)).trans ((ev_ne _ _ (by decide)).trans ((ev_ne _ _ (by decide)).trans ((ev_ne _ _ (by decide)).trans (ev_eq _ _ (by simp [sz]))))))))))
  have eAz152 : Az1.eval (.tmp 52) = .slice a0 n0 c0 := by rw [hAz1]; exact ((ev_ne _ _ (by decide)).trans ((ev_ne _ _ (by decide)).trans ((ev_ne _ _ (by decide)).trans ((ev_ne _ _ (by decide)).trans (ev_eq _ _ (by simp [put_sz, sz]))))))
  have eAz153 : Az1.eval (.tmp 53) = .int .i64 (e.num : Int) := by rw [hAz1]; exact ((ev_ne _ _ (by decide)).trans ((ev_ne _ _ (by decide)).trans ((ev_ne _ _ (by decide)).trans (ev_eq _ _ (by simp [put_sz, sz])))))
  have eAz154 : Az1.eval (.tmp 54) = .int .i64 (e.tim : Int) := by rw [hAz1]; exact ((ev_ne _ _ (by decide)).trans ((ev_ne _ _ (by decide)).trans (ev_eq _ _ (by simp [put_sz, sz]))))
  have eAz156 : Az1.eval (.tmp 56) = .slice (some ⟨b, o, none⟩) 3 cp := by rw [hAz1]; exact (ev_eq _ _ (by simp [put_sz, sz]))
  rw [← hAz1]
  refine wpAnyG_take (i := 9) (v := .pointer (some ⟨b, o + 1, none⟩)) rfl (by kernel_rfl) (by kernel_rfl) (by kernel_rfl) (fun _ _ _ h => nomatch h.1) (yg_ix (by simp [Region.wanted]) (.tmp 56) (.const (.int .i64 1)) rfl eAz156 rfl (fun w => by simp [go_sem])) hs0 ?_
  show wpAnyG _ _ _ _ _ _ _ _ (Az1.put (some 57) (.pointer (some ⟨b, o + 1, none⟩))) _
  refine wpAnyG_take (i := 10) (v := .string e.what) rfl (by kernel_rfl) (by kernel_rfl) (by kernel_rfl) (fun _ _ _ h => nomatch h.1) (yg_ld (by simp [Region.wanted]) (.tmp 57) rfl (ev_eq _ _ (by simp [szAz1])) (fun w hw => by have h1 := hw.2.1.2.1; simp [go_sem, h1])) hs0 ?_
  show wpAnyG _ _ _ _ _ _ _ _ ((Az1.put (some 57) (.pointer (some ⟨b, o + 1, none⟩))).put (some 58) (.string e.what)) _
  refine wpAnyG_take (i := 11) (v := .pointer (some ⟨R, 1, none⟩)) rfl (by kernel_rfl) (by kernel_rfl) (by kernel_rfl) (fun _ _ _ h => nomatch h.1) (yg_fld (by simp [Region.wanted]) (.tmp 3) rfl ((ev_ne _ _ (by decide)).trans ((ev_ne _ _ (by decide)).trans eAz13)) (fun w => by simp [go_sem])) hs0 ?_
  show wpAnyG _ _ _ _ _ _ _ _ (((Az1.put (some 57) (.pointer (some ⟨b, o + 1, none⟩))).put (some 58) (.string e.what)).put (some 59) (.pointer (some ⟨R, 1, none⟩))) _
  refine wpAnyG_take (i := 12) (v := .slice (some ⟨b, o, none⟩) 3 cp) rfl (by kernel_rfl) (by kernel_rfl) (by kernel_rfl) (fun _ _ _ h => nomatch h.1) (yg_ld (by simp [Region.wanted]) (.tmp 59) rfl (ev_eq _ _ (by simp [put_sz, szAz1])) (fun w hw => by have h1 := hw.k1; simp [go_sem, h1])) hs0 ?_
  show wpAnyG _ _ _ _ _ _ _ _ ((((Az1.put (some 57) (.pointer (some ⟨b, o + 1, none⟩))).put (some 58) (.string e.what)).put (some 59) (.pointer (some ⟨R, 1, none⟩))).put (some 60) (.slice (some ⟨b, o, none⟩) 3 cp)) _
  refine wpAnyG_take (i := 13) (v := .pointer (some ⟨b, o + 2, none⟩)) rfl (by kernel_rfl) (by kernel_rfl) (by kernel_rfl) (fun _ _ _ h => nomatch h.1) (yg_ix (by simp [Region.wanted]) (.tmp 60) (.const (.int .i64 2)) rfl (ev_eq _ _ (by simp [put_sz, szAz1])) rfl (fun w => by simp [go_sem])) hs0 ?_
  show wpAnyG _ _ _ _ _ _ _ _ (((((Az1.put (some 57) (.pointer (some ⟨b, o + 1, none⟩))).put (some 58) (.string e.what)).put (some 59) (.pointer (some ⟨R, 1, none⟩))).put (some 60) (.slice (some ⟨b, o, none⟩) 3 cp)).put (some 61) (.pointer (some ⟨b, o + 2, none⟩))) _
  refine wpAnyG_take (i := 14) (v := .string e.who) rfl (by kernel_rfl) (by kernel_rfl) (by kernel_rfl) (fun _ _ _ h => nomatch h.1) (yg_ld (by simp [Region.wanted]) (.tmp 61) rfl (ev_eq _ _ (by simp [put_sz, szAz1])) (fun w hw => by have h1 := hw.2.1.2.2; simp [go_sem, h1])) hs0 ?_
  show wpAnyG _ _ _ _ _ _ _ _ ((((((Az1.put (some 57) (.pointer (some ⟨b, o + 1, none⟩))).put (some 58) (.string e.what)).put (some 59) (.pointer (some ⟨R, 1, none⟩))).put (some 60) (.slice (some ⟨b, o, none⟩) 3 cp)).put (some 61) (.pointer (some ⟨b, o + 2, none⟩))).put (some 62) (.string e.who)) _
  refine wpAnyG_take (i := 15) (v := .agg (eVals e).toArray) rfl (by kernel_rfl) (by kernel_rfl) (by kernel_rfl) (fun _ _ _ h => nomatch h.1) (y_buildE (by simp [Region.wanted]) (.tmp 53) (.tmp 54) (.tmp 58) (.tmp 62) rfl e ((ev_ne _ _ (by decide)).trans ((ev_ne _ _ (by decide)).trans ((ev_ne _ _ (by decide)).trans ((ev_ne _ _ (by decide)).trans ((ev_ne _ _ (by decide)).trans ((ev_ne _ _ (by decide)).trans eAz153)))))) ((ev_ne _ _ (by decide)).trans ((ev_ne _ _ (by decide)).trans ((ev_ne _ _ (by decide)).trans ((ev_ne _ _ (by decide)).trans ((ev_ne _ _ (by decide)).trans ((ev_ne _ _ (by decide)).trans eAz154)))))) ((ev_ne _ _ (by decide)).trans ((ev_ne _ _ (by decide)).trans ((ev_ne _ _ (by decide)).trans ((ev_ne _ _ (by decide)).trans (ev_eq _ _ (by simp [put_sz, szAz1])))))) (ev_eq _ _ (by simp [put_sz, szAz1]))) hs0 ?_
  show wpAnyG _ _ _ _ _ _ _ _ (((((((Az1.put (some 57) (.pointer (some ⟨b, o + 1, none⟩))).put (some 58) (.string e.what)).put (some 59) (.pointer (some ⟨R, 1, none⟩))).put (some 60) (.slice (some ⟨b, o, none⟩) 3 cp)).put (some 61) (.pointer (some ⟨b, o + 2, none⟩))).put (some 62) (.string e.who)).put (some 63) (.agg (eVals e).toArray)) _
  refine wpAnyG_all (rs := [16]) (by kernel_rfl) (by simp) fun i1 hm1 => ?_
  obtain rfl : i1 = 16 := by simpa using hm1
  refine wpOp_own rfl rfl fun K1 hK1 => ?_
  refine wp_buildE (.tmp 63) rfl e (ev_eq _ _ (by simp [put_sz, szAz1])) ?_
  have b01 : Below V0.heap.size V0 (V0.alloc (.cells (eVals e).toArray 60)) := (Below.refl _ V0).alloc (Nat.le_refl _) _
  have H1 := H0.below b01
  have hs1 := hs0.keep b01 H1.obj
  refine hK1 _ _ ⟨.inr hs1, ?_⟩
  clear hK1 K1 hm1
  show wpAnyG _ _ _ _ _ _ _ _ ((((((((Az1.put (some 57) (.pointer (some ⟨b, o + 1, none⟩))).put (some 58) (.string e.what)).put (some 59) (.pointer (some ⟨R, 1, none⟩))).put (some 60) (.slice (some ⟨b, o, none⟩) 3 cp)).put (some 61) (.pointer (some ⟨b, o + 2, none⟩))).put (some 62) (.string e.who)).put (some 63) (.agg (eVals e).toArray)).put (some 64) (.slice (some ⟨V0.heap.size, 0, none⟩) 1 1)) _
  refine wpAnyG_all (rs := [17]) (by kernel_rfl) (by simp) fun i2 hm2 => ?_
  obtain rfl : i2 = 17 := by simpa using hm2
  refine wpOp_own rfl rfl fun K2 hK2 => ?_
  refine wp_appE _ (.tmp 52) (.tmp 64) rfl B (.slice a0 n0 c0) c.ev ((ev_ne _ _ (by decide)).trans ((ev_ne _ _ (by decide)).trans ((ev_ne _ _ (by decide)).trans ((ev_ne _ _ (by decide)).trans ((ev_ne _ _ (by decide)).trans ((ev_ne _ _ (by decide)).trans ((ev_ne _ _ (by decide)).trans ((ev_ne _ _ (by decide)).trans eAz152)))))))) H1.row e V0.heap.size (ev_eq _ _ (by simp [put_sz, szAz1])) (range_new V0 e) hfew (Nat.le_trans hB b01.size) ?_
  intro k cap V2 hown hgrow hk
  have o2 : V2.heap[g]? = some (.cells (ccells c (.slice a0 n0 c0)).toArray 56 (0, 0)) := (hgrow.block g H1.lt (fun x => H1.ne g x.symm rfl)).trans H1.obj
  have hs2 := hs1.grown hgrow hneR hneb o2
  refine hK2 _ _ ⟨.inr hs2, ?_⟩
  clear hK2 K2 hm2
  show wpAnyG _ _ _ _ _ _ _ _ (((((((((Az1.put (some 57) (.pointer (some ⟨b, o + 1, none⟩))).put (some 58) (.string e.what)).put (some 59) (.pointer (some ⟨R, 1, none⟩))).put (some 60) (.slice (some ⟨b, o, none⟩) 3 cp)).put (some 61) (.pointer (some ⟨b, o + 2, none⟩))).put (some 62) (.string e.who)).put (some 63) (.agg (eVals e).toArray)).put (some 64) (.slice (some ⟨V0.heap.size, 0, none⟩) 1 1)).put (some 65) (.slice (some ⟨k, 0, none⟩) (c.ev ++ [e]).length cap)) _
  obtain ⟨Az2, hAz2⟩ : ∃ Az2, Az2 = (((((((((Az1.put (some 57) (.pointer (some ⟨b, o + 1, none⟩))).put (some 58) (.string e.what)).put (some 59) (.pointer (some ⟨R, 1, none⟩))).put (some 60) (.slice (some ⟨b, o, none⟩) 3 cp)).put (some 61) (.pointer (some ⟨b, o + 2, none⟩))).put (some 62) (.string e.who)).put (some 63) (.agg (eVals e).toArray)).put (some 64) (.slice (some ⟨V0.heap.size, 0, none⟩) 1 1)).put (some 65) (.slice (some ⟨k, 0, none⟩) (c.ev ++ [e]).length cap)) := ⟨_, rfl⟩
  have szAz2 : Az2.tmps.size = 69 := by rw [hAz2]; simp [put_sz, szAz1]
  have eAz248 : Az2.eval (.tmp 48) = .pointer (some ⟨g, 0, none⟩) := by rw [hAz2]; exact ((ev_ne _ _ (by decide)).trans ((ev_ne _ _ (by decide)).trans ((ev_ne _ _ (by decide)).trans ((ev_ne _ _ (by decide)).trans ((ev_ne _ _ (by decide)).trans ((ev_ne _ _ (by decide)).trans ((ev_ne _ _ (by decide)).trans ((ev_ne _ _ (by decide)).trans ((ev_ne _ _ (by decide)).trans eAz148)))))))))
  have eAz265 : Az2.eval (.tmp 65) = .slice (some ⟨k, 0, none⟩) (c.ev ++ [e]).length cap := by rw [hAz2]; exact (ev_eq _ _ (by simp [put_sz, szAz1]))
  rw [← hAz2]
  refine wpAnyG_one (i := 18) (v := .pointer (some ⟨g, 0, none⟩)) rfl (by kernel_rfl) (yg_nil (by simp [Region.wanted]) (.tmp 48) rfl eAz248) hs2 ?_
  show wpAnyG _ _ _ _ _ _ _ _ (Az2.put (some 66) (.pointer (some ⟨g, 0, none⟩))) _
  refine wpAnyG_one (i := 19) (v := .pointer (some ⟨g, 66, none⟩)) rfl (by kernel_rfl) (yg_fld (by simp [Region.wanted]) (.tmp 66) rfl (ev_eq _ _ (by simp [szAz2])) (fun w => by simp [go_sem])) hs2 ?_
  show wpAnyG _ _ _ _ _ _ _ _ ((Az2.put (some 66) (.pointer (some ⟨g, 0, none⟩))).put (some 67) (.pointer (some ⟨g, 66, none⟩))) _
  obtain ⟨Az3, hAz3⟩ : ∃ Az3, Az3 = ((Az2.put (some 66) (.pointer (some ⟨g, 0, none⟩))).put (some 67) (.pointer (some ⟨g, 66, none⟩))) := ⟨_, rfl⟩
  have szAz3 : Az3.tmps.size = 69 := by rw [hAz3]; simp [put_sz, szAz2]
  have eAz365 : Az3.eval (.tmp 65) = .slice (some ⟨k, 0, none⟩) (c.ev ++ [e]).length cap := by rw [hAz3]; exact ((ev_ne _ _ (by decide)).trans ((ev_ne _ _ (by decide)).trans eAz265))
  have eAz367 : Az3.eval (.tmp 67) = .pointer (some ⟨g, 66, none⟩) := by rw [hAz3]; exact (ev_eq _ _ (by simp [put_sz, szAz2]))
  rw [← hAz3]
  refine wpAnyG_all (rs := [20]) (by kernel_rfl) (by simp) fun i3 hm3 => ?_
  obtain rfl : i3 = 20 := by simpa using hm3
  refine wpOp_own rfl rfl fun K3 hK3 => ?_
  refine wp_storeV (.tmp 67) (.tmp 65) rfl g 66 (some ⟨k, 0, none⟩) _ cap (.slice a0 n0 c0) eAz367 eAz365 (cell_66 o2 ok) (frozen_of_row _ _ _ _ _ o2) ?_
  have hfin := added_row H1 ok hown hgrow hk o2
  refine hK3 _ _ ⟨.inl rfl, wpAnyG_done (by kernel_rfl) ⟨rfl, k, cap, ?_, hfin.1, (Out.of_below (P := CBlk g (.slice a0 n0 c0)) b01).trans hfin.2 (fun _ _ x => x), hk.imp id (fun x => by rw [x]; exact b01.size)⟩ _⟩
  show Az3 = _
  rw [hAz3, hAz2, hAz1]

end Go.Proofs.YthnciogaibhmcaaDoor

/- takeEvent of a chain, by a contract for the right row. -/
namespace Go.Proofs.YthnciogaibhmcaaDoor
open Go.RowKit
set_option linter.unusedVariables false
set_option maxRecDepth 20000
set_option maxHeartbeats 400000 in
theorem count_len {w : World} {B g : Nat} {v : Value} {c : Ch} (h : ChAt w B g v c) (ok : Lens c) (hc : c.cnt < 1152921504606846976) :
    Calls Tryd.prog 34 #[.pointer (some ⟨g, 0, none⟩)] w fun e w' => e = .returned (.int .i64 (c.cnt : Int)) ∧ Below w.heap.size w w' := by
  obtain ⟨a, cap, rfl⟩ := h.val
  have c0 := h.c0
  have c66 := h.c66 ok
  clear h ok
  unfold Ch.cnt at hc ⊢
  generalize c.ev.length = n at *
  generalize c.bn = b at *
  go_enter Tryd.func34, Tryd.ntmps34
  go_wp2
  go_region
  all_goals go_wp2
  all_goals go_ret
  all_goals exact ⟨ret_int (by go_num), (Below.refl _ _).drew⟩
/-- what takeEvent leaves -/
def TakePost (w : World) (B g : Nat) (v : Value) (c : Ch) (e : Ev) (x : Ending) (w' : World) : Prop :=
  ∃ v', x = .returned (.bool true) ∧ ChAt w' B g v' { c with ev := c.ev ++ [e] } ∧ Out (CBlk g v) w w' ∧ Grew w v v'
set_option maxHeartbeats 4000000 in
theorem takeEvent_ok {w : World} {B g : Nat} {v : Value} {c : Ch} (h : ChAt w B g v c) (ok : Lens c) (hc : c.cnt < 1000000000000000000) (hB : B ≤ w.heap.size) (hT : Tabs w B) (e : Ev) (ad : Option Addr) (cp : Nat) (ht : Texts w ad [txt e.tim, e.what, e.who]) (hab : ∀ b o, ad = some ⟨b, o, none⟩ → ¬ CBlk g v b)
    (hnum : e.num = c.cnt + 1) (hwh : e.what.size ≤ 12) (hwo : e.who.size ≤ 30) (hlo : lastT c ≤ e.tim) (hhi : e.tim ≤ c.la) (hla : c.la ≤ 1099511627776) (hfew : c.ev.length ≤ 1000) :
    Calls Tryd.prog 38 #[.pointer (some ⟨g, 0, none⟩), .agg #[.string (evKey e.num), .slice ad 3 cp]] w (TakePost w B g v c e) := by
  obtain ⟨a0, c0, rfl⟩ := h.val
  obtain ⟨b, o, rfl, j0⟩ := ht 0 (by simp)
  obtain ⟨b1, o1, e1, j1⟩ := ht 1 (by simp)
  cases e1
  obtain ⟨b2, o2, e2, j2⟩ := ht 2 (by simp)
  cases e2
  have hnb := hab b o rfl
  obtain ⟨W0, hW0⟩ : ∃ W0, W0 = w.alloc (.cells #[.string (evKey e.num), .slice (some ⟨b, o, none⟩) 3 cp] 45) := ⟨_, rfl⟩
  have b0 : Below w.heap.size w W0 := by rw [hW0]; exact (Below.refl _ w).alloc (Nat.le_refl _) _
  have hte : TE w.heap.size b o cp (evKey e.num) (txt e.tim) e.what e.who (fun V => ChAt V B g (.slice a0 c.ev.length c0) c) W0 :=
    ⟨by rw [hW0]; exact heap_alloc_new w _, ⟨(b0.cell (World.block_lt_of_cell? _ _ j0)).trans j0, (b0.cell (World.block_lt_of_cell? _ _ j1)).trans j1, (b0.cell (World.block_lt_of_cell? _ _ j2)).trans j2⟩, h.below b0⟩
  have HC := hid (count_len hte.2.2 ok (by omega))
  have hne0 : (Value.slice a0 c.ev.length c0).ownBlock ≠ some w.heap.size := fun x => by have := (h.lts _ x).2; omega
  have hneb : (Value.slice a0 c.ev.length c0).ownBlock ≠ some b := fun x => hnb (.inr x)
  have Hne0 := hid hne0
  have Hneb := hid hneb
  have HW := hid hW0
  have Hte := hid hte
  have HB0 := hid b0
  have HT := hid hT
  have OK := hid ok
  have Hh := hid h
  have hcn : Hid ((c.cnt : Int) + 1 = (e.num : Int)) := by show _ = _; rw [hnum]; simp
  have Hnum := hid hnum
  have hc5 : c.cnt < 1000000000000000000 := hc
  clear h ok hT hte b0 hW0 j0 j1 j2 ht hab hne0 hneb hnb hnum
  obtain ⟨m, hm⟩ : ∃ m, m = c.cnt := ⟨_, rfl⟩
  have Hm := hid hm
  rw [← hm] at HC hc5 hc hcn
  clear hm
  go_enter Tryd.func38, Tryd.ntmps38
  go_wp2_with (go_at_call 34; rw [show w.alloc (.cells #[.string (evKey e.num), .slice (some ⟨b, o, none⟩) 3 cp] 45) = W0 from HW.out.symm]; refine HC.out.mono ?_; rintro x w1 ⟨rfl, hb1⟩; have Hb1 := hid hb1; clear hb1)
  obtain ⟨V0, hV0⟩ : ∃ V0, V0 = w1.drew := ⟨_, rfl⟩
  have b10 : Below w1.heap.size w1 V0 := by rw [hV0]; exact (Below.refl _ w1).drew
  have bwV : Below w.heap.size w V0 := Below.on' (Below.on' HB0.out Hb1.out) b10
  have bV : Below W0.heap.size W0 V0 := Below.on' Hb1.out b10
  refine wp_act _ fun A hA => ?_
  have sz : A.tmps.size = 69 := by rw [hA]; rfl
  have e3 : A.eval (.tmp 3) = .pointer (some ⟨w.heap.size, 0, none⟩) := by rw [hA]; rfl
  have e5 : A.eval (.tmp 5) = .int .i64 (e.num : Int) := by rw [hA, ← hcn.out]; rfl
  refine wp_split _ (te_region2 sz e3 e5 (by have := Hnum.out; have := Hm.out; omega) hwh hwo (HT.out.below hB bwV).tab hV0 (Hte.out.keep bV (Hte.out.2.2.below bV))) ?_
  rintro _ V2 ⟨rfl, hs2, b2⟩
  rw [hA]
  simp only [Act.put, List.setIfInBounds_toArray, List.set_cons_succ, List.set_cons_zero]
  have Hs2 := hid hs2
  have B2 := hid (Below.on' bwV b2)
  clear sz e3 e5 hA A hs2 b2 b10 bwV bV hV0
  go_wp2_with fail
  obtain ⟨V3, hV3⟩ : ∃ V3, V3 = V2.drew := ⟨_, rfl⟩
  have b23 : Below V2.heap.size V2 V3 := by rw [hV3]; exact (Below.refl _ V2).drew
  refine wp_act _ fun A hA => ?_
  have sz : A.tmps.size = 69 := by rw [hA]; rfl
  have e0 : A.eval (.tmp 0) = .pointer (some ⟨g, 0, none⟩) := by rw [hA]; rfl
  have e3 : A.eval (.tmp 3) = .pointer (some ⟨w.heap.size, 0, none⟩) := by rw [hA]; rfl
  refine wp_split _ (te_region4 sz e3 e0 OK.out hfew hlo hhi (by omega) hV3 (Hs2.out.keep b23 (Hs2.out.2.2.below b23))) ?_
  rintro _ V4 ⟨rfl, hs4, b4⟩
  rw [hA]
  simp only [Act.put, List.setIfInBounds_toArray, List.set_cons_succ, List.set_cons_zero]
  have Hs4 := hid hs4
  have B4 := hid (Below.on' (Below.on' B2.out b23) b4)
  clear sz e0 e3 hA A hs4 b4 b23 hV3 Hs2 B2
  go_wp2_with fail
  obtain ⟨V5, hV5⟩ : ∃ V5, V5 = V4.drew := ⟨_, rfl⟩
  have b45 : Below V4.heap.size V4 V5 := by rw [hV5]; exact (Below.refl _ V4).drew
  have bw5 : Below w.heap.size w V5 := Below.on' B4.out b45
  have H5 := Hs4.out.2.2.below b45
  refine wp_act _ fun A hA => ?_
  have sz : A.tmps.size = 69 := by rw [hA]; rfl
  have e0 : A.eval (.tmp 0) = .pointer (some ⟨g, 0, none⟩) := by rw [hA]; rfl
  have e3 : A.eval (.tmp 3) = .pointer (some ⟨w.heap.size, 0, none⟩) := by rw [hA]; rfl
  have e5 : A.eval (.tmp 5) = .int .i64 (e.num : Int) := by rw [hA, ← hcn.out]; rfl
  have e6 : A.eval (.tmp 6) = .int .i64 (e.tim : Int) := by rw [hA]; rfl
  refine wp_split _ (te_region6 (e := e) sz e3 e0 e5 e6 OK.out hfew H5 (Nat.le_trans hB bw5.size) Hne0.out Hneb.out hV5 ⟨(b45.block _ (heap_lt Hs4.out.1)).trans Hs4.out.1, (Hs4.out.keep b45 H5).2.1, H5.obj⟩) ?_
  rintro _ V6 ⟨k, cap, rfl, h6, o6, hk6⟩
  rw [hA]
  simp only [Act.put, List.setIfInBounds_toArray, List.set_cons_succ, List.set_cons_zero]
  have hgr : Hid (Grew w (.slice a0 c.ev.length c0) (.slice (some ⟨k, 0, none⟩) (c.ev ++ [e]).length cap)) := fun j hj => by
    cases hj
    exact hk6.imp id (fun x => Nat.le_trans bw5.size x)
  have H6 := hid h6
  have O6 : Hid (Out (CBlk g (.slice a0 c.ev.length c0)) w V6) := (Out.of_below bw5).trans o6 (fun _ _ x => x)
  clear sz e0 e3 e5 e6 hA A h6 o6 hk6 b45 bw5 hV5 H5
  go_wp2_with fail
  go_ret
  exact ⟨_, rfl, H6.out, O6.out, hgr.out⟩
end Go.Proofs.YthnciogaibhmcaaDoor

/- Loading a chain: state.Hash and toHash, by contracts for right rows. -/
namespace Go.Proofs.YthnciogaibhmcaaDoor
open Go.RowKit
set_option linter.unusedVariables false
set_option maxRecDepth 20000
theorem conv_str (w : World) (s : ByteArray) : ∃ cap W, (convert 9 84 (.string s)).run Tryd.prog w = .ok (.slice (some ⟨w.heap.size, 0, none⟩) s.size cap) W ∧ Bytes W (some ⟨w.heap.size, 0, none⟩) s.data.toList ∧ s.size ≤ cap ∧ Below w.heap.size w W := by
  refine ⟨_, _, run_bytes_of_string (P := Tryd.prog) w 9 84 5 s Tryd.underlying9 Tryd.underlying84 Tryd.underlying5, fun i hi => ⟨w.heap.size, 0, rfl, ?_⟩, grownCap_ge _ _ _ _, ?_⟩
  · have hi' : i < s.data.size := by simpa using hi
    have h := bytesRow_at s (grownCap w s.size 0 5) i hi'
    have hh := heap_alloc_last w.drew (.cells (bytesRow s (grownCap w s.size 0 5)) 5 ((bytesRow s (grownCap w s.size 0 5)).size, (bytesRow s (grownCap w s.size 0 5)).size + 1))
    rw [Nat.zero_add]
    have hh' : (w.drew.alloc (.cells (bytesRow s (grownCap w s.size 0 5)) 5 ((bytesRow s (grownCap w s.size 0 5)).size, (bytesRow s (grownCap w s.size 0 5)).size + 1))).heap[w.heap.size]? = some (.cells (bytesRow s (grownCap w s.size 0 5)) 5 ((bytesRow s (grownCap w s.size 0 5)).size, (bytesRow s (grownCap w s.size 0 5)).size + 1)) := hh
    unfold World.cell?
    rw [hh']
    exact h.trans (by simp)
  · exact (Below.refl _ w).drew.alloc (Nat.le_refl _) _

set_option maxHeartbeats 1000000 in
theorem hashOf_ok (w : World) (h : List UInt8) (hl : h.length = 32) :
    Calls Tryd.prog 74 #[.string (mkB h)] w fun e w' => e = .returned (.tuple #[.agg (bvs h), .bool true]) ∧ Below w.heap.size w w' := by
  obtain ⟨Z, hZ⟩ : ∃ Z, Z = bvs (List.replicate 32 0) := ⟨_, rfl⟩
  have zh := (zero_of_info zero_hash).1
  rw [← hZ] at zh
  have hz : Hid (HV Z zero32) := by
    show HV _ _
    rw [hZ]; exact hv_zero
  have zh := hid zh
  have hsz : (mkB h).size = 32 := by show h.toArray.size = 32; simpa using hl
  have b0 : Below w.heap.size w (w.alloc (.cells Z 49)) := (Below.refl _ w).alloc (Nat.le_refl _) _
  have r0 : (w.alloc (.cells Z 49)).heap[w.heap.size]? = some (.cells Z 49 (0, 0)) := heap_alloc_new w _
  obtain ⟨cp, W1, hc1, hB1, hcp, hb1⟩ := conv_str (w.alloc (.cells Z 49)) (mkB h)
  rw [hsz] at hc1 hcp
  have hrange : W1.rangeAt (w.alloc (.cells Z 49)).heap.size 0 (cellsOf h) := fun j u hj => by
    have hj' : j < h.length := by
      have := (List.getElem?_eq_some_iff.1 hj).1
      simpa [cellsOf_length] using this
    obtain ⟨bb, oo, e, hcl⟩ := hB1 j hj'
    cases e
    rw [hcl]
    rw [cellsOf_get h j hj'] at hj
    rw [← hj]
    rfl
  have R1 := hid ((hb1.block _ (heap_lt r0)).trans r0)
  have B1 := hid (Below.on' b0 hb1)
  rw [show (w.alloc (.cells Z 49)).heap.size = w.heap.size + 1 by simp] at hrange
  have Hr := hid hrange
  have sh := hid (size_hashs h hl)
  have sl := hid (size_hashl h hl)
  have one := hid (bvs_one h)
  have bv : Hid ((cellsOf h).toArray = bvs h) := rfl
  have zs : Hid (Z.size = (bvs h).size) := hz.out.size.trans (HV.size (l := h) ⟨rfl, hl⟩).symm
  generalize mkB h = t at *
  generalize cellsOf h = Lc at *
  generalize bvs h = O at *
  clear hZ hB1 hb1 b0 r0 hrange
  have hap : ∀ (a : Option Addr) (W : World), (Instr.arrayAt 49 (.slice a 32 cp)).run Tryd.prog W = .ok (.pointer a) W := fun a W => run_arrayAt W 49 5 32 a 32 cp Tryd.underlying49 (Nat.le_refl _)
  go_enter Tryd.func74, Tryd.ntmps74
  go_wp2_with (first
    | (with_reducible show Go.wpList _ _ _ _ _ _; refine wpList_alloc_row rfl 49 rfl Z zh.out ?_)
    | (with_reducible show Go.wpList _ _ _ _ _ _; refine wpList_load_mid rfl 49 _ rfl (w.heap.size + 1) 0 rfl Lc _ Hr.out Tryd.underlying49 rfl sl.out ?_; rw [bv.out])
    | (with_reducible show Go.wpList _ _ _ _ _ _; refine wpList_store_row rfl 49 _ _ rfl w.heap.size O rfl rfl 49 Z R1.out sh.out zs.out one.out ?_))
  refine bodyPost_ret (results_row_tmp rfl _ _ w.heap.size 49 O (0, 0) _ rfl (setRow_heap _ _ _ _ _ _ R1.out) Tryd.underlying49 rfl sh.out) rfl ?_
  exact ⟨rfl, B1.out.setRow (Nat.le_refl _) _⟩
end Go.Proofs.YthnciogaibhmcaaDoor

/- Loading a chain: toHash, by a contract for right rows. -/
namespace Go.Proofs.YthnciogaibhmcaaDoor
open Go.RowKit
set_option linter.unusedVariables false
set_option maxRecDepth 20000
set_option maxHeartbeats 1000000 in
theorem toHash_ok (w : World) (key : ByteArray) (hks : key.size ≤ 1000) (ad : Option Addr) (cp : Nat) (h : List UInt8) (hl : h.length = 32) (ht : Texts w ad [mkB h]) :
    Calls Tryd.prog 58 #[.agg #[.string key, .slice ad 1 cp], .string key] w fun e w' => e = .returned (.tuple #[.agg (bvs h), .bool true]) ∧ Below w.heap.size w w' := by
  obtain ⟨Z, hZ⟩ : ∃ Z, Z = bvs (List.replicate 32 0) := ⟨_, rfl⟩
  have zh := (zero_of_info zero_hash).1
  rw [← hZ] at zh
  have hz : Hid (HV Z zero32) := by
    show HV _ _
    rw [hZ]; exact hv_zero
  have zh := hid zh
  obtain ⟨b, o, rfl, j0⟩ := ht 0 (by simp)
  have b0 : Below w.heap.size w ((w.alloc (.cells #[.string key, .slice (some ⟨b, o, none⟩) 1 cp] 45)).alloc (.cells Z 49)) := ((Below.refl _ w).alloc (Nat.le_refl _) _).alloc (by simp) _
  have k0 : ((w.alloc (.cells #[.string key, .slice (some ⟨b, o, none⟩) 1 cp] 45)).alloc (.cells Z 49)).cell? ⟨b, o, none⟩ = some (.string (mkB h)) := (b0.cell (p := ⟨b, o, none⟩) (World.block_lt_of_cell? _ _ j0)).trans j0
  have r0 : ((w.alloc (.cells #[.string key, .slice (some ⟨b, o, none⟩) 1 cp] 45)).alloc (.cells Z 49)).heap[w.heap.size + 1]? = some (.cells Z 49 (0, 0)) := heap_alloc2_new w _ _
  have m0 := cell_of_row _ _ 0 _ _ _ (heap_alloc2_old w (.cells #[.string key, .slice (some ⟨b, o, none⟩) 1 cp] 45) (.cells Z 49))
  have m1 := cell_of_row _ _ 1 _ _ _ (heap_alloc2_old w (.cells #[.string key, .slice (some ⟨b, o, none⟩) 1 cp] 45) (.cells Z 49))
  have C := hid (fun W => hashOf_ok W h hl)
  have R0 := hid r0
  have B0 := hid b0
  have sh := hid (size_hashs h hl)
  have one := hid (bvs_one h)
  have zs : Hid (Z.size = (bvs h).size) := hz.out.size.trans (HV.size (l := h) ⟨rfl, hl⟩).symm
  generalize mkB h = t at *
  generalize bvs h = O at *
  clear hZ r0 b0 j0 ht
  go_enter Tryd.func58, Tryd.ntmps58
  go_wp2_with (first
    | (with_reducible show Go.wpList _ _ _ _ _ _; refine wpList_alloc_row rfl 49 rfl Z zh.out ?_)
    | (go_at_call 74; refine (C.out _).mono ?_; rintro e w1 ⟨rfl, hb1⟩; have R1 := hid ((hb1.block _ (heap_lt R0.out)).trans R0.out); have B1 := hid (Below.on' B0.out hb1); clear hb1)
    | (with_reducible show Go.wpList _ _ _ _ _ _; refine wpList_store_row rfl 49 (.tmp 4) (.tmp 22) rfl (w.heap.size + 1) O rfl rfl 49 Z R1.out sh.out zs.out one.out ?_))
  refine bodyPost_ret (results_row_tmp rfl _ _ (w.heap.size + 1) 49 O (0, 0) _ rfl (setRow_heap _ _ _ _ _ _ R1.out) Tryd.underlying49 rfl sh.out) rfl ?_
  exact ⟨rfl, B1.out.setRow (by omega) _⟩
end Go.Proofs.YthnciogaibhmcaaDoor

/- takeHashes' stores, over a frame that is a letter. -/
namespace Go.Proofs.YthnciogaibhmcaaDoor
open Go.RowKit
set_option linter.unusedVariables false
set_option maxRecDepth 20000
section
variable {w : World} {B g : Nat} {v : Value} {c : Ch}
theorem ChAt.setAh (h : ChAt w B g v c) (ok : Lens c) (l : List UInt8) (hl : l.length = 32) : ChAt (w.setCells g 34 (cellsOf l)) B g v { c with ah := l } := by
  refine ⟨?_, h.row_set _ _, h.bg⟩
  rw [heap_setCells_same g _ (cellsOf l) 34 w _ h.obj (by rw [ccells_length ok, cellsOf_length, hl]; omega)]
  have e : ∀ d : Ch, ccells d v = (lnkC d.bn d.bh ++ [.int .i64 (d.an : Int)]) ++ (cellsOf d.ah ++ (v :: (cellsOf d.hd ++ [.int .i64 (d.la : Int)]))) := fun d => by simp [ccells, lnkC]
  rw [e, e, splice_mid _ _ _ _ (by simp [cellsOf, hl, ok.lan]) 34 (by simp [lnkC_length, ok.lb])]
theorem ChAt.setBh (h : ChAt w B g v c) (ok : Lens c) (l : List UInt8) (hl : l.length = 32) : ChAt (w.setCells g 1 (cellsOf l)) B g v { c with bh := l } := by
  refine ⟨?_, h.row_set _ _, h.bg⟩
  rw [heap_setCells_same g _ (cellsOf l) 1 w _ h.obj (by rw [ccells_length ok, cellsOf_length, hl]; omega)]
  have e : ∀ d : Ch, ccells d v = [.int .i64 (d.bn : Int)] ++ (cellsOf d.bh ++ (lnkC d.an d.ah ++ (v :: (cellsOf d.hd ++ [.int .i64 (d.la : Int)])))) := fun d => by simp [ccells, lnkC]
  rw [e, e, splice_mid _ _ _ _ (by simp [cellsOf, hl, ok.lb]) 1 rfl]
end
def Three (x5 x7 x9 : Nat) (la lb lh : List UInt8) (V : World) : Prop := V.heap[x5]? = some (.cells (cellsOf la).toArray 49 (0, 0)) ∧ V.heap[x7]? = some (.cells (cellsOf lb).toArray 49 (0, 0)) ∧ V.heap[x9]? = some (.cells (cellsOf lh).toArray 49 (0, 0))
theorem set3 {x5 x7 x9 g o : Nat} {la lb lh l : List UInt8} {V : World} (h : Three x5 x7 x9 la lb lh V) (hne : x5 ≠ g ∧ x7 ≠ g ∧ x9 ≠ g) : Three x5 x7 x9 la lb lh (V.setCells g o (cellsOf l)) :=
  ⟨(other_setCells g x5 hne.1 _ _ _).trans h.1, (other_setCells g x7 hne.2.1 _ _ _).trans h.2.1, (other_setCells g x9 hne.2.2 _ _ _).trans h.2.2⟩
noncomputable def codeTH : Code := ((Tryd.f37.body.bind (regionAt 4)).getD .skip)
set_option maxHeartbeats 4000000 in
theorem takeHashes_region {V0 W5 : World} {B g x5 x7 x9 : Nat} {v : Value} {c : Ch} {la lb lh : List UInt8} {A : Act} (sz : A.tmps.size = 53) (e0 : A.eval (.tmp 0) = .pointer (some ⟨g, 0, none⟩)) (e5 : A.eval (.tmp 5) = .pointer (some ⟨x5, 0, none⟩)) (e7 : A.eval (.tmp 7) = .pointer (some ⟨x7, 0, none⟩)) (e9 : A.eval (.tmp 9) = .pointer (some ⟨x9, 0, none⟩))
    (hV0 : V0 = W5.drew) (H0 : ChAt V0 B g v c) (ok : Lens c) (hla : la.length = 32) (hlb : lb.length = 32) (hlh : lh.length = 32) (hs0 : Three x5 x7 x9 la lb lh V0) (hne : x5 ≠ g ∧ x7 ≠ g ∧ x9 ≠ g) :
    codeTH.wp Tryd.prog (fun x a V => x = .normal ∧ a = ((((((((((((((A.put (some 32) (.pointer (some ⟨g, 0, none⟩))).put (some 33) (.pointer (some ⟨g, 0, none⟩))).put (some 34) (.pointer (some ⟨g, 0, none⟩))).put (some 35) (.agg (bvs la))).put (some 36) (.agg (bvs lb))).put (some 37) (.agg (bvs lh))).put (some 38) (.pointer (some ⟨g, 0, none⟩))).put (some 39) (.pointer (some ⟨g, 33, none⟩))).put (some 40) (.pointer (some ⟨g, 34, none⟩))).put (some 41) (.pointer (some ⟨g, 0, none⟩))).put (some 42) (.pointer (some ⟨g, 0, none⟩))).put (some 43) (.pointer (some ⟨g, 1, none⟩))).put (some 44) (.pointer (some ⟨g, 0, none⟩))).put (some 45) (.pointer (some ⟨g, 67, none⟩))) ∧ ChAt V B g v { c with ah := la, bh := lb, hd := lh } ∧ Out (fun k => k = g) V0 V) A W5 := by
  have hm : Tryd.prog.follows .mixedOrders = true := by kernel_rfl
  unfold codeTH
  conv => arg 2; whnf
  refine wp_region_held (S := Three x5 x7 x9 la lb lh) hm ?_
  rw [show ({ W5 with drawn := W5.drawn + 1 } : World) = V0 from hV0.symm]
  refine wpAnyH_take (i := 0) (v := .pointer (some ⟨g, 0, none⟩)) rfl (by kernel_rfl) (by kernel_rfl) (by kernel_rfl) (fun _ _ _ h => nomatch h.1) (yields_move (by simp [Region.wanted]) (.tmp 0) rfl _ e0) hs0 ?_
  show wpAnyH _ _ _ _ _ _ _ (A.put (some 32) (.pointer (some ⟨g, 0, none⟩))) _
  refine wpAnyH_take (i := 1) (v := .pointer (some ⟨g, 0, none⟩)) rfl (by kernel_rfl) (by kernel_rfl) (by kernel_rfl) (fun _ _ _ h => nomatch h.1) (yields_move (by simp [Region.wanted]) (.tmp 0) rfl _ ((ev_ne _ _ (by decide)).trans e0)) hs0 ?_
  show wpAnyH _ _ _ _ _ _ _ ((A.put (some 32) (.pointer (some ⟨g, 0, none⟩))).put (some 33) (.pointer (some ⟨g, 0, none⟩))) _
  refine wpAnyH_take (i := 2) (v := .pointer (some ⟨g, 0, none⟩)) rfl (by kernel_rfl) (by kernel_rfl) (by kernel_rfl) (fun _ _ _ h => nomatch h.1) (yields_move (by simp [Region.wanted]) (.tmp 0) rfl _ ((ev_ne _ _ (by decide)).trans ((ev_ne _ _ (by decide)).trans e0))) hs0 ?_
  show wpAnyH _ _ _ _ _ _ _ (((A.put (some 32) (.pointer (some ⟨g, 0, none⟩))).put (some 33) (.pointer (some ⟨g, 0, none⟩))).put (some 34) (.pointer (some ⟨g, 0, none⟩))) _
  refine wpAnyH_take (i := 3) (v := .agg (bvs la)) rfl (by kernel_rfl) (by kernel_rfl) (by kernel_rfl) (fun _ _ _ h => nomatch h.1) (y_loadH (by simp [Region.wanted]) (.tmp 5) rfl x5 0 la hla ((ev_ne _ _ (by decide)).trans ((ev_ne _ _ (by decide)).trans ((ev_ne _ _ (by decide)).trans e5))) (fun V hV => range_whole hV.1)) hs0 ?_
  show wpAnyH _ _ _ _ _ _ _ ((((A.put (some 32) (.pointer (some ⟨g, 0, none⟩))).put (some 33) (.pointer (some ⟨g, 0, none⟩))).put (some 34) (.pointer (some ⟨g, 0, none⟩))).put (some 35) (.agg (bvs la))) _
  refine wpAnyH_take (i := 4) (v := .agg (bvs lb)) rfl (by kernel_rfl) (by kernel_rfl) (by kernel_rfl) (fun _ _ _ h => nomatch h.1) (y_loadH (by simp [Region.wanted]) (.tmp 7) rfl x7 0 lb hlb ((ev_ne _ _ (by decide)).trans ((ev_ne _ _ (by decide)).trans ((ev_ne _ _ (by decide)).trans ((ev_ne _ _ (by decide)).trans e7)))) (fun V hV => range_whole hV.2.1)) hs0 ?_
  show wpAnyH _ _ _ _ _ _ _ (((((A.put (some 32) (.pointer (some ⟨g, 0, none⟩))).put (some 33) (.pointer (some ⟨g, 0, none⟩))).put (some 34) (.pointer (some ⟨g, 0, none⟩))).put (some 35) (.agg (bvs la))).put (some 36) (.agg (bvs lb))) _
  refine wpAnyH_take (i := 5) (v := .agg (bvs lh)) rfl (by kernel_rfl) (by kernel_rfl) (by kernel_rfl) (fun _ _ _ h => nomatch h.1) (y_loadH (by simp [Region.wanted]) (.tmp 9) rfl x9 0 lh hlh ((ev_ne _ _ (by decide)).trans ((ev_ne _ _ (by decide)).trans ((ev_ne _ _ (by decide)).trans ((ev_ne _ _ (by decide)).trans ((ev_ne _ _ (by decide)).trans e9))))) (fun V hV => range_whole hV.2.2)) hs0 ?_
  show wpAnyH _ _ _ _ _ _ _ ((((((A.put (some 32) (.pointer (some ⟨g, 0, none⟩))).put (some 33) (.pointer (some ⟨g, 0, none⟩))).put (some 34) (.pointer (some ⟨g, 0, none⟩))).put (some 35) (.agg (bvs la))).put (some 36) (.agg (bvs lb))).put (some 37) (.agg (bvs lh))) _
  obtain ⟨A2, hA2⟩ : ∃ A2, A2 = ((((((A.put (some 32) (.pointer (some ⟨g, 0, none⟩))).put (some 33) (.pointer (some ⟨g, 0, none⟩))).put (some 34) (.pointer (some ⟨g, 0, none⟩))).put (some 35) (.agg (bvs la))).put (some 36) (.agg (bvs lb))).put (some 37) (.agg (bvs lh))) := ⟨_, rfl⟩
  have szA2 : A2.tmps.size = 53 := by rw [hA2]; simp [put_sz, sz]
  have eA232 : A2.eval (.tmp 32) = .pointer (some ⟨g, 0, none⟩) := by rw [hA2]; exact ((ev_ne _ _ (by decide)).trans ((ev_ne _ _ (by decide)).trans ((ev_ne _ _ (by decide)).trans ((ev_ne _ _ (by decide)).trans ((ev_ne _ _ (by decide)).trans (ev_eq _ _ (by simp [sz])))))))
  have eA233 : A2.eval (.tmp 33) = .pointer (some ⟨g, 0, none⟩) := by rw [hA2]; exact ((ev_ne _ _ (by decide)).trans ((ev_ne _ _ (by decide)).trans ((ev_ne _ _ (by decide)).trans ((ev_ne _ _ (by decide)).trans (ev_eq _ _ (by simp [put_sz, sz]))))))
  have eA234 : A2.eval (.tmp 34) = .pointer (some ⟨g, 0, none⟩) := by rw [hA2]; exact ((ev_ne _ _ (by decide)).trans ((ev_ne _ _ (by decide)).trans ((ev_ne _ _ (by decide)).trans (ev_eq _ _ (by simp [put_sz, sz])))))
  have eA235 : A2.eval (.tmp 35) = .agg (bvs la) := by rw [hA2]; exact ((ev_ne _ _ (by decide)).trans ((ev_ne _ _ (by decide)).trans (ev_eq _ _ (by simp [put_sz, sz]))))
  have eA236 : A2.eval (.tmp 36) = .agg (bvs lb) := by rw [hA2]; exact ((ev_ne _ _ (by decide)).trans (ev_eq _ _ (by simp [put_sz, sz])))
  have eA237 : A2.eval (.tmp 37) = .agg (bvs lh) := by rw [hA2]; exact (ev_eq _ _ (by simp [put_sz, sz]))
  rw [← hA2]
  refine wpAnyH_take (i := 6) (v := .pointer (some ⟨g, 0, none⟩)) rfl (by kernel_rfl) (by kernel_rfl) (by kernel_rfl) (fun _ _ _ h => nomatch h.1) (y_nil (by simp [Region.wanted]) (.tmp 32) rfl _ eA232) hs0 ?_
  show wpAnyH _ _ _ _ _ _ _ (A2.put (some 38) (.pointer (some ⟨g, 0, none⟩))) _
  refine wpAnyH_take (i := 7) (v := .pointer (some ⟨g, 33, none⟩)) rfl (by kernel_rfl) (by kernel_rfl) (by kernel_rfl) (fun _ _ _ h => nomatch h.1) (y_chain1 (by simp [Region.wanted]) (.tmp 38) rfl g (ev_eq _ _ (by simp [szA2]))) hs0 ?_
  show wpAnyH _ _ _ _ _ _ _ ((A2.put (some 38) (.pointer (some ⟨g, 0, none⟩))).put (some 39) (.pointer (some ⟨g, 33, none⟩))) _
  refine wpAnyH_take (i := 8) (v := .pointer (some ⟨g, 34, none⟩)) rfl (by kernel_rfl) (by kernel_rfl) (by kernel_rfl) (fun _ _ _ h => nomatch h.1) (y_link1 (by simp [Region.wanted]) (.tmp 39) rfl g 33 (ev_eq _ _ (by simp [put_sz, szA2]))) hs0 ?_
  show wpAnyH _ _ _ _ _ _ _ (((A2.put (some 38) (.pointer (some ⟨g, 0, none⟩))).put (some 39) (.pointer (some ⟨g, 33, none⟩))).put (some 40) (.pointer (some ⟨g, 34, none⟩))) _
  obtain ⟨S1, hS1⟩ : ∃ S1, S1 = (((A2.put (some 38) (.pointer (some ⟨g, 0, none⟩))).put (some 39) (.pointer (some ⟨g, 33, none⟩))).put (some 40) (.pointer (some ⟨g, 34, none⟩))) := ⟨_, rfl⟩
  have szS1 : S1.tmps.size = 53 := by rw [hS1]; simp [put_sz, szA2]
  have eS140 : S1.eval (.tmp 40) = .pointer (some ⟨g, 34, none⟩) := by rw [hS1]; exact (ev_eq _ _ (by simp [put_sz, szA2]))
  have eS135 : S1.eval (.tmp 35) = .agg (bvs la) := by rw [hS1]; exact ((ev_ne _ _ (by decide)).trans ((ev_ne _ _ (by decide)).trans ((ev_ne _ _ (by decide)).trans eA235)))
  have eS133 : S1.eval (.tmp 33) = .pointer (some ⟨g, 0, none⟩) := by rw [hS1]; exact ((ev_ne _ _ (by decide)).trans ((ev_ne _ _ (by decide)).trans ((ev_ne _ _ (by decide)).trans eA233)))
  have eS134 : S1.eval (.tmp 34) = .pointer (some ⟨g, 0, none⟩) := by rw [hS1]; exact ((ev_ne _ _ (by decide)).trans ((ev_ne _ _ (by decide)).trans ((ev_ne _ _ (by decide)).trans eA234)))
  have eS136 : S1.eval (.tmp 36) = .agg (bvs lb) := by rw [hS1]; exact ((ev_ne _ _ (by decide)).trans ((ev_ne _ _ (by decide)).trans ((ev_ne _ _ (by decide)).trans eA236)))
  have eS137 : S1.eval (.tmp 37) = .agg (bvs lh) := by rw [hS1]; exact ((ev_ne _ _ (by decide)).trans ((ev_ne _ _ (by decide)).trans ((ev_ne _ _ (by decide)).trans eA237)))
  rw [← hS1]
  refine wpAnyH_all (rs := [9]) (by kernel_rfl) (by simp) fun i1 hm1 => ?_
  obtain rfl : i1 = 9 := by simpa using hm1
  refine wpOp_own rfl rfl fun K1 hK1 => ?_
  refine wp_store_mid 49 (.tmp 40) (.tmp 35) rfl g 34 (bvs la) eS140 eS135 (by rw [bvs_size, hla]; exact H0.there ok 34 32 (by omega)) (by rw [bvs_size, hla]; exact size_hash) (bvs_one _) ?_
  rw [show (bvs la).toList = cellsOf la from rfl]
  have H1 := H0.setAh ok la hla
  have hs1 := set3 (g := g) (o := 34) (l := la) hs0 hne
  refine hK1 _ _ ⟨hs1, ?_⟩
  clear hK1 K1 hm1
  show wpAnyH _ _ _ _ _ _ _ S1 _
  refine wpAnyH_take (i := 10) (v := .pointer (some ⟨g, 0, none⟩)) rfl (by kernel_rfl) (by kernel_rfl) (by kernel_rfl) (fun _ _ _ h => nomatch h.1) (y_nil (by simp [Region.wanted]) (.tmp 33) rfl _ eS133) hs1 ?_
  show wpAnyH _ _ _ _ _ _ _ (S1.put (some 41) (.pointer (some ⟨g, 0, none⟩))) _
  refine wpAnyH_take (i := 11) (v := .pointer (some ⟨g, 0, none⟩)) rfl (by kernel_rfl) (by kernel_rfl) (by kernel_rfl) (fun _ _ _ h => nomatch h.1) (y_chain0 (by simp [Region.wanted]) (.tmp 41) rfl g (ev_eq _ _ (by simp [szS1]))) hs1 ?_
  show wpAnyH _ _ _ _ _ _ _ ((S1.put (some 41) (.pointer (some ⟨g, 0, none⟩))).put (some 42) (.pointer (some ⟨g, 0, none⟩))) _
  refine wpAnyH_take (i := 12) (v := .pointer (some ⟨g, 1, none⟩)) rfl (by kernel_rfl) (by kernel_rfl) (by kernel_rfl) (fun _ _ _ h => nomatch h.1) (y_link1 (by simp [Region.wanted]) (.tmp 42) rfl g 0 (ev_eq _ _ (by simp [put_sz, szS1]))) hs1 ?_
  show wpAnyH _ _ _ _ _ _ _ (((S1.put (some 41) (.pointer (some ⟨g, 0, none⟩))).put (some 42) (.pointer (some ⟨g, 0, none⟩))).put (some 43) (.pointer (some ⟨g, 1, none⟩))) _
  obtain ⟨S2, hS2⟩ : ∃ S2, S2 = (((S1.put (some 41) (.pointer (some ⟨g, 0, none⟩))).put (some 42) (.pointer (some ⟨g, 0, none⟩))).put (some 43) (.pointer (some ⟨g, 1, none⟩))) := ⟨_, rfl⟩
  have szS2 : S2.tmps.size = 53 := by rw [hS2]; simp [put_sz, szS1]
  have eS243 : S2.eval (.tmp 43) = .pointer (some ⟨g, 1, none⟩) := by rw [hS2]; exact (ev_eq _ _ (by simp [put_sz, szS1]))
  have eS236 : S2.eval (.tmp 36) = .agg (bvs lb) := by rw [hS2]; exact ((ev_ne _ _ (by decide)).trans ((ev_ne _ _ (by decide)).trans ((ev_ne _ _ (by decide)).trans eS136)))
  have eS234 : S2.eval (.tmp 34) = .pointer (some ⟨g, 0, none⟩) := by rw [hS2]; exact ((ev_ne _ _ (by decide)).trans ((ev_ne _ _ (by decide)).trans ((ev_ne _ _ (by decide)).trans eS134)))
  have eS237 : S2.eval (.tmp 37) = .agg (bvs lh) := by rw [hS2]; exact ((ev_ne _ _ (by decide)).trans ((ev_ne _ _ (by decide)).trans ((ev_ne _ _ (by decide)).trans eS137)))
  rw [← hS2]
  refine wpAnyH_all (rs := [13]) (by kernel_rfl) (by simp) fun i2 hm2 => ?_
  obtain rfl : i2 = 13 := by simpa using hm2
  refine wpOp_own rfl rfl fun K2 hK2 => ?_
  refine wp_store_mid 49 (.tmp 43) (.tmp 36) rfl g 1 (bvs lb) eS243 eS236 (by rw [bvs_size, hlb]; exact H1.there (c := { c with ah := la }) ⟨ok.lb, hla, ok.lh⟩ 1 32 (by omega)) (by rw [bvs_size, hlb]; exact size_hash) (bvs_one _) ?_
  rw [show (bvs lb).toList = cellsOf lb from rfl]
  have H2 := H1.setBh (c := { c with ah := la }) ⟨ok.lb, hla, ok.lh⟩ lb hlb
  have hs2 := set3 (g := g) (o := 1) (l := lb) hs1 hne
  refine hK2 _ _ ⟨hs2, ?_⟩
  clear hK2 K2 hm2
  show wpAnyH _ _ _ _ _ _ _ S2 _
  refine wpAnyH_take (i := 14) (v := .pointer (some ⟨g, 0, none⟩)) rfl (by kernel_rfl) (by kernel_rfl) (by kernel_rfl) (fun _ _ _ h => nomatch h.1) (y_nil (by simp [Region.wanted]) (.tmp 34) rfl _ eS234) hs2 ?_
  show wpAnyH _ _ _ _ _ _ _ (S2.put (some 44) (.pointer (some ⟨g, 0, none⟩))) _
  refine wpAnyH_take (i := 15) (v := .pointer (some ⟨g, 67, none⟩)) rfl (by kernel_rfl) (by kernel_rfl) (by kernel_rfl) (fun _ _ _ h => nomatch h.1) (y_chain3 (by simp [Region.wanted]) (.tmp 44) rfl g (ev_eq _ _ (by simp [szS2]))) hs2 ?_
  show wpAnyH _ _ _ _ _ _ _ ((S2.put (some 44) (.pointer (some ⟨g, 0, none⟩))).put (some 45) (.pointer (some ⟨g, 67, none⟩))) _
  obtain ⟨S3, hS3⟩ : ∃ S3, S3 = ((S2.put (some 44) (.pointer (some ⟨g, 0, none⟩))).put (some 45) (.pointer (some ⟨g, 67, none⟩))) := ⟨_, rfl⟩
  have szS3 : S3.tmps.size = 53 := by rw [hS3]; simp [put_sz, szS2]
  have eS345 : S3.eval (.tmp 45) = .pointer (some ⟨g, 67, none⟩) := by rw [hS3]; exact (ev_eq _ _ (by simp [put_sz, szS2]))
  have eS337 : S3.eval (.tmp 37) = .agg (bvs lh) := by rw [hS3]; exact ((ev_ne _ _ (by decide)).trans ((ev_ne _ _ (by decide)).trans eS237))
  rw [← hS3]
  refine wpAnyH_all (rs := [16]) (by kernel_rfl) (by simp) fun i3 hm3 => ?_
  obtain rfl : i3 = 16 := by simpa using hm3
  refine wpOp_own rfl rfl fun K3 hK3 => ?_
  refine wp_store_mid 49 (.tmp 45) (.tmp 37) rfl g 67 (bvs lh) eS345 eS337 (by rw [bvs_size, hlh]; exact H2.there (c := { c with ah := la, bh := lb }) ⟨hlb, hla, ok.lh⟩ 67 32 (by omega)) (by rw [bvs_size, hlh]; exact size_hash) (bvs_one _) ?_
  rw [show (bvs lh).toList = cellsOf lh from rfl]
  have H3 := H2.setHd (c := { c with ah := la, bh := lb }) ⟨hlb, hla, ok.lh⟩ lh hlh
  have hs3 := set3 (g := g) (o := 67) (l := lh) hs2 hne
  refine hK3 _ _ ⟨hs3, wpAnyH_done (by kernel_rfl) ⟨rfl, ?_, H3, Out.setCells (P := fun x => x = g) g rfl _ _ _ (Out.setCells (P := fun x => x = g) g rfl _ _ _ (Out.setCells (P := fun x => x = g) g rfl _ _ _ (Out.refl _ V0)))⟩ _⟩
  show S3 = _
  rw [hS3, hS2, hS1, hA2]
end Go.Proofs.YthnciogaibhmcaaDoor

/- Loading a chain: takeHashes, by a contract for right rows. -/
namespace Go.Proofs.YthnciogaibhmcaaDoor
open Go.RowKit
set_option linter.unusedVariables false
set_option maxRecDepth 20000
attribute [local go_sem ↓] loadL_fold storeL_fold loadH_fold storeH_fold buildH_fold
set_option maxHeartbeats 2000000 in
theorem takeHashes_ok {w : World} {B g : Nat} {v : Value} {c : Ch} (h : ChAt w B g v c) (ok : Lens c) (b o cp : Nat) (hbw : b < w.heap.size) (a1 a2 a3 : Option Addr) (p1 p2 p3 : Nat) (la lb lh : List UInt8) (hla : la.length = 32) (hlb : lb.length = 32) (hlh : lh.length = 32)
    (hr : w.rangeAt b o [.string ⟨#[97]⟩, .slice a1 1 p1, .string ⟨#[98]⟩, .slice a2 1 p2, .string ⟨#[104]⟩, .slice a3 1 p3]) (t1 : Texts w a1 [mkB la]) (t2 : Texts w a2 [mkB lb]) (t3 : Texts w a3 [mkB lh]) :
    Calls Tryd.prog 37 #[.pointer (some ⟨g, 0, none⟩), .slice (some ⟨b, o, none⟩) 3 cp] w fun e w' => e = .returned (.bool true) ∧ ChAt w' B g v { c with ah := la, bh := lb, hd := lh } ∧ Out (fun j => j = g) w w' := by
  obtain ⟨Z, hZ⟩ : ∃ Z, Z = bvs zero32 := ⟨_, rfl⟩
  have zh := (zero_of_info zero_hash).1
  rw [show bvs (List.replicate 32 0) = Z from hZ.symm] at zh
  have hSt : ∀ (l : List UInt8), l.length = 32 → ∀ W : World, (storeH (.pointer (some ⟨W.heap.size, 0, none⟩)) (.agg (bvs l))).run Tryd.prog (W.alloc (.cells Z 49)) = .ok () (W.alloc (.cells (bvs l) 49)) := fun l hl W => by
    have := storeH_new W l zero32 hl (by decide)
    rw [show bvs zero32 = Z from hZ.symm] at this
    exact this
  have s1 := hSt la hla
  have s2 := hSt lb hlb
  have s3 := hSt lh hlh
  have HH := hid h
  have OK := hid ok
  have Hr := hid hr
  have T1 := hid t1
  have T2 := hid t2
  have T3 := hid t3
  obtain ⟨Oa, hOa⟩ : ∃ O, O = bvs la := ⟨_, rfl⟩
  obtain ⟨Ob, hOb⟩ : ∃ O, O = bvs lb := ⟨_, rfl⟩
  obtain ⟨Oh, hOh⟩ : ∃ O, O = bvs lh := ⟨_, rfl⟩
  rw [← hOa] at s1
  rw [← hOb] at s2
  rw [← hOh] at s3
  have HOa := hid hOa
  have HOb := hid hOb
  have HOh := hid hOh
  have cells : Hid (∀ W, Below w.heap.size w W → ∀ j u, [Value.string ⟨#[97]⟩, .slice a1 1 p1, .string ⟨#[98]⟩, .slice a2 1 p2, .string ⟨#[104]⟩, .slice a3 1 p3][j]? = some u → W.cell? ⟨b, o + j, none⟩ = some u) := fun W hb j u hj => (hb.cell (p := ⟨b, o + j, none⟩) hbw).trans (hr j u hj)
  have c0 : w.cell? ⟨b, o, none⟩ = some (.string ⟨#[97]⟩) := hr 0 _ rfl
  have c1 : w.cell? ⟨b, o + 1, none⟩ = some (.slice a1 1 p1) := hr 1 _ rfl
  have C1 := hid (toHash_ok w ⟨#[97]⟩ (by decide) a1 p1 la hla t1)
  rw [← hOa] at C1
  clear h ok hr t1 t2 t3 hSt hZ hOa hOb hOh
  go_enter Tryd.func37, Tryd.ntmps37
  go_wp2_with fail
  refine C1.out.mono ?_
  rintro _ w1 ⟨rfl, hb1⟩
  have ge1 := hid hb1.size
  obtain ⟨w2, hw2⟩ : ∃ w2, w2 = w1.alloc (.cells Oa 49) := ⟨_, rfl⟩
  have b2 : Below w.heap.size w w2 := by rw [hw2]; exact hb1.alloc hb1.size _
  have c2 : w2.cell? ⟨b, o + 2, none⟩ = some (.string ⟨#[98]⟩) := cells.out _ b2 2 _ rfl
  have c3 : w2.cell? ⟨b, o + 2 + 1, none⟩ = some (.slice a2 1 p2) := cells.out _ b2 3 _ rfl
  have x2 : w2.heap[w1.heap.size]? = some (.cells Oa 49 (0, 0)) := by rw [hw2]; exact heap_alloc_new w1 _
  have C2 := hid (toHash_ok w2 ⟨#[98]⟩ (by decide) a2 p2 lb hlb (T2.out.below b2))
  rw [← HOb.out] at C2
  have HW2 := hid hw2
  rw [hw2] at c2 c3
  have X2 := hid x2
  have B2 := hid b2
  clear c0 c1 hw2 hb1 x2 b2 C1
  go_wp2_with fail
  rw [← HW2.out]
  refine C2.out.mono ?_
  rintro _ w3 ⟨rfl, hb3⟩
  have ge3 := hid (Nat.le_trans B2.out.size hb3.size)
  obtain ⟨w4, hw4⟩ : ∃ w4, w4 = w3.alloc (.cells Ob 49) := ⟨_, rfl⟩
  have b24 : Below w2.heap.size w2 w4 := by rw [hw4]; exact hb3.alloc hb3.size _
  have b4 : Below w.heap.size w w4 := Below.on' B2.out b24
  have c4 : w4.cell? ⟨b, o + 4, none⟩ = some (.string ⟨#[104]⟩) := cells.out _ b4 4 _ rfl
  have c5 : w4.cell? ⟨b, o + 4 + 1, none⟩ = some (.slice a3 1 p3) := cells.out _ b4 5 _ rfl
  have x4 : w4.heap[w3.heap.size]? = some (.cells Ob 49 (0, 0)) := by rw [hw4]; exact heap_alloc_new w3 _
  have C3 := hid (toHash_ok w4 ⟨#[104]⟩ (by decide) a3 p3 lh hlh (T3.out.below b4))
  rw [← HOh.out] at C3
  have HW4 := hid hw4
  rw [hw4] at c4 c5
  have X4 := hid x4
  have X24 := hid ((b24.block _ (heap_lt X2.out)).trans X2.out)
  have B4 := hid b4
  clear c2 c3 hw4 hb3 x4 b4 b24 C2 X2
  go_wp2_with fail
  rw [← HW4.out]
  refine C3.out.mono ?_
  rintro _ w5 ⟨rfl, hb5⟩
  have ge5 := hid (Nat.le_trans B4.out.size hb5.size)
  obtain ⟨w6, hw6⟩ : ∃ w6, w6 = w5.alloc (.cells Oh 49) := ⟨_, rfl⟩
  have b46 : Below w4.heap.size w4 w6 := by rw [hw6]; exact hb5.alloc hb5.size _
  have x6 : w6.heap[w5.heap.size]? = some (.cells Oh 49 (0, 0)) := by rw [hw6]; exact heap_alloc_new w5 _
  have HW6 := hid hw6
  have B46 := hid b46
  have X6 := hid x6
  have l24 := hid B4.out.size
  clear c4 c5 hb5 C3 x6 b46 hw6
  go_wp2_with fail
  rw [← HW6.out]
  obtain ⟨V0, hV0⟩ : ∃ V0, V0 = w6.drew := ⟨_, rfl⟩
  have bV : Below w6.heap.size w6 V0 := by rw [hV0]; exact (Below.refl _ w6).drew
  have b4V : Below w4.heap.size w4 V0 := Below.on' B46.out bV
  have bwV : Below w.heap.size w V0 := Below.on' B4.out b4V
  have hgl := HH.out.lt
  have hge1 : w.heap.size ≤ w1.heap.size := by
    exact ge1.out
  refine wp_act _ fun A hA => ?_
  have sz : A.tmps.size = 53 := by rw [hA]; rfl
  have e0 : A.eval (.tmp 0) = .pointer (some ⟨g, 0, none⟩) := by rw [hA]; rfl
  have e5 : A.eval (.tmp 5) = .pointer (some ⟨w1.heap.size, 0, none⟩) := by rw [hA]; rfl
  have e7 : A.eval (.tmp 7) = .pointer (some ⟨w3.heap.size, 0, none⟩) := by rw [hA]; rfl
  have e9 : A.eval (.tmp 9) = .pointer (some ⟨w5.heap.size, 0, none⟩) := by rw [hA]; rfl
  have hT : Three w1.heap.size w3.heap.size w5.heap.size la lb lh V0 := ⟨by rw [b4V.block _ (heap_lt X24.out), X24.out, HOa.out]; rfl, by rw [b4V.block _ (heap_lt X4.out), X4.out, HOb.out]; rfl, by rw [bV.block _ (heap_lt X6.out), X6.out, HOh.out]; rfl⟩
  have hne : w1.heap.size ≠ g ∧ w3.heap.size ≠ g ∧ w5.heap.size ≠ g := by
    have q3 := ge3.out
    have q5 := ge5.out
    omega
  refine wp_split _ (takeHashes_region sz e0 e5 e7 e9 hV0 (HH.out.below bwV) OK.out hla hlb hlh hT hne) ?_
  rintro _ V1 ⟨rfl, h1, o1⟩
  rw [hA]
  simp only [Act.put, List.setIfInBounds_toArray, List.set_cons_succ, List.set_cons_zero]
  have H1 := hid h1
  have O1 : Hid (Out (fun j => j = g) w V1) := (Out.of_below bwV).trans o1 (fun _ _ x => x)
  clear sz e0 e5 e7 e9 hA A h1 o1 hT hne
  go_wp2_with fail
  go_ret
  exact ⟨rfl, H1.out, O1.out⟩
end Go.Proofs.YthnciogaibhmcaaDoor

/- Loading a chain from its own rows. -/
namespace Go.Proofs.YthnciogaibhmcaaDoor
open Go.RowKit
set_option linter.unusedVariables false
set_option maxRecDepth 20000
theorem hf_countL : ∀ (args : Array Value) (w : World), (callFunc 34 args).run Tryd.prog w = .ok (.enter 34 args) w := fun args w => by simp [go_sem]
noncomputable def codeLd (n : Nat) : Code := ((Tryd.f13.body.bind (regionAt n)).getD .skip)
set_option maxHeartbeats 2000000 in
theorem load_region10 {V0 W5 : World} {B g : Nat} {v : Value} {c : Ch} {A : Act} (sz : A.tmps.size = 52) (e4 : A.eval (.tmp 4) = .pointer (some ⟨g, 0, none⟩)) (hV0 : V0 = W5.drew) (hs0 : ChAt V0 B g v c) (ok : Lens c) (hc : c.cnt < 1152921504606846976) (hle : c.an ≤ c.cnt) :
    (codeLd 10).wp Tryd.prog (fun x a V => x = .normal ∧ a = ((((((((A.put (some 43) (.pointer (some ⟨g, 0, none⟩))).put (some 44) (.pointer (some ⟨g, 0, none⟩))).put (some 45) (.pointer (some ⟨g, 33, none⟩))).put (some 46) (.pointer (some ⟨g, 33, none⟩))).put (some 47) (.int .i64 (c.an : Int))).put (some 48) (.pointer (some ⟨g, 0, none⟩))).put (some 49) (.int .i64 (c.cnt : Int))).put (some 50) (.bool false)) ∧ ChAt V B g v c ∧ Below V0.heap.size V0 V) A W5 := by
  have hm : Tryd.prog.follows .mixedOrders = true := by kernel_rfl
  have hgt2 : ¬ ((c.cnt : Int) < (c.an : Int)) := by omega
  unfold codeLd
  conv => arg 2; whnf
  refine wp_region_G (fun _ => false) (fun V => ChAt V B g v c) hm ?_
  rw [show ({ W5 with drawn := W5.drawn + 1 } : World) = V0 from hV0.symm]
  refine wpAnyG_take (i := 0) (v := .pointer (some ⟨g, 0, none⟩)) rfl (by kernel_rfl) (by kernel_rfl) (by kernel_rfl) (fun _ _ _ h => nomatch h.1) (yg_mv (by simp [Region.wanted]) (.tmp 4) rfl e4) hs0 ?_
  show wpAnyG _ _ _ _ _ _ _ _ (A.put (some 43) (.pointer (some ⟨g, 0, none⟩))) _
  refine wpAnyG_take (i := 1) (v := .pointer (some ⟨g, 0, none⟩)) rfl (by kernel_rfl) (by kernel_rfl) (by kernel_rfl) (fun _ _ _ h => nomatch h.1) (yg_nil (by simp [Region.wanted]) (.tmp 43) rfl (ev_eq _ _ (by simp [sz]))) hs0 ?_
  show wpAnyG _ _ _ _ _ _ _ _ ((A.put (some 43) (.pointer (some ⟨g, 0, none⟩))).put (some 44) (.pointer (some ⟨g, 0, none⟩))) _
  refine wpAnyG_take (i := 2) (v := .pointer (some ⟨g, 33, none⟩)) rfl (by kernel_rfl) (by kernel_rfl) (by kernel_rfl) (fun _ _ _ h => nomatch h.1) (yg_fld (by simp [Region.wanted]) (.tmp 44) rfl (ev_eq _ _ (by simp [put_sz, sz])) (fun w => by simp [go_sem])) hs0 ?_
  show wpAnyG _ _ _ _ _ _ _ _ (((A.put (some 43) (.pointer (some ⟨g, 0, none⟩))).put (some 44) (.pointer (some ⟨g, 0, none⟩))).put (some 45) (.pointer (some ⟨g, 33, none⟩))) _
  refine wpAnyG_take (i := 3) (v := .pointer (some ⟨g, 33, none⟩)) rfl (by kernel_rfl) (by kernel_rfl) (by kernel_rfl) (fun _ _ _ h => nomatch h.1) (yg_fld (by simp [Region.wanted]) (.tmp 45) rfl (ev_eq _ _ (by simp [put_sz, sz])) (fun w => by simp [go_sem])) hs0 ?_
  show wpAnyG _ _ _ _ _ _ _ _ ((((A.put (some 43) (.pointer (some ⟨g, 0, none⟩))).put (some 44) (.pointer (some ⟨g, 0, none⟩))).put (some 45) (.pointer (some ⟨g, 33, none⟩))).put (some 46) (.pointer (some ⟨g, 33, none⟩))) _
  refine wpAnyG_take (i := 4) (v := .int .i64 (c.an : Int)) rfl (by kernel_rfl) (by kernel_rfl) (by kernel_rfl) (fun _ _ _ h => nomatch h.1) (yg_ld (by simp [Region.wanted]) (.tmp 46) rfl (ev_eq _ _ (by simp [put_sz, sz])) (fun w hw => by have h1 := hw.c33 ok; simp [go_sem, h1])) hs0 ?_
  show wpAnyG _ _ _ _ _ _ _ _ (((((A.put (some 43) (.pointer (some ⟨g, 0, none⟩))).put (some 44) (.pointer (some ⟨g, 0, none⟩))).put (some 45) (.pointer (some ⟨g, 33, none⟩))).put (some 46) (.pointer (some ⟨g, 33, none⟩))).put (some 47) (.int .i64 (c.an : Int))) _
  refine wpAnyG_take (i := 5) (v := .pointer (some ⟨g, 0, none⟩)) rfl (by kernel_rfl) (by kernel_rfl) (by kernel_rfl) (fun _ _ _ h => nomatch h.1) (yg_mv (by simp [Region.wanted]) (.tmp 4) rfl ((ev_ne _ _ (by decide)).trans ((ev_ne _ _ (by decide)).trans ((ev_ne _ _ (by decide)).trans ((ev_ne _ _ (by decide)).trans ((ev_ne _ _ (by decide)).trans e4)))))) hs0 ?_
  show wpAnyG _ _ _ _ _ _ _ _ ((((((A.put (some 43) (.pointer (some ⟨g, 0, none⟩))).put (some 44) (.pointer (some ⟨g, 0, none⟩))).put (some 45) (.pointer (some ⟨g, 33, none⟩))).put (some 46) (.pointer (some ⟨g, 33, none⟩))).put (some 47) (.int .i64 (c.an : Int))).put (some 48) (.pointer (some ⟨g, 0, none⟩))) _
  refine wpAnyG_all (rs := [6]) (by kernel_rfl) (by simp) fun i1 hm1 => ?_
  obtain rfl : i1 = 6 := by simpa using hm1
  refine wpOp_own rfl rfl fun K1 hK1 => ?_
  refine wp_calls1 34 hf_countL (.tmp 48) _ rfl (.pointer (some ⟨g, 0, none⟩)) (ev_eq _ _ (by simp [put_sz, sz])) ?_
  refine (count_len hs0 ok hc).mono ?_
  rintro _ V1 ⟨rfl, hb1⟩
  have hs1 := hs0.below hb1
  refine ⟨_, rfl, hK1 _ _ ⟨.inr hs1, ?_⟩⟩
  clear hK1 K1 hm1
  show wpAnyG _ _ _ _ _ _ _ _ (((((((A.put (some 43) (.pointer (some ⟨g, 0, none⟩))).put (some 44) (.pointer (some ⟨g, 0, none⟩))).put (some 45) (.pointer (some ⟨g, 33, none⟩))).put (some 46) (.pointer (some ⟨g, 33, none⟩))).put (some 47) (.int .i64 (c.an : Int))).put (some 48) (.pointer (some ⟨g, 0, none⟩))).put (some 49) (.int .i64 (c.cnt : Int))) _
  refine wpAnyG_take (i := 7) (v := .bool false) rfl (by kernel_rfl) (by kernel_rfl) (by kernel_rfl) (fun _ _ _ h => nomatch h.1) (yg_bin (by simp [Region.wanted]) (.tmp 47) (.tmp 49) rfl ((ev_ne _ _ (by decide)).trans ((ev_ne _ _ (by decide)).trans (ev_eq _ _ (by simp [put_sz, sz])))) (ev_eq _ _ (by simp [put_sz, sz])) (fun w => by simp [go_sem, hgt2])) hs1 ?_
  show wpAnyG _ _ _ _ _ _ _ _ ((((((((A.put (some 43) (.pointer (some ⟨g, 0, none⟩))).put (some 44) (.pointer (some ⟨g, 0, none⟩))).put (some 45) (.pointer (some ⟨g, 33, none⟩))).put (some 46) (.pointer (some ⟨g, 33, none⟩))).put (some 47) (.int .i64 (c.an : Int))).put (some 48) (.pointer (some ⟨g, 0, none⟩))).put (some 49) (.int .i64 (c.cnt : Int))).put (some 50) (.bool false)) _
  refine wpAnyG_done (by kernel_rfl) ⟨rfl, rfl, hs1, hb1⟩ _

/-- rows of texts in memory -/
def TxRows (w : World) (b : Nat) (R : List (ByteArray × List ByteArray)) : Prop := ∀ i (h : i < R.length), ∃ a cp, w.cell? ⟨b, i * 2, none⟩ = some (.string R[i].1) ∧ w.cell? ⟨b, i * 2 + 1, none⟩ = some (.slice a R[i].2.length cp) ∧ Texts w a R[i].2
theorem TxRows.below {w w' : World} {b B : Nat} {R : List (ByteArray × List ByteArray)} (h : TxRows w b R) (hb : Below w.heap.size w w') : TxRows w' b R := fun i hi => by
  obtain ⟨a, cp, h1, h2, h3⟩ := h i hi
  exact ⟨a, cp, (hb.cell (World.block_lt_of_cell? _ _ h1)).trans h1, (hb.cell (World.block_lt_of_cell? _ _ h2)).trans h2, h3.below hb⟩
/-- a chain that its rows give back -/
structure Ldable (c : Ch) : Prop where
  l : Lens c
  bn : c.bn ≤ 1099511627776
  an : c.an ≤ 1099511627776
  la : c.la ≤ 1099511627776
  few : c.ev.length ≤ 64
  anc : c.an ≤ c.cnt
  num : ∀ i (h : i < c.ev.length), c.ev[i].num = c.bn + i + 1
  siz : ∀ e ∈ c.ev, e.what.size ≤ 12 ∧ e.who.size ≤ 30
  tim : ∀ e ∈ c.ev, e.tim ≤ c.la
  up : ∀ i (h : i + 1 < c.ev.length), (c.ev[i]'(by omega)).tim ≤ c.ev[i + 1].tim
/-- the first events of a chain -/
def cutE (c : Ch) (k : Nat) : Ch := { c with ev := c.ev.take k }
theorem Ldable.last {c : Ch} (h : Ldable c) (k : Nat) (hk : k < c.ev.length) : lastT (cutE c k) ≤ c.ev[k].tim := by
  unfold lastT cutE
  cases k with
  | zero => simp
  | succ k =>
    rw [List.getLast?_eq_getElem?]
    simp only [List.length_take]
    rw [show min (k + 1) c.ev.length - 1 = k by omega, List.getElem?_take_of_lt (by omega), List.getElem?_eq_getElem (by omega)]
    exact h.up k hk
theorem cutE_step (c : Ch) (k : Nat) (hk : k < c.ev.length) : { cutE c k with ev := (cutE c k).ev ++ [c.ev[k]] } = cutE c (k + 1) := by
  unfold cutE
  simp only
  rw [List.take_succ_eq_append_getElem hk]
theorem cutE_all (c : Ch) : cutE c c.ev.length = c := by simp [cutE]
theorem cutE_lens {c : Ch} (h : Lens c) (k : Nat) : Lens (cutE c k) := ⟨h.lb, h.lan, h.lh⟩
theorem cutE_cnt (c : Ch) (k : Nat) (hk : k ≤ c.ev.length) : (cutE c k).cnt = c.bn + k := by simp [cutE, Ch.cnt, Nat.min_eq_left hk]
theorem rowsOf_len (c : Ch) : (rowsOf c).length = 4 + c.ev.length := by simp [rowsOf, headRows]; omega
theorem rowsOf_ev (c : Ch) (k : Nat) (hk : k < c.ev.length) (h : 4 + k < (rowsOf c).length) : (rowsOf c)[4 + k] = evText c.ev[k] := by
  have : (rowsOf c)[4 + k]? = some (evText c.ev[k]) := by
    unfold rowsOf
    rw [List.getElem?_append_right (by simp [headRows])]
    simp [headRows, hk]
  rw [List.getElem?_eq_getElem h] at this
  exact Option.some.inj this

end Go.Proofs.YthnciogaibhmcaaDoor

/- Load of a chain's own rows, by a contract. -/
namespace Go.Proofs.YthnciogaibhmcaaDoor
open Go.RowKit
set_option linter.unusedVariables false
set_option maxRecDepth 20000
def LoadPost (w : World) (c : Ch) (e : Ending) (w' : World) : Prop := ∃ g v, e = .returned (.tuple #[.pointer (some ⟨g, 0, none⟩), .int .i64 0]) ∧ ChAt w' w.heap.size g v c ∧ Below w.heap.size w w'
set_option maxHeartbeats 4000000 in
theorem load_ok {w : World} (b cap : Nat) (c : Ch) (hR : TxRows w b (rowsOf c)) (hd : Ldable c) (hcap : 4 + c.ev.length ≤ cap) (hT : Tabs w w.heap.size) :
    Calls Tryd.prog 13 #[.slice (some ⟨b, 0, none⟩) (4 + c.ev.length) cap] w (LoadPost w c) := by
  obtain ⟨B, hB⟩ : ∃ B, B = w.heap.size := ⟨_, rfl⟩
  have HB := hid hB
  have hlen := rowsOf_len c
  obtain ⟨a0, p0, u0, v0, s0⟩ := hR 0 (by omega)
  obtain ⟨a1, p1, u1, v1, s1⟩ := hR 1 (by omega)
  obtain ⟨a2, p2, u2, v2, s2⟩ := hR 2 (by omega)
  obtain ⟨a3, p3, u3, v3, s3⟩ := hR 3 (by omega)
  have x0 : w.cell? ⟨b, 0, none⟩ = some (.string ⟨#[35]⟩) := u0
  have y0 : w.cell? ⟨b, 1, none⟩ = some (.slice a0 3 p0) := v0
  have t0 : Texts w a0 ([c.bn, c.an, c.la].map txt) := s0
  have x1 : w.cell? ⟨b, 2, none⟩ = some (.string ⟨#[97]⟩) := u1
  have y1 : w.cell? ⟨b, 3, none⟩ = some (.slice a1 1 p1) := v1
  have t1 : Texts w a1 [mkB c.ah] := s1
  have x2 : w.cell? ⟨b, 4, none⟩ = some (.string ⟨#[98]⟩) := u2
  have y2 : w.cell? ⟨b, 5, none⟩ = some (.slice a2 1 p2) := v2
  have t2 : Texts w a2 [mkB c.bh] := s2
  have x3 : w.cell? ⟨b, 6, none⟩ = some (.string ⟨#[104]⟩) := u3
  have y3 : w.cell? ⟨b, 7, none⟩ = some (.slice a3 1 p3) := v3
  have t3 : Texts w a3 [mkB c.hd] := s3
  have hr6 : w.rangeAt b 2 [.string ⟨#[97]⟩, .slice a1 1 p1, .string ⟨#[98]⟩, .slice a2 1 p2, .string ⟨#[104]⟩, .slice a3 1 p3] := by
    intro j u hj
    match j, hj with
    | 0, hj => cases hj; exact x1
    | 1, hj => cases hj; exact y1
    | 2, hj => cases hj; exact x2
    | 3, hj => cases hj; exact y2
    | 4, hj => cases hj; exact x3
    | 5, hj => cases hj; exact y3
  have hbw : b < w.heap.size := World.block_lt_of_cell? _ _ x0
  obtain ⟨N, hN⟩ : ∃ N, N = c.ev.length := ⟨_, rfl⟩
  have HN := hid hN
  have hN64 : N ≤ 64 := by have := hd.few; omega
  rw [← hN] at hcap ⊢
  have HR := hid hR
  have HD := hid hd
  have HT := hid hT
  have T0 := hid t0
  have T1 := hid t1
  have T2 := hid t2
  have T3 := hid t3
  have Hr6 := hid hr6
  have X0 := hid x0
  have Y0 := hid y0
  clear hR hd hT t0 t1 t2 t3 hr6 u0 v0 s0 u1 v1 s1 u2 v2 s2 u3 v3 s3 x0 y0 x1 y1 x2 y2 x3 y3 hlen hN hB
  obtain ⟨M, hM⟩ : ∃ M, M = 4 + N := ⟨_, rfl⟩
  rw [← hM] at hcap ⊢
  have HM := hid hM
  have n1 : ¬ (M : Int) < 4 := by omega
  have n2 : ¬ (68 : Int) < (M : Int) := by omega
  have m1 : decide ((M : Int) < 4) = false := decide_eq_false n1
  have m2 : decide ((68 : Int) < (M : Int)) = false := decide_eq_false n2
  have k4 : (4 : Int) ≤ (M : Int) := by omega
  have kcap : ¬ cap = 1 := by omega
  have kcap4 : 4 ≤ cap := by omega
  have k0 : (0 : Int) < (M : Int) := by omega
  clear hM
  go_enter Tryd.func13, Tryd.ntmps13
  go_wp2_with fail
  refine (new_any w).mono ?_
  rintro _ w1 ⟨g, rfl, h1, b1⟩
  have H1 := hid h1
  have B1 := hid b1
  have hgw : w.heap.size ≤ g := h1.bg
  have q0 : w1.cell? ⟨b, 0, none⟩ = some (.string ⟨#[35]⟩) := (b1.cell (p := ⟨b, 0, none⟩) hbw).trans X0.out
  have q1 : w1.cell? ⟨b, 1, none⟩ = some (.slice a0 3 p0) := (b1.cell (p := ⟨b, 1, none⟩) hbw).trans Y0.out
  have C1 := hid (takeNumbers_ok H1.out ⟨by decide, by decide, by decide⟩ a0 p0 c.bn c.an c.la (T0.out.below b1) HD.out.bn HD.out.an HD.out.la)
  clear h1 b1
  go_wp2_with (go_at_call 36; refine C1.out.mono ?_; rintro _ w2 ⟨rfl, h2, o2⟩; have H2 := hid h2; have O2 := hid o2; clear h2 o2)
  have bw2 : Below w.heap.size w w2 := B1.out.trans (O2.out.below B1.out.size (fun k hk => by rw [hk]; exact hgw))
  refine (takeHashes_ok H2.out ⟨ch0_ok.lb, ch0_ok.lan, ch0_ok.lh⟩ b 2 (cap - 1) (Nat.lt_of_lt_of_le hbw bw2.size) a1 a2 a3 p1 p2 p3 c.ah c.bh c.hd HD.out.l.lan HD.out.l.lb HD.out.l.lh (fun j u hj => (bw2.cell (p := ⟨b, 2 + j, none⟩) hbw).trans (Hr6.out j u hj)) (T1.out.below bw2) (T2.out.below bw2) (T3.out.below bw2)).mono ?_
  rintro _ w3 ⟨rfl, h3, o3⟩
  have bw3 : Below w.heap.size w w3 := bw2.trans (o3.below bw2.size (fun k hk => by rw [hk]; exact hgw))
  have h3' : ChAt w3 w.heap.size g (.slice none 0 0) (cutE c 0) := h3
  have H3 := hid h3'
  have B3 := hid bw3
  clear h3 h3' o3 bw3 bw2 H2 O2 H1 B1 C1 q0 q1
  have k5 : M - 4 = N := by have := HM.out; omega
  by_cases hc4 : cap = 4
  · go_wp2_with fail
    clear n1 n2 m1 m2 k4 kcap kcap4 k0 k5
    go_loopw [34] (fun i wr => ∃ k : Nat, k ≤ N ∧ i = .int .i64 (k : Int) ∧ ∃ v, ChAt wr w.heap.size g v (cutE c k) ∧ Below w.heap.size w wr) (fun i _ => N - (intOf i).toNat)
    case atStart => exact ⟨0, Nat.zero_le _, rfl, _, H3.out, B3.out⟩
    case round =>
      clear H3 B3
      obtain ⟨k, hk, rfl, v, hch, hbel⟩ := hrel
      have Hch := hid hch
      have Hbel := hid hbel
      clear hch hbel
      by_cases hlt : k < N
      · exfalso
        have := HM.out
        omega
      · have g1 : ¬ (k : Int) < (N : Int) := by omega
        have hall : ChAt wr w.heap.size g v c := by
          have h := Hch.out
          rw [show k = c.ev.length by have := HN.out; omega, cutE_all] at h
          exact h
        have Hall := hid hall
        clear hall Hch hlt
        go_wp2_with fail
        obtain ⟨V0, hV0⟩ : ∃ V0, V0 = wr.drew := ⟨_, rfl⟩
        have b0 : Below wr.heap.size wr V0 := by rw [hV0]; exact (Below.refl _ wr).drew
        refine wp_act _ fun A hA => ?_
        have sz : A.tmps.size = 52 := by rw [hA]; rfl
        have e4 : A.eval (.tmp 4) = .pointer (some ⟨g, 0, none⟩) := by rw [hA]; rfl
        refine wp_split _ (load_region10 sz e4 hV0 (Hall.out.below b0) HD.out.l (by have h1 := HD.out.bn; have h2 := HD.out.few; unfold Ch.cnt; omega) HD.out.anc) ?_
        rintro _ V1 ⟨rfl, h1, b1⟩
        rw [hA]
        simp only [Act.put, List.setIfInBounds_toArray, List.set_cons_succ, List.set_cons_zero]
        have F1 := hid h1
        have F2 := hid (Below.on' (Below.on' Hbel.out b0) b1)
        clear sz e4 hA A h1 b1 b0 hV0
        go_wp2_with fail
        go_ret2
        exact ⟨_, _, rfl, F1.out, F2.out⟩
  · go_wp2_with fail
    clear n1 n2 m1 m2 k4 kcap kcap4 k0 k5
    go_loopw [34] (fun i wr => ∃ k : Nat, k ≤ N ∧ i = .int .i64 (k : Int) ∧ ∃ v, ChAt wr w.heap.size g v (cutE c k) ∧ Below w.heap.size w wr) (fun i _ => N - (intOf i).toNat)
    case atStart => exact ⟨0, Nat.zero_le _, rfl, _, H3.out, B3.out⟩
    case round =>
      clear H3 B3
      obtain ⟨k, hk, rfl, v, hch, hbel⟩ := hrel
      have Hch := hid hch
      have Hbel := hid hbel
      clear hch hbel
      by_cases hlt : k < N
      · have g1 : (k : Int) < (N : Int) := by omega
        have hkl : k < c.ev.length := by have := HN.out; omega
        obtain ⟨a, cp, u1, u2, u3⟩ := HR.out (4 + k) (by rw [rowsOf_len]; omega)
        rw [rowsOf_ev c k hkl] at u1 u2 u3
        have hbb : ∀ bb oo, a = some ⟨bb, oo, none⟩ → bb < w.heap.size := fun bb oo hh => by
          obtain ⟨b9, o9, e9, c9⟩ := u3 0 (by simp [evText])
          rw [hh] at e9
          cases e9
          exact World.block_lt_of_cell? _ _ c9
        have d0 : wr.cell? ⟨b, 8 + k * 2, none⟩ = some (.string (evKey (c.ev[k]).num)) := by rw [show 8 + k * 2 = (4 + k) * 2 by omega]; exact (Hbel.out.cell (p := ⟨b, (4 + k) * 2, none⟩) hbw).trans u1
        have d1 : wr.cell? ⟨b, 8 + k * 2 + 1, none⟩ = some (.slice a 3 cp) := by rw [show 8 + k * 2 + 1 = (4 + k) * 2 + 1 by omega]; exact (Hbel.out.cell (p := ⟨b, (4 + k) * 2 + 1, none⟩) hbw).trans u2
        have hst := cutE_step c k hkl
        have t9 : Texts w a [txt (c.ev[k]).tim, (c.ev[k]).what, (c.ev[k]).who] := u3
        have n9 : (c.ev[k]).num = (cutE c k).cnt + 1 := by rw [cutE_cnt c k (by omega), HD.out.num k hkl]
        have s9 := HD.out.siz _ (List.getElem_mem hkl)
        have l9 := HD.out.last k hkl
        have m9 := HD.out.tim _ (List.getElem_mem hkl)
        have cn9 : (cutE c k).cnt < 1000000000000000000 := by rw [cutE_cnt c k (by omega)]; have := HD.out.bn; omega
        generalize (c.ev[k]'hkl) = e at *
        obtain ⟨W6, hW6⟩ : ∃ W6, W6 = wr.alloc (.cells #[.string (evKey e.num), .slice a 3 cp] 45) := ⟨_, rfl⟩
        have b6 : Below wr.heap.size wr W6 := by rw [hW6]; exact (Below.refl _ wr).alloc (Nat.le_refl _) _
        have bw6 : Below w.heap.size w W6 := Below.on' Hbel.out b6
        have C9 := hid (takeEvent_ok (Hch.out.below b6) (cutE_lens HD.out.l k) cn9 bw6.size (HT.out.below (Nat.le_refl _) bw6) e a cp (t9.below bw6) (fun bb oo hh hx => by
          have h1 := hbb bb oo hh
          have h2 := Hch.out.blk _ hx
          omega) n9 s9.1 s9.2 l9 m9 HD.out.la (by simp [cutE]; have := HD.out.few; omega))
        have HW6 := hid hW6
        have BW6 := hid bw6
        have Hst := hid hst
        have Hblk := hid Hch.out.blk
        clear u1 u2 u3 t9 n9 s9 l9 m9 cn9 hst hW6 bw6 b6 hbb hkl
        go_wp2_with (go_at_call 38; rw [show wr.alloc (.cells #[.string (evKey e.num), .slice a 3 cp] 45) = W6 from HW6.out.symm]; refine C9.out.mono ?_; rintro _ w7 ⟨v7, rfl, h7, o7, gr7⟩; have H7 := hid h7; have O7 := hid o7; clear h7 o7)
        go_roundw
        case rel => exact ⟨k + 1, by omega, by go_num, v7, Hst.out ▸ H7.out, BW6.out.trans (O7.out.below BW6.out.size Hblk.out)⟩
        case measure => simp [intOf]; omega
      · have g1 : ¬ (k : Int) < (N : Int) := by omega
        have hall : ChAt wr w.heap.size g v c := by
          have h := Hch.out
          rw [show k = c.ev.length by have := HN.out; omega, cutE_all] at h
          exact h
        have Hall := hid hall
        clear hall Hch hlt
        go_wp2_with fail
        obtain ⟨V0, hV0⟩ : ∃ V0, V0 = wr.drew := ⟨_, rfl⟩
        have b0 : Below wr.heap.size wr V0 := by rw [hV0]; exact (Below.refl _ wr).drew
        refine wp_act _ fun A hA => ?_
        have sz : A.tmps.size = 52 := by rw [hA]; rfl
        have e4 : A.eval (.tmp 4) = .pointer (some ⟨g, 0, none⟩) := by rw [hA]; rfl
        refine wp_split _ (load_region10 sz e4 hV0 (Hall.out.below b0) HD.out.l (by have h1 := HD.out.bn; have h2 := HD.out.few; unfold Ch.cnt; omega) HD.out.anc) ?_
        rintro _ V1 ⟨rfl, h1, b1⟩
        rw [hA]
        simp only [Act.put, List.setIfInBounds_toArray, List.set_cons_succ, List.set_cons_zero]
        have F1 := hid h1
        have F2 := hid (Below.on' (Below.on' Hbel.out b0) b1)
        clear sz e4 hA A h1 b1 b0 hV0
        go_wp2_with fail
        go_ret2
        exact ⟨_, _, rfl, F1.out, F2.out⟩
end Go.Proofs.YthnciogaibhmcaaDoor
