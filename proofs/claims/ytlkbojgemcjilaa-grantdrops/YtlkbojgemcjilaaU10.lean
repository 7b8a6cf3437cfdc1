/- Grants: Withdraw. -/
import Derived.Test.YtlkbojgemcjilaaU9
import Derived.Deep.RegionHeld3
namespace Go.Proofs.Ytlkbojgemcjilaa
open Go.RowKit Go.Maps
set_option linter.unusedVariables false
set_option maxRecDepth 20000
theorem wp_deleteU {H : Type} {o : Oper} {a : Act} {w : World} {K : Act → World → Prop} {Q : Exit → Act → World → Prop} (m x : Operand) (t k : TypeId) (hop : o.op = Op.call { callee := Callee.builtin Builtin.delete, args := #[m, x], argTypes := #[t, k] })
    (e : TypeId) (KK : Keyed Try.prog k) (ht : Try.prog.underlying t = some (.map k e)) (R : Value → Option (DataW H × List MemPlace)) (b n : Nat) (D : DataW H)
    (hm : a.eval m = .map (some b)) (hown : w.ownsMap Try.prog k R b n D) (key : Value) (kl : Lit) (hx : a.eval x = key) (hkey : keyOf Try.prog k key = some kl)
    (hK : ∀ w', w'.ownsMap Try.prog k R b n (D.del kl) → w.mapTurned w' b → K (a.put o.dst (.tuple #[])) w') : o.wp Try.prog a w K Q := by
  obtain ⟨w', hrun, r1, r2⟩ := hown.drop KK ht hkey o.type
  unfold Oper.wp
  simp [execOp, hop, resolve, invoke, builtin, hm, hx, hrun, Result.andThen]
  exact hK w' r1 r2
theorem wp_putU {H : Type} {o : Oper} {a : Act} {w : World} {K : Act → World → Prop} {Q : Exit → Act → World → Prop} (m x v : Operand) (t : TypeId) (hop : o.op = Op.mapUpdate t m x v)
    (k e : TypeId) (KK : Keyed Try.prog k) (ht : Try.prog.underlying t = some (.map k e)) (R : Value → Option (DataW H × List MemPlace)) (b n : Nat) (D : DataW H)
    (hm : a.eval m = .map (some b)) (hown : w.ownsMap Try.prog k R b n D) (hn : n < maxLen) (key val : Value) (kl : Lit) (hx : a.eval x = key) (hv : a.eval v = val) (hkey : keyOf Try.prog k key = some kl)
    (d : DataW H) (ps : List MemPlace) (hval : R val = some (d, ps))
    (hK : ∀ w', w'.ownsMap Try.prog k R b (n + 1) (D.put kl d) → w.mapTurned w' b → K (a.put o.dst undef) w') : o.wp Try.prog a w K Q := by
  obtain ⟨w', hrun, r1, r2⟩ := hown.store KK ht hn hkey hval
  unfold Oper.wp
  simp [execOp, hop, hm, hx, hv, hrun, Result.andThen]
  exact hK w' r1 r2
def GS.dropA (s : GS) (t u n : ByteArray) : GS := ⟨s.cs, s.al.filter fun a => !isA t u n a⟩
theorem isA_iff {t u n : ByteArray} {a : Co} : isA t u n a = true ↔ a.t = t ∧ a.u = u ∧ a.n = n := by unfold isA; exact decide_eq_true_iff
theorem GS.Ok.dropA {s : GS} (h : s.Ok) (t u n : ByteArray) : (s.dropA t u n).Ok :=
  ⟨h.names, h.keys, fun a ha => h.anames a (List.mem_filter.1 ha).1, h.akeys.filter _⟩
section
variable {w w' : World} {B g mc d : Nat} {L : List Reg} {s : GS}
theorem SAt.r_ne (h : SAt w B g mc L s d) {p q : Reg} (hp : p ∈ L) (hq : q ∈ L) : p.r ≠ q.m := by
  obtain ⟨_, _, h3, _⟩ := h.regs p hp
  obtain ⟨_, _, _, n, D, h4, _⟩ := h.regs q hq
  exact cells_ne_map h4 h3
theorem SAt.m_inj (h : SAt w B g mc L s d) {p q : Reg} (hp : p ∈ L) (hq : q ∈ L) (e : p.m = q.m) : p = q := by
  have h1 := (List.nodup_cons.1 h.ndm).2
  unfold List.Nodup at h1
  rw [List.pairwise_map] at h1
  rcases Classical.em (p = q) with h9 | h9
  · exact h9
  · have : ∀ (l : List Reg), l.Pairwise (fun a b => a.m ≠ b.m) → p ∈ l → q ∈ l → False := fun l hl => by
      induction l with
      | nil => exact fun h _ => nomatch h
      | cons a l ih =>
        obtain ⟨h1, h2⟩ := List.pairwise_cons.1 hl
        intro hp hq
        rcases List.mem_cons.1 hp with rfl | hp' <;> rcases List.mem_cons.1 hq with rfl | hq'
        · exact h9 rfl
        · exact h1 q hq' e
        · exact h1 p hp' e.symm
        · exact ih h2 hp' hq'
    exact (this L h1 hp hq).elim
theorem users_apart (h : s.Ok) (t n : ByteArray) : (s.al.filter (ofC t n)).Pairwise fun a b => ¬ a.u = b.u := by
  have h1 := h.akeys.filter (ofC t n)
  exact h1.imp_of_mem fun {a b} ha hb hne e => by
    obtain ⟨e1, e2⟩ := ofC_iff.1 (List.mem_filter.1 ha).2
    obtain ⟨e3, e4⟩ := ofC_iff.1 (List.mem_filter.1 hb).2
    exact hne ⟨e1.trans e3.symm, e, e2.trans e4.symm⟩
/-- a store one of whose maps of consents has changed -/
theorem SAt.turnA (h : SAt w B g mc L s d) {p : Reg} (hp : p ∈ L) {al' : List Co} {d' : Nat} (hd : d ≤ d') (hok : (⟨s.cs, al'⟩ : GS).Ok) (k : Nat) (D' : DataW Unit) (hk : k ≤ d') (hD : ARel D' (al'.filter (ofC p.c.t p.c.n))) (hoth : ∀ q ∈ L, q ≠ p → al'.filter (ofC q.c.t q.c.n) = s.al.filter (ofC q.c.t q.c.n))
    (hm : w'.ownsMap Try.prog 9 (plainElem Try.prog 25) p.m k D') (hg : w.grownBy w' (some p.m)) : SAt w' B g mc L ⟨s.cs, al'⟩ d' := by
  obtain ⟨_, _, _, n0, D0, hm0, _⟩ := h.regs p hp
  obtain ⟨n, V, h1, h2, h3⟩ := h.cm
  refine ⟨hok, h.cs, ?_, ⟨n, V, h1.kept hg (fun e => h.m_ne hp (Option.some.inj e).symm), by omega, h3⟩, fun q hq => ?_, h.ndr, h.ndm, h.bg, h.bm⟩
  · exact (hg.block g h.lt (fun e => cells_ne_map hm0 h.obj (Option.some.inj e))).trans h.obj
  · obtain ⟨k1, k2, k3, k4⟩ := h.regs q hq
    have hobj := (hg.block q.r (heap_lt k3) (fun e => h.r_ne hq hp (Option.some.inj e))).trans k3
    by_cases e : q = p
    · subst e
      exact ⟨k1, k2, hobj, k, D', hm, hk, hD⟩
    · obtain ⟨n9, D9, k5, k6, k7⟩ := k4
      refine ⟨k1, k2, hobj, n9, D9, k5.kept hg (fun e9 => e (h.m_inj hq hp (Option.some.inj e9))), by omega, ?_⟩
      rw [hoth q hq e]
      exact k7
theorem SAt.dropA (h : SAt w B g mc L s d) {p : Reg} (hp : p ∈ L) (u : ByteArray) (k : Nat) (D : DataW Unit) (hk : k ≤ d) (hD : ARel D (s.al.filter (ofC p.c.t p.c.n)))
    (hm : w'.ownsMap Try.prog 9 (plainElem Try.prog 25) p.m k (D.del (.string u.data.toList))) (hg : w.grownBy w' (some p.m)) : SAt w' B g mc L (s.dropA p.c.t u p.c.n) d := by
  refine h.turnA hp (Nat.le_refl d) (h.ok.dropA _ _ _) k _ hk ?_ (fun q hq hne => ?_) hm hg
  · have h1 := hD.drop (users_apart h.ok _ _) u
    rw [List.filter_filter] at h1 ⊢
    have e : (fun a : Co => !decide (a.u = u) && ofC p.c.t p.c.n a) = fun a => ofC p.c.t p.c.n a && !isA p.c.t u p.c.n a := by
      funext a
      unfold ofC isA
      by_cases h1 : a.t = p.c.t <;> by_cases h2 : a.n = p.c.n <;> by_cases h3 : a.u = u <;> simp [h1, h2, h3]
    rw [← e]
    exact h1
  · rw [List.filter_filter]
    congr 1
    funext a
    cases h3 : ofC q.c.t q.c.n a with
    | false => rfl
    | true =>
      obtain ⟨e1, e2⟩ := ofC_iff.1 h3
      have e3 : isA p.c.t u p.c.n a = false := by
        cases h4 : isA p.c.t u p.c.n a with
        | false => rfl
        | true =>
          obtain ⟨e5, _, e6⟩ := isA_iff.1 h4
          exact absurd (h.key_inj hq hp (by rw [← e1, ← e2, e5, e6])) hne
      rw [e3]
      rfl
theorem dropA_none (h : SAt w B g mc L s d) {t u n : ByteArray} (hf : fB L s t u n = none) : s.dropA t u n = s := by
  have h1 : ∀ a ∈ s.al, isA t u n a = false := fun a ha => by
    cases h4 : isA t u n a with
    | false => rfl
    | true =>
      obtain ⟨e1, e2, e3⟩ := isA_iff.1 h4
      obtain ⟨_, _, _, c, hc, e5, e6, _⟩ := h.ok.anames a ha
      rw [← h.cs] at hc
      obtain ⟨p, hp, rfl⟩ := List.mem_map.1 hc
      unfold fB at hf
      cases h5 : fC L t n with
      | none =>
        have := List.find?_eq_none.1 h5 p hp
        rw [isC_iff.2 ⟨e5.trans e1, e6.trans e3⟩] at this
        exact absurd rfl this
      | some p9 =>
        rw [h5] at hf
        cases h6 : fA s t u n with
        | none =>
          have := List.find?_eq_none.1 h6 a ha
          rw [h4] at this
          exact absurd rfl this
        | some a9 => rw [h6] at hf; cases hf
  show (⟨s.cs, s.al.filter fun a => !isA t u n a⟩ : GS) = s
  rw [List.filter_eq_self.2 (fun a ha => by rw [h1 a ha]; rfl)]
end
end Go.Proofs.Ytlkbojgemcjilaa
