/- YtlkbojgemcjilaaGreatDoorU12 + YtlkbojgemcjilaaGreatDoorU13 -/
import Derived.Test.YtlkbojgemcjilaaGreatDoorU8
import Derived.Deep.RegionHeld3
/- YtlkbojgemcjilaaGreatDoorU9 + YtlkbojgemcjilaaGreatDoorU10 + YtlkbojgemcjilaaGreatDoorU11 + YtlkbojgemcjilaaGreatDoorU12 -/
/- Grants: Drop, Withdraw, New. -/
namespace Go.Proofs.YtlkbojgemcjilaaGreatDoor
open Go.RowKit Go.Maps
set_option linter.unusedVariables false
set_option maxRecDepth 20000
theorem len_drop {α : Type} (p : α → Bool) : ∀ l : List α, (l.Pairwise fun a b => ¬ (p a = true ∧ p b = true)) → (l.filter fun a => !p a).length + (if l.any p = true then 1 else 0) = l.length
  | [], _ => rfl
  | a :: l, h => by
    obtain ⟨h1, h2⟩ := List.pairwise_cons.1 h
    have ih := len_drop p l h2
    cases hp : p a with
    | false =>
      simp only [List.filter_cons, hp, Bool.not_false, if_true, List.length_cons, List.any_cons, Bool.false_or]
      omega
    | true =>
      have hn : l.any p = false := by
        rw [List.any_eq_false]
        intro b hb e
        exact h1 b hb ⟨hp, e⟩
      rw [hn] at ih
      simp only [Bool.false_eq_true, if_false, Nat.add_zero] at ih
      simp only [List.filter_cons, hp, Bool.not_true, Bool.false_eq_true, if_false, List.length_cons, List.any_cons, Bool.true_or, if_true]
      omega
theorem isC_iff {t n : ByteArray} {c : Cl} : isC t n c = true ↔ c.t = t ∧ c.n = n := by unfold isC; exact decide_eq_true_iff
theorem CRel.drop {V : DataW Value} {L : List Reg} (h : CRel V L) (hz : ∀ p ∈ L, p.c.t.size ≤ maxLen ∧ p.c.n.size ≤ maxLen) (hk : L.Pairwise fun a b => ¬ (a.c.t = b.c.t ∧ a.c.n = b.c.n)) (t n : ByteArray) (ht : t.size ≤ maxLen) (hn : n.size ≤ maxLen) :
    CRel (V.del (keyP t n)) (L.filter fun p => !isC t n p.c) := by
  have hq : L.Pairwise fun a b => ¬ (isC t n a.c = true ∧ isC t n b.c = true) := hk.imp fun {a b} hne e => by
    obtain ⟨e1, e2⟩ := isC_iff.1 e.1
    obtain ⟨e3, e4⟩ := isC_iff.1 e.2
    exact hne ⟨e1.trans e3.symm, e2.trans e4.symm⟩
  refine ⟨h.tidy.del _, fun t' u' ht' hu' => ?_, fun p hp z => ?_, ?_⟩
  · by_cases e : (t', u') = (t, n)
    · obtain ⟨rfl, rfl⟩ := Prod.mk.inj e
      rw [has_del_same]
      symm
      rw [List.any_eq_false]
      intro p hp
      have := (List.mem_filter.1 hp).2
      simpa using this
    · rw [has_del_other (fun e' => e (keyP_inj ht' hu' ht hn e')), h.has _ _ ht' hu', List.any_filter]
      congr 1
      funext p
      cases h1 : isC t' u' p.c with
      | false => simp
      | true =>
        have h2 : isC t n p.c = false := by
          cases h3 : isC t n p.c with
          | false => rfl
          | true =>
            obtain ⟨e1, e2⟩ := isC_iff.1 h1
            obtain ⟨e3, e4⟩ := isC_iff.1 h3
            exact absurd (by rw [← e1, ← e2, e3, e4]) e
        simp [h2]
  · obtain ⟨h1, h2⟩ := List.mem_filter.1 hp
    obtain ⟨z1, z2⟩ := hz p h1
    have hne : keyP p.c.t p.c.n ≠ keyP t n := fun e => by
      obtain ⟨e1, e2⟩ := Prod.mk.inj (keyP_inj z1 z2 ht hn e)
      rw [isC_iff.2 ⟨e1, e2⟩] at h2
      cases h2
    rw [atKey_del_other hne, h.at' p h1]
  · have h1 := size_del (k := keyP t n) h.tidy
    rw [h.has t n ht hn, h.size] at h1
    have h2 := len_drop (fun p : Reg => isC t n p.c) L hq
    omega
theorem ARel.drop {D : DataW Unit} {l : List Co} (h : ARel D l) (hk : l.Pairwise fun a b => ¬ a.u = b.u) (u : ByteArray) :
    ARel (D.del (.string u.data.toList)) (l.filter fun a => !decide (a.u = u)) := by
  have hq : l.Pairwise fun a b => ¬ (decide (a.u = u) = true ∧ decide (b.u = u) = true) := hk.imp fun {a b} hne e => hne ((of_decide_eq_true e.1).trans (of_decide_eq_true e.2).symm)
  refine ⟨h.tidy.del _, fun v => ?_, fun a ha z => ?_, ?_⟩
  · by_cases e : v = u
    · subst e
      rw [has_del_same]
      symm
      rw [List.any_eq_false]
      intro p hp
      have := (List.mem_filter.1 hp).2
      simpa using this
    · rw [has_del_other (fun e' => e (str_inj e')), h.has, List.any_filter]
      congr 1
      funext a
      by_cases h1 : a.u = v
      · subst h1
        simp [e]
      · simp [h1]
  · obtain ⟨h1, h2⟩ := List.mem_filter.1 ha
    have hne : (Lit.string a.u.data.toList) ≠ .string u.data.toList := fun e => by
      rw [str_inj e] at h2
      simp at h2
    rw [atKey_del_other hne, h.at' a h1]
  · have h1 := size_del (k := .string u.data.toList) h.tidy
    rw [h.has, h.size] at h1
    have h2 := len_drop (fun a : Co => decide (a.u = u)) l hq
    omega
def GS.dropC (s : GS) (t n : ByteArray) : GS := ⟨s.cs.filter fun c => !isC t n c, s.al.filter fun a => !ofC t n a⟩
theorem ofC_iff {t n : ByteArray} {a : Co} : ofC t n a = true ↔ a.t = t ∧ a.n = n := by unfold ofC; exact decide_eq_true_iff
theorem GS.Ok.dropC {s : GS} (h : s.Ok) (t n : ByteArray) : (s.dropC t n).Ok := by
  refine ⟨fun c hc => h.names c (List.mem_filter.1 hc).1, h.keys.filter _, fun a ha => ?_, h.akeys.filter _⟩
  obtain ⟨h1, h2⟩ := List.mem_filter.1 ha
  obtain ⟨h3, h4, h5, c, hc, h6, h7, h8⟩ := h.anames a h1
  refine ⟨h3, h4, h5, c, List.mem_filter.2 ⟨hc, ?_⟩, h6, h7, h8⟩
  have e : isC t n c = ofC t n a := by unfold isC ofC; rw [h6, h7]
  rw [e]
  exact h2
section
variable {w w' : World} {B g mc d : Nat} {L : List Reg} {s : GS}
theorem RegIn.kept {p : Reg} {al : List Co} (h : RegIn w B p al d) {b : Nat} (hg : w.grownBy w' (some b)) (h1 : p.r ≠ b) (h2 : p.m ≠ b) : RegIn w' B p al d := by
  obtain ⟨k1, k2, k3, n, D, k4, k5⟩ := h
  exact ⟨k1, k2, (hg.block _ (heap_lt k3) (fun e => h1 (Option.some.inj e))).trans k3, n, D, k4.kept hg (fun e => h2 (Option.some.inj e)), k5⟩
theorem mapObj {H : Type} {k : TypeId} {R : Value → Option (DataW H × List MemPlace)} {b n : Nat} {D : DataW H} (h : w.ownsMap Tryz.prog k R b n D) : ∃ es clock, w.heap[b]? = some (.map es clock) := by
  obtain ⟨es, clock, hb, _⟩ := h
  exact ⟨es, clock, hb⟩
theorem cells_ne_map {H : Type} {k : TypeId} {R : Value → Option (DataW H × List MemPlace)} {b n r : Nat} {D : DataW H} (h : w.ownsMap Tryz.prog k R b n D) {cs : Array Value} {T : TypeId} {fr : Nat × Nat} (hr : w.heap[r]? = some (.cells cs T fr)) : r ≠ b := fun e => by
  obtain ⟨es, clock, hb⟩ := mapObj h
  rw [e, hb] at hr
  cases hr
theorem SAt.keysL (h : SAt w B g mc L s d) : L.Pairwise fun a b => ¬ (a.c.t = b.c.t ∧ a.c.n = b.c.n) := by
  have hk := h.ok.keys
  rw [← h.cs, List.pairwise_map] at hk
  exact hk
theorem SAt.m_ne (h : SAt w B g mc L s d) {p : Reg} (hp : p ∈ L) : p.m ≠ mc := fun e => (List.nodup_cons.1 h.ndm).1 (List.mem_map.2 ⟨p, hp, e⟩)
theorem SAt.dropC (h : SAt w B g mc L s d) (t n : ByteArray) (ht : t.size ≤ maxLen) (hn : n.size ≤ maxLen) (k : Nat) (V : DataW Value) (hk : k ≤ d) (hV : CRel V L) (hm : w'.ownsMap Tryz.prog 62 RV mc k (V.del (keyP t n))) (hm0 : w.ownsMap Tryz.prog 62 RV mc k V) (hg : w.grownBy w' (some mc)) :
    SAt w' B g mc (L.filter fun p => !isC t n p.c) (s.dropC t n) d := by
  have hsub : (L.filter fun p => !isC t n p.c).Sublist L := List.filter_sublist
  refine ⟨h.ok.dropC t n, ?_, ?_, ⟨k, _, hm, hk, hV.drop (fun p hp => ?_) h.keysL t n ht hn⟩, fun p hp => ?_, h.ndr.sublist (hsub.map _), h.ndm.sublist ((hsub.map _).cons_cons _), h.bg, h.bm⟩
  · unfold GS.dropC
    rw [← h.cs, List.filter_map]
    rfl
  · exact (hg.block g h.lt (fun e => cells_ne_map hm0 h.obj (Option.some.inj e))).trans h.obj
  · obtain ⟨z1, z2⟩ := h.sizes hp
    exact ⟨by unfold maxLen; omega, by unfold maxLen; omega⟩
  · obtain ⟨h1, h2⟩ := List.mem_filter.1 hp
    have hr := (h.regs p h1).kept hg (cells_ne_map hm0 (h.regs p h1).2.2.1) (h.m_ne h1)
    obtain ⟨k1, k2, k3, q, D, k4, k5, k6⟩ := hr
    refine ⟨k1, k2, k3, q, D, k4, k5, ?_⟩
    have e : (s.dropC t n).al.filter (ofC p.c.t p.c.n) = s.al.filter (ofC p.c.t p.c.n) := by
      unfold GS.dropC
      rw [List.filter_filter]
      congr 1
      funext a
      cases h3 : ofC p.c.t p.c.n a with
      | false => simp
      | true =>
        obtain ⟨e1, e2⟩ := ofC_iff.1 h3
        have e3 : ofC t n a = isC t n p.c := by unfold ofC isC; rw [e1, e2]
        rw [e3]
        simpa using h2
    rw [e]
    exact k6
theorem dropC_none (h : SAt w B g mc L s d) {t n : ByteArray} (hf : fC L t n = none) : (L.filter fun p => !isC t n p.c) = L ∧ s.dropC t n = s := by
  have h1 : ∀ p ∈ L, isC t n p.c = false := fun p hp => by
    have := List.find?_eq_none.1 hf p hp
    simpa using this
  have h2 : ∀ c ∈ s.cs, isC t n c = false := fun c hc => by
    rw [← h.cs] at hc
    obtain ⟨p, hp, rfl⟩ := List.mem_map.1 hc
    exact h1 p hp
  refine ⟨List.filter_eq_self.2 (fun p hp => by rw [h1 p hp]; rfl), ?_⟩
  unfold GS.dropC
  rw [List.filter_eq_self.2 (fun c hc => by rw [h2 c hc]; rfl), List.filter_eq_self.2 (fun a ha => by
    obtain ⟨_, _, _, c, hc, e1, e2, _⟩ := h.ok.anames a ha
    have e : ofC t n a = isC t n c := by unfold isC ofC; rw [e1, e2]
    rw [e, h2 c hc]
    rfl)]
set_option maxHeartbeats 4000000 in
theorem drop_any (h : SAt w B g mc L s d) (t n : ByteArray) (ht : t.size ≤ maxLen) (hn : n.size ≤ maxLen) :
    Calls Tryz.prog 25 #[.pointer (some ⟨g, 0, none⟩), .string t, .string n] w fun e w' => e = .returned (.int .i64 (noneE (fC L t n).isSome)) ∧ OutJ (MineU g mc L) w w' ∧ SAt w' B g mc (L.filter fun p => !isC t n p.c) (s.dropC t n) d := by
  have HF := hid (find_any h t n ht hn)
  have c0 := h.c0
  cases hf : fC L t n with
  | none =>
    rw [hf] at HF
    obtain ⟨e1, e2⟩ := dropC_none h hf
    rw [e1, e2]
    have H := hid h
    clear h hf e1 e2 c0
    go_enter Tryz.func25, Tryz.ntmps25
    go_wp2_with (go_at_call 52; refine HF.out.mono ?_; rintro _ w1 ⟨rfl, e1⟩; subst w1; unfold noneE; simp only [Option.isSome_none, Bool.false_eq_true, if_false])
    go_ret
    exact ⟨rfl, OutJ.of_below (Below.refl _ _), H.out⟩
  | some p =>
    rw [hf] at HF
    obtain ⟨k, V, hm, hk, hV⟩ := h.cm
    have H := hid h
    have HM := hid hm
    have HV := hid hV
    have Hk := hid hk
    have Hkl := hid (keyOf_place t n ht hn)
    have Ht := hid (And.intro ht hn)
    clear h hf hm hV hk
    go_enter Tryz.func25, Tryz.ntmps25
    go_wp2_with (first
      | (go_at_call 52; refine HF.out.mono ?_; rintro _ w1 ⟨rfl, e1⟩; subst w1; unfold noneE; simp only [Option.isSome_some, if_true])
      | (at_delete; refine wpList_delete_own _ rfl _ _ 47 62 rfl 63 lawPlace Tryz.underlying47 RV mc k V rfl HM.out _ _ rfl Hkl.out ?_; intro w2 hown2 ht2; have hg2 := ht2.grown; have HS := hid (H.out.dropC t n Ht.out.1 Ht.out.2 k V Hk.out HV.out hown2 HM.out hg2); have O2 := hid (OutJ.of_grown (P := MineU g mc L) hg2 (.inr (.inl rfl))); clear hown2 ht2 hg2))
    go_ret
    exact ⟨rfl, O2.out, HS.out⟩
end
end Go.Proofs.YtlkbojgemcjilaaGreatDoor

/- Grants: Withdraw. -/
namespace Go.Proofs.YtlkbojgemcjilaaGreatDoor
open Go.RowKit Go.Maps
set_option linter.unusedVariables false
set_option maxRecDepth 20000
theorem wp_deleteU {H : Type} {o : Oper} {a : Act} {w : World} {K : Act → World → Prop} {Q : Exit → Act → World → Prop} (m x : Operand) (t k : TypeId) (hop : o.op = Op.call { callee := Callee.builtin Builtin.delete, args := #[m, x], argTypes := #[t, k] })
    (e : TypeId) (KK : Keyed Tryz.prog k) (ht : Tryz.prog.underlying t = some (.map k e)) (R : Value → Option (DataW H × List MemPlace)) (b n : Nat) (D : DataW H)
    (hm : a.eval m = .map (some b)) (hown : w.ownsMap Tryz.prog k R b n D) (key : Value) (kl : Lit) (hx : a.eval x = key) (hkey : keyOf Tryz.prog k key = some kl)
    (hK : ∀ w', w'.ownsMap Tryz.prog k R b n (D.del kl) → w.mapTurned w' b → K (a.put o.dst (.tuple #[])) w') : o.wp Tryz.prog a w K Q := by
  obtain ⟨w', hrun, r1, r2⟩ := hown.drop KK ht hkey o.type
  unfold Oper.wp
  simp [execOp, hop, resolve, invoke, builtin, hm, hx, hrun, Result.andThen]
  exact hK w' r1 r2
theorem wp_putU {H : Type} {o : Oper} {a : Act} {w : World} {K : Act → World → Prop} {Q : Exit → Act → World → Prop} (m x v : Operand) (t : TypeId) (hop : o.op = Op.mapUpdate t m x v)
    (k e : TypeId) (KK : Keyed Tryz.prog k) (ht : Tryz.prog.underlying t = some (.map k e)) (R : Value → Option (DataW H × List MemPlace)) (b n : Nat) (D : DataW H)
    (hm : a.eval m = .map (some b)) (hown : w.ownsMap Tryz.prog k R b n D) (hn : n < maxLen) (key val : Value) (kl : Lit) (hx : a.eval x = key) (hv : a.eval v = val) (hkey : keyOf Tryz.prog k key = some kl)
    (d : DataW H) (ps : List MemPlace) (hval : R val = some (d, ps))
    (hK : ∀ w', w'.ownsMap Tryz.prog k R b (n + 1) (D.put kl d) → w.mapTurned w' b → K (a.put o.dst undef) w') : o.wp Tryz.prog a w K Q := by
  obtain ⟨w', hrun, r1, r2⟩ := hown.store KK ht hn hkey hval
  unfold Oper.wp
  simp [execOp, hop, hm, hx, hv, hrun, Result.andThen]
  exact hK w' r1 r2
def GS.dropA (s : GS) (t u n : ByteArray) : GS := ⟨s.cs, s.al.filter fun a => !isA t u n a⟩
theorem isA_iff {t u n : ByteArray} {a : Co} : isA t u n a = true ↔ a.t = t ∧ a.u = u ∧ a.n = n := by unfold isA; exact decide_eq_true_iff
theorem GS.Ok.dropA {s : GS} (h : s.Ok) (t u n : ByteArray) : (s.dropA t u n).Ok :=
  ⟨h.names, h.keys, fun a ha => h.anames a (List.mem_filter.1 ha).1, h.akeys.filter _⟩
section
variable {w w' : World} {B g mc d : Nat} {L : List Reg} {s : GS}
theorem SAt.r_ne (h : SAt w B g mc L s d) {p q : Reg} (hp : p ∈ L) (hq : q ∈ L) : p.r ≠ q.m := by
  obtain ⟨_, _, h3, _⟩ := h.regs p hp
  obtain ⟨_, _, _, n, D, h4, _⟩ := h.regs q hq
  exact cells_ne_map h4 h3
theorem SAt.m_inj (h : SAt w B g mc L s d) {p q : Reg} (hp : p ∈ L) (hq : q ∈ L) (e : p.m = q.m) : p = q := by
  have h1 := (List.nodup_cons.1 h.ndm).2
  unfold List.Nodup at h1
  rw [List.pairwise_map] at h1
  rcases Classical.em (p = q) with h9 | h9
  · exact h9
  · have : ∀ (l : List Reg), l.Pairwise (fun a b => a.m ≠ b.m) → p ∈ l → q ∈ l → False := fun l hl => by
      induction l with
      | nil => exact fun h _ => nomatch h
      | cons a l ih =>
        obtain ⟨h1, h2⟩ := List.pairwise_cons.1 hl
        intro hp hq
        rcases List.mem_cons.1 hp with rfl | hp' <;> rcases List.mem_cons.1 hq with rfl | hq'
        · exact h9 rfl
        · exact h1 q hq' e
        · exact h1 p hp' e.symm
        · exact ih h2 hp' hq'
    exact (this L h1 hp hq).elim
theorem users_apart (h : s.Ok) (t n : ByteArray) : (s.al.filter (ofC t n)).Pairwise fun a b => ¬ a.u = b.u := by
  have h1 := h.akeys.filter (ofC t n)
  exact h1.imp_of_mem fun {a b} ha hb hne e => by
    obtain ⟨e1, e2⟩ := ofC_iff.1 (List.mem_filter.1 ha).2
    obtain ⟨e3, e4⟩ := ofC_iff.1 (List.mem_filter.1 hb).2
    exact hne ⟨e1.trans e3.symm, e, e2.trans e4.symm⟩
/-- a store one of whose maps of consents has changed -/
theorem SAt.turnA (h : SAt w B g mc L s d) {p : Reg} (hp : p ∈ L) {al' : List Co} {d' : Nat} (hd : d ≤ d') (hok : (⟨s.cs, al'⟩ : GS).Ok) (k : Nat) (D' : DataW Unit) (hk : k ≤ d') (hD : ARel D' (al'.filter (ofC p.c.t p.c.n))) (hoth : ∀ q ∈ L, q ≠ p → al'.filter (ofC q.c.t q.c.n) = s.al.filter (ofC q.c.t q.c.n))
    (hm : w'.ownsMap Tryz.prog 9 (plainElem Tryz.prog 31) p.m k D') (hg : w.grownBy w' (some p.m)) : SAt w' B g mc L ⟨s.cs, al'⟩ d' := by
  obtain ⟨_, _, _, n0, D0, hm0, _⟩ := h.regs p hp
  obtain ⟨n, V, h1, h2, h3⟩ := h.cm
  refine ⟨hok, h.cs, ?_, ⟨n, V, h1.kept hg (fun e => h.m_ne hp (Option.some.inj e).symm), by omega, h3⟩, fun q hq => ?_, h.ndr, h.ndm, h.bg, h.bm⟩
  · exact (hg.block g h.lt (fun e => cells_ne_map hm0 h.obj (Option.some.inj e))).trans h.obj
  · obtain ⟨k1, k2, k3, k4⟩ := h.regs q hq
    have hobj := (hg.block q.r (heap_lt k3) (fun e => h.r_ne hq hp (Option.some.inj e))).trans k3
    by_cases e : q = p
    · subst e
      exact ⟨k1, k2, hobj, k, D', hm, hk, hD⟩
    · obtain ⟨n9, D9, k5, k6, k7⟩ := k4
      refine ⟨k1, k2, hobj, n9, D9, k5.kept hg (fun e9 => e (h.m_inj hq hp (Option.some.inj e9))), by omega, ?_⟩
      rw [hoth q hq e]
      exact k7
theorem SAt.dropA (h : SAt w B g mc L s d) {p : Reg} (hp : p ∈ L) (u : ByteArray) (k : Nat) (D : DataW Unit) (hk : k ≤ d) (hD : ARel D (s.al.filter (ofC p.c.t p.c.n)))
    (hm : w'.ownsMap Tryz.prog 9 (plainElem Tryz.prog 31) p.m k (D.del (.string u.data.toList))) (hg : w.grownBy w' (some p.m)) : SAt w' B g mc L (s.dropA p.c.t u p.c.n) d := by
  refine h.turnA hp (Nat.le_refl d) (h.ok.dropA _ _ _) k _ hk ?_ (fun q hq hne => ?_) hm hg
  · have h1 := hD.drop (users_apart h.ok _ _) u
    rw [List.filter_filter] at h1 ⊢
    have e : (fun a : Co => !decide (a.u = u) && ofC p.c.t p.c.n a) = fun a => ofC p.c.t p.c.n a && !isA p.c.t u p.c.n a := by
      funext a
      unfold ofC isA
      by_cases h1 : a.t = p.c.t <;> by_cases h2 : a.n = p.c.n <;> by_cases h3 : a.u = u <;> simp [h1, h2, h3]
    rw [← e]
    exact h1
  · rw [List.filter_filter]
    congr 1
    funext a
    cases h3 : ofC q.c.t q.c.n a with
    | false => rfl
    | true =>
      obtain ⟨e1, e2⟩ := ofC_iff.1 h3
      have e3 : isA p.c.t u p.c.n a = false := by
        cases h4 : isA p.c.t u p.c.n a with
        | false => rfl
        | true =>
          obtain ⟨e5, _, e6⟩ := isA_iff.1 h4
          exact absurd (h.key_inj hq hp (by rw [← e1, ← e2, e5, e6])) hne
      rw [e3]
      rfl
theorem dropA_none (h : SAt w B g mc L s d) {t u n : ByteArray} (hf : fB L s t u n = none) : s.dropA t u n = s := by
  have h1 : ∀ a ∈ s.al, isA t u n a = false := fun a ha => by
    cases h4 : isA t u n a with
    | false => rfl
    | true =>
      obtain ⟨e1, e2, e3⟩ := isA_iff.1 h4
      obtain ⟨_, _, _, c, hc, e5, e6, _⟩ := h.ok.anames a ha
      rw [← h.cs] at hc
      obtain ⟨p, hp, rfl⟩ := List.mem_map.1 hc
      unfold fB at hf
      cases h5 : fC L t n with
      | none =>
        have := List.find?_eq_none.1 h5 p hp
        rw [isC_iff.2 ⟨e5.trans e1, e6.trans e3⟩] at this
        exact absurd rfl this
      | some p9 =>
        rw [h5] at hf
        cases h6 : fA s t u n with
        | none =>
          have := List.find?_eq_none.1 h6 a ha
          rw [h4] at this
          exact absurd rfl this
        | some a9 => rw [h6] at hf; cases hf
  show (⟨s.cs, s.al.filter fun a => !isA t u n a⟩ : GS) = s
  rw [List.filter_eq_self.2 (fun a ha => by rw [h1 a ha]; rfl)]
end
end Go.Proofs.YtlkbojgemcjilaaGreatDoor

/- Grants: Withdraw, the walk. -/
namespace Go.Proofs.YtlkbojgemcjilaaGreatDoor
open Go.RowKit Go.Maps
set_option linter.unusedVariables false
set_option maxRecDepth 20000
section
variable {w : World} {B g mc d : Nat} {L : List Reg} {s : GS}
set_option maxHeartbeats 4000000 in
theorem withdraw_any (h : SAt w B g mc L s d) (t u n : ByteArray) (ht : t.size ≤ maxLen) (hu : u.size ≤ maxLen) (hn : n.size ≤ maxLen) :
    Calls Tryz.prog 28 #[.pointer (some ⟨g, 0, none⟩), .agg #[.string t, .string u], .string n] w fun e w' => e = .returned (.int .i64 (noneE (fB L s t u n).isSome)) ∧ OutJ (MineU g mc L) w w' ∧ SAt w' B g mc L (s.dropA t u n) d := by
  obtain ⟨W, hW⟩ : ∃ W, W = w.alloc (.cells #[.string t, .string u] 30) := ⟨_, rfl⟩
  have b0 : Below w.heap.size w W := by rw [hW]; exact (Below.refl _ w).alloc (Nat.le_refl _) _
  have x0 : W.heap[w.heap.size]? = some (.cells #[.string t, .string u] 30 (0, 0)) := by rw [hW]; exact heap_allocN w _
  have o0 : W.cell? ⟨w.heap.size, 0, none⟩ = some (.string t) := (cell_of_rowU _ _ 0 _ _ _ x0).trans rfl
  have o1 : W.cell? ⟨w.heap.size, 1, none⟩ = some (.string u) := (cell_of_rowU _ _ 1 _ _ _ x0).trans rfl
  have h0 := h.below b0
  have HF := hid (findConsent_any h0 t u n ht hu hn)
  have HW := hid hW.symm
  have B0 := hid b0
  cases hf : fB L s t u n with
  | none =>
    rw [hf] at HF
    have e1 := dropA_none h hf
    rw [e1]
    have H := hid h
    clear h h0 hW b0 x0 hf e1
    go_enter Tryz.func28, Tryz.ntmps28
    go_wp2_with (go_at_call 56; rw [HW.out]; refine HF.out.mono ?_; rintro _ w1 ⟨rfl, b1⟩; have B1 := hid (Below.on' B0.out b1); clear b1; unfold noneE; simp only [Option.isSome_none, Bool.false_eq_true, if_false])
    go_ret
    exact ⟨rfl, OutJ.of_below B1.out, H.out.below B1.out⟩
  | some q =>
    rw [hf] at HF
    obtain ⟨hp, rfl, rfl, _, _, rfl, _⟩ := fB_some hf
    obtain ⟨p, co⟩ := q
    simp only [Option.map_some, Option.getD_some, Option.isSome_some] at HF hp ht hn ⊢
    have H0 := hid h0
    have Hp := hid hp
    have HU := hid (fun (V : World) (hV : Below W.heap.size W V) => (hV.block _ (heap_lt x0)).trans x0)
    have Hkl := hid (Go.WideMaps.keyOf_string_mk Tryz.underlying9 (s := co.u) hu)
    clear h h0 hW b0 x0 hf hp
    go_enter Tryz.func28, Tryz.ntmps28
    go_wp2_with (go_at_call 56; rw [HW.out]; refine HF.out.mono ?_; rintro _ w1 ⟨rfl, b1⟩; have B1 := hid (Below.on' B0.out b1); have BW := hid b1; clear b1; unfold noneE; simp only [if_true])
    have H1 := hid ((H0.out.below BW.out).below (below_dN w1.heap.size w1 1))
    have x1 := HU.out _ BW.out
    have q1 : w1.cell? ⟨w.heap.size, 1, none⟩ = some (.string co.u) := (cell_of_rowU _ _ 1 _ _ _ x1).trans rfl
    obtain ⟨r0, r1, r2⟩ := ((H0.out.below BW.out).regs p Hp.out).c
    obtain ⟨_, _, _, k, D, hm, hk, hD⟩ := H1.out.regs p Hp.out
    obtain ⟨w2, hrun, hown2, ht2⟩ := hm.drop lawStr Tryz.underlying64 Hkl.out 0
    have hg2 := ht2.grown
    have q2 : w2.cell? ⟨w.heap.size, 1, none⟩ = some (.string co.u) := (cell_of_rowU _ _ 1 _ _ _ ((hg2.block w.heap.size (heap_lt x1) (fun e => cells_ne_map hm x1 (Option.some.inj e))).trans x1)).trans rfl
    have hS := H1.out.dropA Hp.out co.u k D hk hD hown2 hg2
    have r3 := (hS.regs p Hp.out).c.2.2
    have H2 := hid hS
    have O2 := hid (OutJ.of_grown (P := MineU g mc L) hg2 (.inr (.inr ⟨p, Hp.out, .inr rfl⟩)))
    have hrun' : (Builtin.delete_ #[64, 9] 0 #[Value.map (some p.m), Value.string co.u]).run Tryz.prog w1.drew = .ok (.tuple #[]) w2 := hrun
    clear r0 r1 hm hk hD hg2 ht2 hown2 hrun x1 hS
    go_region_held3 (fun w9 => w9.cell? ⟨w.heap.size, 1, none⟩ = some (.string co.u) ∧ w9.cell? ⟨p.r, 2, none⟩ = some (.map (some p.m)))
      (first
        | exact ⟨q1, r2⟩
        | exact ⟨q2, r3⟩)
      (fail)
    go_wp2
    go_ret
    exact ⟨rfl, (OutJ.of_below (B1.out.trans (below_dN _ _ 1))).trans O2.out, H2.out⟩
end
end Go.Proofs.YtlkbojgemcjilaaGreatDoor

/- Grants: New; a store with a client more. -/
namespace Go.Proofs.YtlkbojgemcjilaaGreatDoor
open Go.RowKit Go.Maps
set_option linter.unusedVariables false
set_option maxRecDepth 20000
theorem CRel.put {V : DataW Value} {L : List Reg} (h : CRel V L) (hz : ∀ p ∈ L, p.c.t.size ≤ maxLen ∧ p.c.n.size ≤ maxLen) (c : Cl) (ht : c.t.size ≤ maxLen) (hn : c.n.size ≤ maxLen) (hf : fC L c.t c.n = none) (r m : Nat) :
    CRel (V.put (keyP c.t c.n) (.held (.pointer (some ⟨r, 0, none⟩)))) (L ++ [⟨c, r, m⟩]) := by
  have hno : ∀ p ∈ L, isC c.t c.n p.c = false := fun p hp => by
    have := List.find?_eq_none.1 hf p hp
    simpa using this
  refine ⟨h.tidy.put (keyP_lit _ _) _, fun t' u' ht' hu' => ?_, fun p hp z => ?_, ?_⟩
  · rw [List.any_append, List.any_cons, List.any_nil, Bool.or_false]
    by_cases e : (t', u') = (c.t, c.n)
    · obtain ⟨rfl, rfl⟩ := Prod.mk.inj e
      rw [has_put_same h.tidy.isMap (keyP_lit _ _), isC_iff.2 ⟨rfl, rfl⟩, Bool.or_true]
    · rw [has_put_other (fun e' => e (keyP_inj ht' hu' ht hn e')), h.has _ _ ht' hu']
      have h1 : isC t' u' c = false := by
        cases h3 : isC t' u' c with
        | false => rfl
        | true =>
          obtain ⟨e1, e2⟩ := isC_iff.1 h3
          exact absurd (by rw [e1, e2]) e
      rw [h1, Bool.or_false]
  · rcases List.mem_append.1 hp with hp | hp
    · obtain ⟨z1, z2⟩ := hz p hp
      have hne : keyP p.c.t p.c.n ≠ keyP c.t c.n := fun e => by
        obtain ⟨e1, e2⟩ := Prod.mk.inj (keyP_inj z1 z2 ht hn e)
        have := hno p hp
        rw [isC_iff.2 ⟨e1, e2⟩] at this
        cases this
      rw [atKey_put_other hne, h.at' p hp]
    · obtain rfl := List.mem_singleton.1 hp
      rw [atKey_put_same h.tidy.isMap (keyP_lit _ _)]
  · rw [size_put h.tidy, h.has _ _ ht hn, h.size, List.length_append]
    have : (L.any fun p => isC c.t c.n p.c) = false := by
      rw [List.any_eq_false]
      intro p hp
      rw [hno p hp]
      decide
    rw [this]
    rfl
def GS.addC (s : GS) (c : Cl) : GS := ⟨s.cs ++ [c], s.al⟩
theorem fC_none_cs {w : World} {B g mc d : Nat} {L : List Reg} {s : GS} (h : SAt w B g mc L s d) {t n : ByteArray} (hf : fC L t n = none) : ∀ c ∈ s.cs, ¬ (c.t = t ∧ c.n = n) := fun c hc e => by
  rw [← h.cs] at hc
  obtain ⟨p, hp, rfl⟩ := List.mem_map.1 hc
  have := List.find?_eq_none.1 hf p hp
  rw [isC_iff.2 e] at this
  exact absurd rfl this
theorem GS.Ok.addC {s : GS} (h : s.Ok) (c : Cl) (h1 : okN c.t = true) (h2 : okN c.n = true) (h3 : c.r.size ≤ 24) (h4 : c.sc ≤ 255) (h5 : ∀ x ∈ s.cs, ¬ (x.t = c.t ∧ x.n = c.n)) : (s.addC c).Ok := by
  refine ⟨fun x hx => ?_, ?_, fun a ha => ?_, h.akeys⟩
  · rcases List.mem_append.1 hx with hx | hx
    · exact h.names x hx
    · obtain rfl := List.mem_singleton.1 hx
      exact ⟨h1, h2, h3, h4⟩
  · refine List.pairwise_append.2 ⟨h.keys, List.pairwise_singleton _ _, fun a ha b hb => ?_⟩
    obtain rfl := List.mem_singleton.1 hb
    exact h5 a ha
  · obtain ⟨a1, a2, a3, x, hx, a4⟩ := h.anames a ha
    exact ⟨a1, a2, a3, x, List.mem_append_left _ hx, a4⟩
section
variable {w w' : World} {B g mc d : Nat} {L : List Reg} {s : GS}
theorem map_new_ne {H : Type} {k : TypeId} {R : Value → Option (DataW H × List MemPlace)} {b n : Nat} {D : DataW H} (h : w.ownsMap Tryz.prog k R b n D) : b < w.heap.size := by
  obtain ⟨es, clock, hb⟩ := mapObj h
  exact heap_lt hb
/-- a client more: its block and its map lie behind, and the map of clients has been turned -/
theorem SAt.addC {w1 : World} (h : SAt w B g mc L s d) (c : Cl) (hok : (s.addC c).Ok) (hf : fC L c.t c.n = none) (r m k : Nat) (V : DataW Value) (hk : k + 1 ≤ d + 1) (hV : CRel V L) (hb : Below w.heap.size w w1)
    (hm0 : w1.ownsMap Tryz.prog 62 RV mc k V) (hm : w'.ownsMap Tryz.prog 62 RV mc (k + 1) (V.put (keyP c.t c.n) (.held (.pointer (some ⟨r, 0, none⟩))))) (hg : w1.grownBy w' (some mc))
    (hr : w1.heap[r]? = some (.cells #[.string c.r, .int .u8 (c.sc : Int), .map (some m)] 66 (0, 0))) (hmm : w1.ownsMap Tryz.prog 9 (plainElem Tryz.prog 31) m 0 (.map [] : DataW Unit)) (hrw : w.heap.size ≤ r) (hmw : w.heap.size ≤ m) (hB : B ≤ w.heap.size) :
    SAt w' B g mc (L ++ [⟨c, r, m⟩]) (s.addC c) (d + 1) := by
  have h1 := h.below hb
  have hmc : mc < w.heap.size := by
    obtain ⟨_, _, h9, _⟩ := h.cm
    exact map_new_ne h9
  have hall : ∀ p ∈ L, p.r < w.heap.size ∧ p.m < w.heap.size := fun p hp => by
    obtain ⟨_, _, h3, _, _, h4, _⟩ := h.regs p hp
    exact ⟨heap_lt h3, map_new_ne h4⟩
  have hok1 := hok.names c (List.mem_append_right _ (List.mem_singleton.2 rfl))
  have hs1 := okN_len hok1.1
  have hs2 := okN_len hok1.2.1
  refine ⟨hok, ?_, ?_, ⟨k + 1, _, hm, hk, hV.put (fun p hp => ?_) c (by unfold maxLen; omega) (by unfold maxLen; omega) hf r m⟩, fun p hp => ?_, ?_, ?_, h.bg, h.bm⟩
  · rw [List.map_append, h.cs]
    rfl
  · exact (hg.block g h1.lt (fun e => cells_ne_map hm0 h1.obj (Option.some.inj e))).trans h1.obj
  · obtain ⟨z1, z2⟩ := h.sizes hp
    exact ⟨by unfold maxLen; omega, by unfold maxLen; omega⟩
  · rcases List.mem_append.1 hp with hp | hp
    · obtain ⟨k1, k2, k3, n9, D9, k4, k5, k6⟩ := (h1.regs p hp).kept hg (cells_ne_map hm0 (h1.regs p hp).2.2.1) (h.m_ne hp)
      exact ⟨k1, k2, k3, n9, D9, k4, by omega, k6⟩
    · obtain rfl := List.mem_singleton.1 hp
      refine ⟨by show B ≤ r; omega, by show B ≤ m; omega, ?_, 0, .map [], hmm.kept hg (fun e => ?_), by omega, ?_⟩
      · exact (hg.block r (heap_lt hr) (fun e => cells_ne_map hm0 hr (Option.some.inj e))).trans hr
      · have := Option.some.inj e
        omega
      · have he : (s.addC c).al.filter (ofC c.t c.n) = [] := by
          rw [List.filter_eq_nil_iff]
          intro a ha h9
          obtain ⟨e1, e2⟩ := ofC_iff.1 h9
          obtain ⟨_, _, _, x, hx, e3, e4, _⟩ := h.ok.anames a ha
          exact fC_none_cs h hf x hx ⟨e3.trans e1, e4.trans e2⟩
        show ARel (.map []) ((s.addC c).al.filter (ofC c.t c.n))
        rw [he]
        exact ⟨tidy_empty, fun _ => rfl, (fun a ha => nomatch ha), rfl⟩
  · rw [List.map_append]
    refine List.nodup_append.2 ⟨h.ndr, by simp, fun a ha b hb e => ?_⟩
    obtain ⟨p, hp, rfl⟩ := List.mem_map.1 ha
    simp at hb
    have := (hall p hp).1
    omega
  · rw [List.map_append, ← List.cons_append]
    refine List.nodup_append.2 ⟨h.ndm, by simp, fun a ha b hb e => ?_⟩
    simp at hb
    rcases List.mem_cons.1 ha with rfl | ha
    · omega
    · obtain ⟨p, hp, rfl⟩ := List.mem_map.1 ha
      have := (hall p hp).2
      omega
end
end Go.Proofs.YtlkbojgemcjilaaGreatDoor

/- Grants: New, Register. -/
namespace Go.Proofs.YtlkbojgemcjilaaGreatDoor
open Go.RowKit Go.Maps
set_option linter.unusedVariables false
set_option maxRecDepth 20000
theorem empty_ok : (⟨[], []⟩ : GS).Ok := ⟨(fun _ h => nomatch h), List.Pairwise.nil, (fun _ h => nomatch h), List.Pairwise.nil⟩
theorem new_made (w : World) (B : Nat) (hB : B ≤ w.heap.size) : SAt ((w.alloc (.map #[] 0)).alloc (.cells #[.map (some w.heap.size)] 49)) B (w.heap.size + 1) w.heap.size [] ⟨[], []⟩ 0 := by
  have hsz : (w.alloc (.map #[] 0)).heap.size = w.heap.size + 1 := by simp
  refine ⟨empty_ok, rfl, ?_, ⟨0, .map [], (World.ownsMap_made w Tryz.prog 62 RV).alloc _, Nat.le_refl _, ⟨tidy_empty, fun _ _ _ _ => rfl, (fun p hp => nomatch hp), rfl⟩⟩, (fun p hp => nomatch hp), List.nodup_nil, by simp, by omega, hB⟩
  rw [← hsz]
  exact heap_allocN _ _
theorem new_any (w : World) (B : Nat) (hB : B ≤ w.heap.size) :
    Calls Tryz.prog 6 #[] w fun e w' => ∃ g mc, e = .returned (.pointer (some ⟨g, 0, none⟩)) ∧ w.heap.size ≤ g ∧ w.heap.size ≤ mc ∧ Below w.heap.size w w' ∧ SAt w' B g mc [] ⟨[], []⟩ 0 := by
  have hmm := @run_makeMap Tryz.prog
  go_enter Tryz.func6, Tryz.ntmps6
  go_wp2
  go_ret
  exact ⟨_, _, rfl, by simp, Nat.le_refl _, ((Below.refl _ w).alloc (Nat.le_refl _) _).alloc (by simp) _, by have := new_made w B hB; simpa using this⟩
section
variable {w : World} {B g mc d : Nat} {L : List Reg} {s : GS}
theorem RegIn.mono {p : Reg} {al : List Co} {d' : Nat} (h : RegIn w B p al d) (hd : d ≤ d') : RegIn w B p al d' := by
  obtain ⟨h1, h2, h3, n, D, h4, h5, h6⟩ := h
  exact ⟨h1, h2, h3, n, D, h4, Nat.le_trans h5 hd, h6⟩
theorem SAt.mono {d' : Nat} (h : SAt w B g mc L s d) (hd : d ≤ d') : SAt w B g mc L s d' := by
  obtain ⟨n, V, h1, h2, h3⟩ := h.cm
  exact ⟨h.ok, h.cs, h.obj, ⟨n, V, h1, Nat.le_trans h2 hd, h3⟩, fun p hp => (h.regs p hp).mono hd, h.ndr, h.ndm, h.bg, h.bm⟩
def regS (L : List Reg) (s : GS) (c : Cl) : GS := if regE L c = 0 then s.addC c else s
theorem regE_zero {c : Cl} (h : regE L c = 0) : okN c.t = true ∧ okN c.n = true ∧ c.r.size ≤ 24 ∧ fC L c.t c.n = none := by
  unfold regE at h
  by_cases h1 : (okN c.t && okN c.n) = false
  · rw [if_pos h1] at h; cases h
  · rw [if_neg h1] at h
    by_cases h2 : 24 < c.r.size
    · rw [if_pos h2] at h; cases h
    · rw [if_neg h2] at h
      by_cases h3 : (fC L c.t c.n).isSome = true
      · rw [if_pos h3] at h; cases h
      · simp at h1 h3
        exact ⟨h1.1, h1.2, by omega, h3⟩
set_option maxHeartbeats 4000000 in
theorem register_any (h : SAt w B g mc L s d) (hd : d ≤ 17592186044415) (hl9 : L.length ≤ 100000) (hB : B ≤ w.heap.size) (c : Cl) (hc : ClIn c) :
    Calls Tryz.prog 19 #[.pointer (some ⟨g, 0, none⟩), .agg (clC c)] w fun e w' => ∃ L', e = .returned (.int .i64 (regE L c : Nat)) ∧ OutJ (MineU g mc L) w w' ∧ SAt w' B g mc L' (regS L s c) (d + 1) ∧ (∀ k, MineU g mc L' k → MineU g mc L k ∨ w.heap.size ≤ k) := by
  have hmm := @run_makeMap Tryz.prog
  obtain ⟨W, hW⟩ : ∃ W, W = w.alloc (.cells (clC c) 56) := ⟨_, rfl⟩
  have b0 : Below w.heap.size w W := by rw [hW]; exact (Below.refl _ w).alloc (Nat.le_refl _) _
  have x0 : W.heap[w.heap.size]? = some (.cells (clC c) 56 (0, 0)) := by rw [hW]; exact heap_allocN w _
  have h0 := h.below b0
  have HF := hid (registerError_any h0 (by omega) hl9 c hc)
  have HW := hid hW.symm
  have B0 := hid b0
  have H := hid h
  have H0 := hid h0
  have X0 := hid x0
  have y0 : W.cell? ⟨w.heap.size, 0, none⟩ = some (.string c.t) := (cell_of_rowU _ _ 0 _ _ _ x0).trans rfl
  have y1 : W.cell? ⟨w.heap.size, 1, none⟩ = some (.string c.n) := (cell_of_rowU _ _ 1 _ _ _ x0).trans rfl
  have y2 : W.cell? ⟨w.heap.size, 2, none⟩ = some (.string c.r) := (cell_of_rowU _ _ 2 _ _ _ x0).trans rfl
  have y3 : W.cell? ⟨w.heap.size, 3, none⟩ = some (.int .u8 (c.sc : Int)) := (cell_of_rowU _ _ 3 _ _ _ x0).trans rfl
  have HL := hid (And.intro hd (And.intro hB hc))
  unfold regS
  cases hE : regE L c with
  | succ e9 =>
    rw [hE] at HF
    have d1 : (((e9 + 1 : Nat) : Int) == 0) = false := by simp; omega
    obtain ⟨E, hEE⟩ : ∃ E : Int, E = ((e9 + 1 : Nat) : Int) := ⟨_, rfl⟩
    rw [← hEE] at HF d1 ⊢
    rw [if_neg (by omega)]
    clear h h0 hW b0 x0 hE hc hd hB hl9 hEE
    unfold clC at HW HF ⊢
    rw [← HW.out] at y0 y1 y2 y3
    go_enter Tryz.func19, Tryz.ntmps19
    go_wp2_with (go_at_call 53; rw [HW.out]; refine HF.out.mono ?_; rintro _ w1 ⟨rfl, b1⟩; have B1 := hid (Below.on' B0.out b1); clear b1)
    go_ret
    exact ⟨L, rfl, OutJ.of_below B1.out, ((H.out.below B1.out).mono (Nat.le_succ d)), fun k hk => .inl hk⟩
  | zero =>
    rw [hE] at HF
    rw [if_pos rfl]
    obtain ⟨z1, z2, z3, z4⟩ := regE_zero hE
    have HZ := hid (And.intro z1 (And.intro z2 (And.intro z3 z4)))
    have HX := hid (fun (V : World) (hV : Below W.heap.size W V) => (hV.block _ (heap_lt x0)).trans x0)
    have HP := hid (fun (V : World) (hV : V.heap[w.heap.size]? = some (.cells (clC c) 56 (0, 0))) => (show V.cell? ⟨w.heap.size, 0, none⟩ = some (.string c.t) ∧ V.cell? ⟨w.heap.size, 1, none⟩ = some (.string c.n) ∧ V.cell? ⟨w.heap.size, 2, none⟩ = some (.string c.r) ∧ V.cell? ⟨w.heap.size, 3, none⟩ = some (.int .u8 (c.sc : Int)) from
      ⟨(cell_of_rowU _ _ 0 _ _ _ hV).trans rfl, (cell_of_rowU _ _ 1 _ _ _ hV).trans rfl, (cell_of_rowU _ _ 2 _ _ _ hV).trans rfl, (cell_of_rowU _ _ 3 _ _ _ hV).trans rfl⟩))
    clear h h0 hW b0 x0 hE hc hd hB hl9 z1 z2 z3 z4
    unfold clC at HW HF ⊢
    rw [← HW.out] at y0 y1 y2 y3
    go_enter Tryz.func19, Tryz.ntmps19
    go_wp2_with (go_at_call 53; rw [HW.out]; refine HF.out.mono ?_; rintro _ w1 ⟨rfl, b1⟩; have BW := hid b1; have B1 := hid (Below.on' B0.out b1); clear b1)
    clear y0 y1 y2 y3
    obtain ⟨M, hM⟩ : ∃ M, M = w1.drew.alloc (.map #[] 0) := ⟨_, rfl⟩
    obtain ⟨N, hN⟩ : ∃ N, N = M.alloc (.cells #[.string c.r, .int .u8 (c.sc : Int), .map (some w1.drew.heap.size)] 66) := ⟨_, rfl⟩
    have sM : M.heap.size = w1.drew.heap.size + 1 := by rw [hM]; simp
    have s1 : w1.drew.heap.size = w1.heap.size := rfl
    have bA : Below W.heap.size W w1.drew := Below.on' BW.out (below_dN w1.heap.size w1 1)
    have bM : Below w1.drew.heap.size w1.drew M := by rw [hM]; exact (Below.refl _ _).alloc (Nat.le_refl _) _
    have bN : Below M.heap.size M N := by rw [hN]; exact (Below.refl _ _).alloc (Nat.le_refl _) _
    have bM' := Below.on' bA bM
    have bN' := Below.on' bM' bN
    have hmM : M.ownsMap Tryz.prog 9 (plainElem Tryz.prog 31) w1.drew.heap.size 0 (.map [] : DataW Unit) := by rw [hM]; exact World.ownsMap_made w1.drew Tryz.prog 9 _
    have hmN : N.ownsMap Tryz.prog 9 (plainElem Tryz.prog 31) w1.drew.heap.size 0 (.map [] : DataW Unit) := by rw [hN]; exact hmM.alloc _
    have hrN : N.heap[M.heap.size]? = some (.cells #[.string c.r, .int .u8 (c.sc : Int), .map (some w1.drew.heap.size)] 66 (0, 0)) := by rw [hN]; exact heap_allocN _ _
    have HNs := H0.out.below bN'
    obtain ⟨k, V, hm, hk, hV⟩ := HNs.cm
    have hsz := HL.out.2.2
    obtain ⟨w2, hrun, hown2, ht2⟩ := hm.store (key := .agg #[.string c.t, .string c.n]) (val := .pointer (some ⟨M.heap.size, 0, none⟩)) (d := .held (.pointer (some ⟨M.heap.size, 0, none⟩))) (ps := []) lawPlace Tryz.underlying47 (by have := HL.out.1; unfold maxLen; omega) (keyOf_place c.t c.n (by have := hsz.t; unfold maxLen; omega) (by have := hsz.n; unfold maxLen; omega)) rfl
    have hg2 := ht2.grown
    have hS := H0.out.addC c (H0.out.ok.addC c HZ.out.1 HZ.out.2.1 HZ.out.2.2.1 hsz.sc (fC_none_cs H0.out HZ.out.2.2.2)) HZ.out.2.2.2 M.heap.size w1.drew.heap.size k V (by omega) hV bN' hm hown2 hg2 hrN hmN (by have := bM'.size; omega) (by have := bA.size; omega) (by have := B0.out.size; have := HL.out.2.1; omega)
    have xN := HX.out N bN'
    have x2 := (hg2.block w.heap.size (heap_lt xN) (fun e => cells_ne_map hm xN (Option.some.inj e))).trans xN
    obtain ⟨a0, a1, a2, a3⟩ := HP.out _ (HX.out _ bA)
    obtain ⟨m0, m1, m2, m3⟩ := HP.out _ (HX.out _ bM')
    obtain ⟨n0, n1, n2, n3⟩ := HP.out _ xN
    obtain ⟨p0, p1, p2, p3⟩ := HP.out _ x2
    have a4 := (H0.out.below bA).c0
    have m4 := (H0.out.below bM').c0
    have n4 := HNs.c0
    have p4 := hS.c0
    have H2 := hid hS
    have O2 := hid ((OutJ.of_below (P := MineU g mc L) (Below.on' B0.out bN')).trans (OutJ.of_grown (P := MineU g mc L) hg2 (.inr (.inl rfl))))
    have HM9 : Hid (w.heap.size ≤ M.heap.size ∧ w.heap.size ≤ w1.drew.heap.size) := ⟨by have := bM'.size; have := B0.out.size; omega, by have := bA.size; have := B0.out.size; omega⟩
    rw [hN] at hrun n0 n1 n2 n3 n4
    rw [sM] at hrun
    rw [hM] at hrun n0 n1 n2 n3 n4 m0 m1 m2 m3 m4
    have hrun' : (Instr.mapUpdate 47 (.map (some mc)) (.agg #[.string c.t, .string c.n]) (.pointer (some ⟨w1.heap.size + 1, 0, none⟩))).run Tryz.prog ((w1.alloc (.map #[] 0)).alloc (.cells #[.string c.r, .int .u8 (c.sc : Int), .map (some w1.heap.size)] 66)).drew = .ok () w2 := hrun
    clear hrun
    clear sM s1 bA bM bN bM' bN' hmM hmN hrN HNs hm hk hV hsz hown2 ht2 hg2 hS xN x2
    go_region_held3 (fun w9 => w9.cell? ⟨w.heap.size, 0, none⟩ = some (.string c.t) ∧ w9.cell? ⟨w.heap.size, 1, none⟩ = some (.string c.n) ∧ w9.cell? ⟨w.heap.size, 2, none⟩ = some (.string c.r) ∧ w9.cell? ⟨w.heap.size, 3, none⟩ = some (.int .u8 (c.sc : Int)) ∧ w9.cell? ⟨g, 0, none⟩ = some (.map (some mc)))
      (first
        | exact ⟨a0, a1, a2, a3, a4⟩
        | exact ⟨m0, m1, m2, m3, m4⟩
        | exact ⟨n0, n1, n2, n3, n4⟩
        | exact ⟨p0, p1, p2, p3, p4⟩)
      (fail)
    go_wp2
    go_ret
    refine ⟨_, rfl, O2.out, H2.out, ?_⟩
    rintro k9 (h9 | h9 | ⟨p, hp, h9⟩)
    · exact .inl (.inl h9)
    · exact .inl (.inr (.inl h9))
    · rcases List.mem_append.1 hp with hp | hp
      · exact .inl (.inr (.inr ⟨p, hp, h9⟩))
      · obtain rfl := List.mem_singleton.1 hp
        rcases h9 with rfl | rfl
        · exact .inr HM9.out.1
        · exact .inr HM9.out.2
end
end Go.Proofs.YtlkbojgemcjilaaGreatDoor
