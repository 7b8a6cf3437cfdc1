/- Grants: Drop, Withdraw, New. -/
import Derived.Test.YtlkbojgemcjilaaU8
namespace Go.Proofs.Ytlkbojgemcjilaa
open Go.RowKit Go.Maps
set_option linter.unusedVariables false
set_option maxRecDepth 20000
theorem len_drop {α : Type} (p : α → Bool) : ∀ l : List α, (l.Pairwise fun a b => ¬ (p a = true ∧ p b = true)) → (l.filter fun a => !p a).length + (if l.any p = true then 1 else 0) = l.length
  | [], _ => rfl
  | a :: l, h => by
    obtain ⟨h1, h2⟩ := List.pairwise_cons.1 h
    have ih := len_drop p l h2
    cases hp : p a with
    | false =>
      simp only [List.filter_cons, hp, Bool.not_false, if_true, List.length_cons, List.any_cons, Bool.false_or]
      omega
    | true =>
      have hn : l.any p = false := by
        rw [List.any_eq_false]
        intro b hb e
        exact h1 b hb ⟨hp, e⟩
      rw [hn] at ih
      simp only [Bool.false_eq_true, if_false, Nat.add_zero] at ih
      simp only [List.filter_cons, hp, Bool.not_true, Bool.false_eq_true, if_false, List.length_cons, List.any_cons, Bool.true_or, if_true]
      omega
theorem isC_iff {t n : ByteArray} {c : Cl} : isC t n c = true ↔ c.t = t ∧ c.n = n := by unfold isC; exact decide_eq_true_iff
theorem CRel.drop {V : DataW Value} {L : List Reg} (h : CRel V L) (hz : ∀ p ∈ L, p.c.t.size ≤ maxLen ∧ p.c.n.size ≤ maxLen) (hk : L.Pairwise fun a b => ¬ (a.c.t = b.c.t ∧ a.c.n = b.c.n)) (t n : ByteArray) (ht : t.size ≤ maxLen) (hn : n.size ≤ maxLen) :
    CRel (V.del (keyP t n)) (L.filter fun p => !isC t n p.c) := by
  have hq : L.Pairwise fun a b => ¬ (isC t n a.c = true ∧ isC t n b.c = true) := hk.imp fun {a b} hne e => by
    obtain ⟨e1, e2⟩ := isC_iff.1 e.1
    obtain ⟨e3, e4⟩ := isC_iff.1 e.2
    exact hne ⟨e1.trans e3.symm, e2.trans e4.symm⟩
  refine ⟨h.tidy.del _, fun t' u' ht' hu' => ?_, fun p hp z => ?_, ?_⟩
  · by_cases e : (t', u') = (t, n)
    · obtain ⟨rfl, rfl⟩ := Prod.mk.inj e
      rw [has_del_same]
      symm
      rw [List.any_eq_false]
      intro p hp
      have := (List.mem_filter.1 hp).2
      simpa using this
    · rw [has_del_other (fun e' => e (keyP_inj ht' hu' ht hn e')), h.has _ _ ht' hu', List.any_filter]
      congr 1
      funext p
      cases h1 : isC t' u' p.c with
      | false => simp
      | true =>
        have h2 : isC t n p.c = false := by
          cases h3 : isC t n p.c with
          | false => rfl
          | true =>
            obtain ⟨e1, e2⟩ := isC_iff.1 h1
            obtain ⟨e3, e4⟩ := isC_iff.1 h3
            exact absurd (by rw [← e1, ← e2, e3, e4]) e
        simp [h2]
  · obtain ⟨h1, h2⟩ := List.mem_filter.1 hp
    obtain ⟨z1, z2⟩ := hz p h1
    have hne : keyP p.c.t p.c.n ≠ keyP t n := fun e => by
      obtain ⟨e1, e2⟩ := Prod.mk.inj (keyP_inj z1 z2 ht hn e)
      rw [isC_iff.2 ⟨e1, e2⟩] at h2
      cases h2
    rw [atKey_del_other hne, h.at' p h1]
  · have h1 := size_del (k := keyP t n) h.tidy
    rw [h.has t n ht hn, h.size] at h1
    have h2 := len_drop (fun p : Reg => isC t n p.c) L hq
    omega
theorem ARel.drop {D : DataW Unit} {l : List Co} (h : ARel D l) (hk : l.Pairwise fun a b => ¬ a.u = b.u) (u : ByteArray) :
    ARel (D.del (.string u.data.toList)) (l.filter fun a => !decide (a.u = u)) := by
  have hq : l.Pairwise fun a b => ¬ (decide (a.u = u) = true ∧ decide (b.u = u) = true) := hk.imp fun {a b} hne e => hne ((of_decide_eq_true e.1).trans (of_decide_eq_true e.2).symm)
  refine ⟨h.tidy.del _, fun v => ?_, fun a ha z => ?_, ?_⟩
  · by_cases e : v = u
    · subst e
      rw [has_del_same]
      symm
      rw [List.any_eq_false]
      intro p hp
      have := (List.mem_filter.1 hp).2
      simpa using this
    · rw [has_del_other (fun e' => e (str_inj e')), h.has, List.any_filter]
      congr 1
      funext a
      by_cases h1 : a.u = v
      · subst h1
        simp [e]
      · simp [h1]
  · obtain ⟨h1, h2⟩ := List.mem_filter.1 ha
    have hne : (Lit.string a.u.data.toList) ≠ .string u.data.toList := fun e => by
      rw [str_inj e] at h2
      simp at h2
    rw [atKey_del_other hne, h.at' a h1]
  · have h1 := size_del (k := .string u.data.toList) h.tidy
    rw [h.has, h.size] at h1
    have h2 := len_drop (fun a : Co => decide (a.u = u)) l hq
    omega
def GS.dropC (s : GS) (t n : ByteArray) : GS := ⟨s.cs.filter fun c => !isC t n c, s.al.filter fun a => !ofC t n a⟩
theorem ofC_iff {t n : ByteArray} {a : Co} : ofC t n a = true ↔ a.t = t ∧ a.n = n := by unfold ofC; exact decide_eq_true_iff
theorem GS.Ok.dropC {s : GS} (h : s.Ok) (t n : ByteArray) : (s.dropC t n).Ok := by
  refine ⟨fun c hc => h.names c (List.mem_filter.1 hc).1, h.keys.filter _, fun a ha => ?_, h.akeys.filter _⟩
  obtain ⟨h1, h2⟩ := List.mem_filter.1 ha
  obtain ⟨h3, h4, h5, c, hc, h6, h7, h8⟩ := h.anames a h1
  refine ⟨h3, h4, h5, c, List.mem_filter.2 ⟨hc, ?_⟩, h6, h7, h8⟩
  have e : isC t n c = ofC t n a := by unfold isC ofC; rw [h6, h7]
  rw [e]
  exact h2
section
variable {w w' : World} {B g mc d : Nat} {L : List Reg} {s : GS}
theorem RegIn.kept {p : Reg} {al : List Co} (h : RegIn w B p al d) {b : Nat} (hg : w.grownBy w' (some b)) (h1 : p.r ≠ b) (h2 : p.m ≠ b) : RegIn w' B p al d := by
  obtain ⟨k1, k2, k3, n, D, k4, k5⟩ := h
  exact ⟨k1, k2, (hg.block _ (heap_lt k3) (fun e => h1 (Option.some.inj e))).trans k3, n, D, k4.kept hg (fun e => h2 (Option.some.inj e)), k5⟩
theorem mapObj {H : Type} {k : TypeId} {R : Value → Option (DataW H × List MemPlace)} {b n : Nat} {D : DataW H} (h : w.ownsMap Try.prog k R b n D) : ∃ es clock, w.heap[b]? = some (.map es clock) := by
  obtain ⟨es, clock, hb, _⟩ := h
  exact ⟨es, clock, hb⟩
theorem cells_ne_map {H : Type} {k : TypeId} {R : Value → Option (DataW H × List MemPlace)} {b n r : Nat} {D : DataW H} (h : w.ownsMap Try.prog k R b n D) {cs : Array Value} {T : TypeId} {fr : Nat × Nat} (hr : w.heap[r]? = some (.cells cs T fr)) : r ≠ b := fun e => by
  obtain ⟨es, clock, hb⟩ := mapObj h
  rw [e, hb] at hr
  cases hr
theorem SAt.keysL (h : SAt w B g mc L s d) : L.Pairwise fun a b => ¬ (a.c.t = b.c.t ∧ a.c.n = b.c.n) := by
  have hk := h.ok.keys
  rw [← h.cs, List.pairwise_map] at hk
  exact hk
theorem SAt.m_ne (h : SAt w B g mc L s d) {p : Reg} (hp : p ∈ L) : p.m ≠ mc := fun e => (List.nodup_cons.1 h.ndm).1 (List.mem_map.2 ⟨p, hp, e⟩)
theorem SAt.dropC (h : SAt w B g mc L s d) (t n : ByteArray) (ht : t.size ≤ maxLen) (hn : n.size ≤ maxLen) (k : Nat) (V : DataW Value) (hk : k ≤ d) (hV : CRel V L) (hm : w'.ownsMap Try.prog 74 RV mc k (V.del (keyP t n))) (hm0 : w.ownsMap Try.prog 74 RV mc k V) (hg : w.grownBy w' (some mc)) :
    SAt w' B g mc (L.filter fun p => !isC t n p.c) (s.dropC t n) d := by
  have hsub : (L.filter fun p => !isC t n p.c).Sublist L := List.filter_sublist
  refine ⟨h.ok.dropC t n, ?_, ?_, ⟨k, _, hm, hk, hV.drop (fun p hp => ?_) h.keysL t n ht hn⟩, fun p hp => ?_, h.ndr.sublist (hsub.map _), h.ndm.sublist ((hsub.map _).cons_cons _), h.bg, h.bm⟩
  · unfold GS.dropC
    rw [← h.cs, List.filter_map]
    rfl
  · exact (hg.block g h.lt (fun e => cells_ne_map hm0 h.obj (Option.some.inj e))).trans h.obj
  · obtain ⟨z1, z2⟩ := h.sizes hp
    exact ⟨by unfold maxLen; omega, by unfold maxLen; omega⟩
  · obtain ⟨h1, h2⟩ := List.mem_filter.1 hp
    have hr := (h.regs p h1).kept hg (cells_ne_map hm0 (h.regs p h1).2.2.1) (h.m_ne h1)
    obtain ⟨k1, k2, k3, q, D, k4, k5, k6⟩ := hr
    refine ⟨k1, k2, k3, q, D, k4, k5, ?_⟩
    have e : (s.dropC t n).al.filter (ofC p.c.t p.c.n) = s.al.filter (ofC p.c.t p.c.n) := by
      unfold GS.dropC
      rw [List.filter_filter]
      congr 1
      funext a
      cases h3 : ofC p.c.t p.c.n a with
      | false => simp
      | true =>
        obtain ⟨e1, e2⟩ := ofC_iff.1 h3
        have e3 : ofC t n a = isC t n p.c := by unfold ofC isC; rw [e1, e2]
        rw [e3]
        simpa using h2
    rw [e]
    exact k6
theorem dropC_none (h : SAt w B g mc L s d) {t n : ByteArray} (hf : fC L t n = none) : (L.filter fun p => !isC t n p.c) = L ∧ s.dropC t n = s := by
  have h1 : ∀ p ∈ L, isC t n p.c = false := fun p hp => by
    have := List.find?_eq_none.1 hf p hp
    simpa using this
  have h2 : ∀ c ∈ s.cs, isC t n c = false := fun c hc => by
    rw [← h.cs] at hc
    obtain ⟨p, hp, rfl⟩ := List.mem_map.1 hc
    exact h1 p hp
  refine ⟨List.filter_eq_self.2 (fun p hp => by rw [h1 p hp]; rfl), ?_⟩
  unfold GS.dropC
  rw [List.filter_eq_self.2 (fun c hc => by rw [h2 c hc]; rfl), List.filter_eq_self.2 (fun a ha => by
    obtain ⟨_, _, _, c, hc, e1, e2, _⟩ := h.ok.anames a ha
    have e : ofC t n a = isC t n c := by unfold isC ofC; rw [e1, e2]
    rw [e, h2 c hc]
    rfl)]
set_option maxHeartbeats 4000000 in
theorem drop_any (h : SAt w B g mc L s d) (t n : ByteArray) (ht : t.size ≤ maxLen) (hn : n.size ≤ maxLen) :
    Calls Try.prog 13 #[.pointer (some ⟨g, 0, none⟩), .string t, .string n] w fun e w' => e = .returned (.int .i64 (noneE (fC L t n).isSome)) ∧ OutJ (MineU g mc L) w w' ∧ SAt w' B g mc (L.filter fun p => !isC t n p.c) (s.dropC t n) d := by
  have HF := hid (find_any h t n ht hn)
  have c0 := h.c0
  cases hf : fC L t n with
  | none =>
    rw [hf] at HF
    obtain ⟨e1, e2⟩ := dropC_none h hf
    rw [e1, e2]
    have H := hid h
    clear h hf e1 e2 c0
    go_enter Try.func13, Try.ntmps13
    go_wp2_with (go_at_call 29; refine HF.out.mono ?_; rintro _ w1 ⟨rfl, e1⟩; subst w1; unfold noneE; simp only [Option.isSome_none, Bool.false_eq_true, if_false])
    go_ret
    exact ⟨rfl, OutJ.of_below (Below.refl _ _), H.out⟩
  | some p =>
    rw [hf] at HF
    obtain ⟨k, V, hm, hk, hV⟩ := h.cm
    have H := hid h
    have HM := hid hm
    have HV := hid hV
    have Hk := hid hk
    have Hkl := hid (keyOf_place t n ht hn)
    have Ht := hid (And.intro ht hn)
    clear h hf hm hV hk
    go_enter Try.func13, Try.ntmps13
    go_wp2_with (first
      | (go_at_call 29; refine HF.out.mono ?_; rintro _ w1 ⟨rfl, e1⟩; subst w1; unfold noneE; simp only [Option.isSome_some, if_true])
      | (at_delete; refine wpList_delete_own _ rfl _ _ 56 74 rfl 64 lawPlace Try.underlying56 RV mc k V rfl HM.out _ _ rfl Hkl.out ?_; intro w2 hown2 ht2; have hg2 := ht2.grown; have HS := hid (H.out.dropC t n Ht.out.1 Ht.out.2 k V Hk.out HV.out hown2 HM.out hg2); have O2 := hid (OutJ.of_grown (P := MineU g mc L) hg2 (.inr (.inl rfl))); clear hown2 ht2 hg2))
    go_ret
    exact ⟨rfl, O2.out, HS.out⟩
end
end Go.Proofs.Ytlkbojgemcjilaa
