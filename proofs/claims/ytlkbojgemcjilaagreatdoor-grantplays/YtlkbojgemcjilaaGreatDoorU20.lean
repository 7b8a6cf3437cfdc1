/- Grants: how many consents a user has; Allow, the mathematics. -/
import Derived.Test.YtlkbojgemcjilaaGreatDoorU19
namespace Go.Proofs.YtlkbojgemcjilaaGreatDoor
open Go.RowKit Go.Maps Go.Shelf Go.Sort Go.Lib
set_option linter.unusedVariables false
set_option maxRecDepth 20000
def isU (t u : ByteArray) (a : Co) : Bool := decide (a.t = t ∧ a.u = u)
theorem isU_iff {t u : ByteArray} {a : Co} : isU t u a = true ↔ a.t = t ∧ a.u = u := by unfold isU; exact decide_eq_true_iff
def consN (s : GS) (t u : ByteArray) : Nat := (s.al.filter (isU t u)).length
theorem pw_mem {α : Type} {R : α → α → Prop} (hs : ∀ a b, R a b → R b a) : ∀ {l : List α}, l.Pairwise R → ∀ {a b : α}, a ∈ l → b ∈ l → a = b ∨ R a b
  | x :: l, h, a, b, ha, hb => by
    obtain ⟨h1, h2⟩ := List.pairwise_cons.1 h
    rcases List.mem_cons.1 ha with rfl | ha' <;> rcases List.mem_cons.1 hb with rfl | hb'
    · exact .inl rfl
    · exact .inr (h1 b hb')
    · exact .inr (hs _ _ (h1 a ha'))
    · exact pw_mem hs h2 ha' hb'
theorem GS.Ok.a_inj {s : GS} (h : s.Ok) {a b : Co} (ha : a ∈ s.al) (hb : b ∈ s.al) (e1 : a.t = b.t) (e2 : a.u = b.u) (e3 : a.n = b.n) : a = b :=
  (pw_mem (fun a b hn e => hn ⟨e.1.symm, e.2.1.symm, e.2.2.symm⟩) h.akeys ha hb).resolve_right (fun hn => hn ⟨e1, e2, e3⟩)
theorem GS.Ok.c_inj {s : GS} (h : s.Ok) {a b : Cl} (ha : a ∈ s.cs) (hb : b ∈ s.cs) (e1 : a.t = b.t) (e3 : a.n = b.n) : a = b :=
  (pw_mem (fun a b hn e => hn ⟨e.1.symm, e.2.symm⟩) h.keys ha hb).resolve_right (fun hn => hn ⟨e1, e3⟩)
theorem fA_some {s : GS} {t u n : ByteArray} {a : Co} (h : fA s t u n = some a) : a ∈ s.al ∧ a.t = t ∧ a.u = u ∧ a.n = n := by
  unfold fA at h
  have h9 := isA_iff.1 (List.find?_some h)
  exact ⟨List.mem_of_find?_eq_some h, h9⟩
theorem GS.Ok.fA_of {s : GS} (h : s.Ok) {a : Co} (ha : a ∈ s.al) : fA s a.t a.u a.n = some a := by
  cases hf : fA s a.t a.u a.n with
  | none =>
    unfold fA at hf
    have := List.find?_eq_none.1 hf a ha
    exact absurd (isA_iff.2 ⟨rfl, rfl, rfl⟩) (by simpa using this)
  | some b =>
    obtain ⟨h1, h2, h3, h4⟩ := fA_some hf
    rw [h.a_inj h1 ha h2 h3 h4]
theorem GS.Ok.a_nodup {s : GS} (h : s.Ok) : s.al.Nodup := h.akeys.imp fun {x y} hne e => hne (by rw [e]; exact ⟨rfl, rfl, rfl⟩)
theorem GS.Ok.c_nodup {s : GS} (h : s.Ok) : s.cs.Nodup := h.keys.imp fun {x y} hne e => hne (by rw [e]; exact ⟨rfl, rfl⟩)
section
variable {w w' : World} {B g mc d : Nat} {L : List Reg} {s : GS}
theorem SAt.fB_eq (h : SAt w B g mc L s d) (t u n : ByteArray) : (fB L s t u n).map (·.2) = fA s t u n := by
  unfold fB
  cases hc : fC L t n with
  | some p =>
    cases ha : fA s t u n with
    | none => rfl
    | some a => rfl
  | none =>
    cases ha : fA s t u n with
    | none => rfl
    | some a =>
      obtain ⟨h1, rfl, rfl, rfl⟩ := fA_some ha
      obtain ⟨_, _, _, c, h2, h3, h4, _⟩ := h.ok.anames a h1
      exact absurd ⟨h3, h4⟩ (fC_none_cs h hc c h2)
theorem SAt.consF_eq (h : SAt w B g mc L s d) (t u : ByteArray) (S : List Cl) : consF L s t u S = S.filterMap fun c => fA s t u c.n := by
  unfold consF
  congr 1
  funext c
  exact h.fB_eq t u c.n
theorem consF_perm (h : SAt w B g mc L s d) (t u : ByteArray) {S : List Cl} (hS : S.Perm (s.cs.filter (inT t))) : (consF L s t u S).Perm (s.al.filter (isU t u)) := by
  rw [h.consF_eq]
  refine (hS.filterMap _).trans ?_
  refine (List.perm_ext_iff_of_nodup ?_ (h.ok.a_nodup.filter _)).2 fun a => ?_
  · have h1 : (s.cs.filter (inT t)).Pairwise fun a b => ¬ a.n = b.n := (h.ok.keys.filter (inT t)).imp_of_mem fun {a b} ha hb hne e => hne ⟨(of_decide_eq_true (List.mem_filter.1 ha).2).trans (of_decide_eq_true (List.mem_filter.1 hb).2).symm, e⟩
    refine List.Pairwise.filterMap _ ?_ h1
    intro c c' hne a ha a' ha' e
    obtain ⟨_, _, _, e1⟩ := fA_some ha
    obtain ⟨_, _, _, e2⟩ := fA_some ha'
    exact hne (by rw [← e1, ← e2, e])
  · rw [List.mem_filterMap, List.mem_filter]
    constructor
    · rintro ⟨c, hc, ha⟩
      obtain ⟨h1, h2, h3, h4⟩ := fA_some ha
      exact ⟨h1, isU_iff.2 ⟨h2, h3⟩⟩
    · rintro ⟨h1, h2⟩
      obtain ⟨rfl, rfl⟩ := isU_iff.1 h2
      obtain ⟨_, _, _, c, h3, h4, h5, _⟩ := h.ok.anames a h1
      exact ⟨c, List.mem_filter.2 ⟨h3, by unfold inT; exact decide_eq_true h4⟩, by rw [h5]; exact h.ok.fA_of h1⟩
theorem consents_len (h : SAt w B g mc L s d) (hl9 : L.length ≤ 100000) (t u : ByteArray) : consN s t u ≤ 100000 := by
  unfold consN
  rw [← (consF_perm h t u (List.Perm.refl (s.cs.filter (inT t)))).length_eq]
  refine Nat.le_trans (consF_len _ _ _ _ _) (Nat.le_trans (List.length_filter_le _ _) ?_)
  rw [← h.cs, List.length_map]
  exact hl9
theorem consF_cnt (h : SAt w B g mc L s d) (t u : ByteArray) {S : List Cl} (hS : S.Perm (s.cs.filter (inT t))) : (consF L s t u S).length = consN s t u := (consF_perm h t u hS).length_eq
end
/-- Allow's answer -/
def allE (L : List Reg) (s : GS) (a : Co) : Nat :=
  if (okN a.t && okN a.u) = false then 8 else match fC L a.t a.n with
    | none => 4
    | some p => if nar a.sc p.c.sc = false then 14 else if (fA s a.t a.u a.n).isSome = false ∧ 4 ≤ consN s a.t a.u then 25 else 0
def GS.putA (s : GS) (a : Co) : GS := ⟨s.cs, s.al.filter (fun x => !isA a.t a.u a.n x) ++ [a]⟩
def GS.allow (L : List Reg) (s : GS) (a : Co) : GS := if allE L s a = 0 then s.putA a else s
theorem GS.Ok.putA {s : GS} (h : s.Ok) {a : Co} {c : Cl} (h1 : okN a.t = true) (h2 : okN a.u = true) (h3 : a.sc ≤ 255) (hc : c ∈ s.cs) (h4 : c.t = a.t) (h5 : c.n = a.n) (h6 : a.sc &&& c.sc = a.sc) : (s.putA a).Ok := by
  refine ⟨h.names, h.keys, fun x hx => ?_, ?_⟩
  · rcases List.mem_append.1 hx with hx | hx
    · exact h.anames x (List.mem_filter.1 hx).1
    · obtain rfl := List.mem_singleton.1 hx
      exact ⟨h1, h2, h3, c, hc, h4, h5, h6⟩
  · refine List.pairwise_append.2 ⟨h.akeys.filter _, List.pairwise_singleton _ _, fun x hx y hy => ?_⟩
    obtain rfl := List.mem_singleton.1 hy
    have h9 := (List.mem_filter.1 hx).2
    intro e
    rw [isA_iff.2 e] at h9
    cases h9
theorem isA_ofC {t u n : ByteArray} (a : Co) : isA t u n a = (ofC t n a && decide (a.u = u)) := by
  unfold ofC isA
  by_cases h1 : a.t = t <;> by_cases h2 : a.n = n <;> by_cases h3 : a.u = u <;> simp [h1, h2, h3]
theorem ARel.putA {s : GS} (hok : s.Ok) {D : DataW Unit} {a : Co} (h : ARel D (s.al.filter (ofC a.t a.n))) :
    ARel (D.put (.string a.u.data.toList) (.lit (.int .u8 (a.sc : Int)))) ((s.putA a).al.filter (ofC a.t a.n)) := by
  have hself : ofC a.t a.n a = true := ofC_iff.2 ⟨rfl, rfl⟩
  have e : (s.putA a).al.filter (ofC a.t a.n) = ((s.al.filter (ofC a.t a.n)).filter fun x => !decide (x.u = a.u)) ++ [a] := by
    show (s.al.filter (fun x => !isA a.t a.u a.n x) ++ [a]).filter _ = _
    rw [List.filter_append, List.filter_filter, List.filter_filter, List.filter_cons_of_pos hself, List.filter_nil]
    congr 2
    funext x
    rw [isA_ofC]
    cases ofC a.t a.n x <;> simp
  rw [e]
  refine ⟨h.tidy.put (str_lit _) _, fun v => ?_, fun b hb z => ?_, ?_⟩
  · rw [List.any_append, List.any_cons, List.any_nil, Bool.or_false]
    by_cases e : v = a.u
    · subst e
      rw [has_put_same h.tidy.isMap (str_lit _)]
      simp
    · rw [has_put_other (fun e' => e (str_inj e')), h.has]
      have : ¬ a.u = v := fun e' => e e'.symm
      simp only [this, decide_false, Bool.or_false]
      conv => rhs; rw [List.any_filter]
      congr 1
      funext x
      by_cases h1 : x.u = v
      · subst h1
        simp [e]
      · simp [h1]
  · rcases List.mem_append.1 hb with hb | hb
    · obtain ⟨h1, h2⟩ := List.mem_filter.1 hb
      have hne : (Lit.string b.u.data.toList) ≠ .string a.u.data.toList := fun e => by
        rw [str_inj e] at h2
        simp at h2
      rw [atKey_put_other hne, h.at' b h1]
    · obtain rfl := List.mem_singleton.1 hb
      rw [atKey_put_same h.tidy.isMap (str_lit _)]
  · rw [size_put h.tidy, h.has, h.size, List.length_append]
    have hq : (s.al.filter (ofC a.t a.n)).Pairwise fun x y => ¬ (decide (x.u = a.u) = true ∧ decide (y.u = a.u) = true) := (users_apart hok a.t a.n).imp fun {x y} hne e => hne ((of_decide_eq_true e.1).trans (of_decide_eq_true e.2).symm)
    have h2 := len_drop (fun x : Co => decide (x.u = a.u)) _ hq
    show _ = _ + 1
    generalize ((s.al.filter (ofC a.t a.n)).any fun x => decide (x.u = a.u)) = b at h2 ⊢
    cases b
    · simp at h2 ⊢
      omega
    · simp at h2 ⊢
      omega
end Go.Proofs.YtlkbojgemcjilaaGreatDoor
