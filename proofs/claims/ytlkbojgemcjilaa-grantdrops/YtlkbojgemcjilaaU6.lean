/- Grants: hasRoom. -/
import Derived.Test.YtlkbojgemcjilaaU5
namespace Go.Proofs.Ytlkbojgemcjilaa
open Go.RowKit Go.Maps
set_option linter.unusedVariables false
set_option maxRecDepth 20000
/-- how often a text stands in a list -/
def cntT (ts : List ByteArray) (t : ByteArray) : Nat := (ts.filter fun x => decide (x = t)).length
/-- the texts of a list, each once -/
def dist : List ByteArray → List ByteArray
  | [] => []
  | t :: ts => if (dist ts).any (fun x => decide (x = t)) then dist ts else t :: dist ts
theorem any_mem (l : List ByteArray) (t : ByteArray) : l.any (fun x => decide (x = t)) = true ↔ t ∈ l := by
  rw [List.any_eq_true]
  exact ⟨fun ⟨x, hx, e⟩ => of_decide_eq_true e ▸ hx, fun h => ⟨t, h, decide_eq_true rfl⟩⟩
theorem dist_mem (ts : List ByteArray) : ∀ t : ByteArray, t ∈ dist ts ↔ t ∈ ts := by
  induction ts with
  | nil => exact fun _ => Iff.rfl
  | cons x ts ih =>
    intro t
    unfold dist
    by_cases h : (dist ts).any (fun y => decide (y = x)) = true
    · rw [if_pos h, ih, List.mem_cons]
      have hx := (ih x).1 ((any_mem _ _).1 h)
      exact ⟨.inr, fun h9 => h9.elim (fun e => by rw [e]; exact hx) id⟩
    · rw [if_neg h, List.mem_cons, List.mem_cons, ih]
theorem dist_nodup (ts : List ByteArray) : (dist ts).Nodup := by
  induction ts with
  | nil => exact List.nodup_nil
  | cons x ts ih =>
    unfold dist
    by_cases h : (dist ts).any (fun y => decide (y = x)) = true
    · rw [if_pos h]; exact ih
    · rw [if_neg h, List.nodup_cons]
      exact ⟨fun hm => h ((any_mem _ _).2 hm), ih⟩
theorem dist_perm {a b : List ByteArray} (h : a.Perm b) : (dist a).length = (dist b).length :=
  ((List.perm_ext_iff_of_nodup (dist_nodup a) (dist_nodup b)).2 fun t => by rw [dist_mem, dist_mem, h.mem_iff]).length_eq
theorem cntT_perm {a b : List ByteArray} (h : a.Perm b) (t : ByteArray) : cntT a t = cntT b t := (h.filter _).length_eq
theorem dist_cons (ts : List ByteArray) (t : ByteArray) : (dist (t :: ts)).length = if ts.any (fun x => decide (x = t)) = true then (dist ts).length else (dist ts).length + 1 := by
  have e : (dist ts).any (fun x => decide (x = t)) = true ↔ ts.any (fun x => decide (x = t)) = true := by rw [any_mem, any_mem, dist_mem]
  conv => lhs; unfold dist
  by_cases h : ts.any (fun x => decide (x = t)) = true
  · rw [if_pos h, if_pos (e.2 h)]
  · rw [if_neg h, if_neg (fun h9 => h (e.1 h9))]
    rfl
theorem cntT_cons (ts : List ByteArray) (x t : ByteArray) : cntT (x :: ts) t = cntT ts t + if x = t then 1 else 0 := by
  unfold cntT
  rw [List.filter_cons]
  by_cases h : x = t
  · simp [h]
  · simp [h]
theorem cntT_le (ts : List ByteArray) (t : ByteArray) : cntT ts t ≤ ts.length := List.length_filter_le _ _
/-- the counts of texts in a map -/
structure Cnt (D : DataW Unit) (ts : List ByteArray) : Prop where
  tidy : Tidy D
  has : ∀ t : ByteArray, Maps.has D (.string t.data.toList) = ts.any fun x => decide (x = t)
  at' : ∀ t : ByteArray, D.atKey (.string t.data.toList) (.lit (.int .i64 0)) = .lit (.int .i64 (cntT ts t : Int))
  size : Maps.size D = (dist ts).length
theorem cnt_new : Cnt (.map []) [] := ⟨tidy_empty, fun _ => rfl, fun _ => rfl, rfl⟩
theorem Cnt.put {D : DataW Unit} {ts : List ByteArray} (h : Cnt D ts) (t : ByteArray) : Cnt (D.put (.string t.data.toList) (.lit (.int .i64 ((cntT ts t + 1 : Nat) : Int)))) (t :: ts) := by
  refine ⟨h.tidy.put (str_lit t) _, fun u => ?_, fun u => ?_, ?_⟩
  · by_cases e : u = t
    · subst e
      rw [has_put_same h.tidy.isMap (str_lit u)]
      simp
    · rw [has_put_other (fun e' => e (str_inj e')), h.has, List.any_cons]
      have : ¬ t = u := fun e' => e e'.symm
      simp [this]
  · by_cases e : u = t
    · subst e
      rw [atKey_put_same h.tidy.isMap (str_lit u), cntT_cons, if_pos rfl]
    · rw [atKey_put_other (fun e' => e (str_inj e')), h.at', cntT_cons, if_neg (fun e' => e e'.symm), Nat.add_zero]
  · rw [size_put h.tidy, h.has, h.size, dist_cons]
/-- the answer -/
def roomR (ts : List ByteArray) (t : ByteArray) : Bool := if cntT ts t = 0 then decide ((dist ts).length < 4) else decide (cntT ts t < 4)
theorem filter_moreU {α : Type} : ∀ {l : List α} {p p' : α → Bool} {x : α}, l.Nodup → x ∈ l → p x = false → p' x = true → (∀ y ∈ l, y ≠ x → p' y = p y) → (l.filter p').Perm (x :: l.filter p)
  | a :: l, p, p', x, hn, hx, h1, h2, h3 => by
    obtain ⟨n1, n2⟩ := List.nodup_cons.1 hn
    by_cases e : a = x
    · subst e
      have hc : l.filter p' = l.filter p := List.filter_congr fun y hy => h3 y (List.mem_cons_of_mem _ hy) (fun e => n1 (e ▸ hy))
      rw [List.filter_cons_of_pos h2, List.filter_cons_of_neg (by rw [h1]; simp), hc]
    · have hx' : x ∈ l := by rcases List.mem_cons.1 hx with h | h; exact absurd h.symm e; exact h
      have ih := filter_moreU n2 hx' h1 h2 (fun y hy => h3 y (List.mem_cons_of_mem _ hy))
      have ha := h3 a List.mem_cons_self e
      cases hp : p a with
      | true => rw [List.filter_cons_of_pos (by rw [ha, hp]), List.filter_cons_of_pos hp]; exact (ih.cons a).trans (List.Perm.swap _ _ _)
      | false => rw [List.filter_cons_of_neg (by rw [ha, hp]; simp), List.filter_cons_of_neg (by rw [hp]; simp)]; exact ih
section
variable {w : World} {B g mc d : Nat} {L : List Reg} {s : GS}
theorem SAt.mem_cs (h : SAt w B g mc L s d) {p : Reg} (hp : p ∈ L) : p.c ∈ s.cs := by rw [← h.cs]; exact List.mem_map.2 ⟨p, hp, rfl⟩
theorem SAt.sizes (h : SAt w B g mc L s d) {p : Reg} (hp : p ∈ L) : p.c.t.size ≤ 9 ∧ p.c.n.size ≤ 9 := by
  obtain ⟨h1, h2, _⟩ := h.ok.names _ (h.mem_cs hp)
  exact ⟨okN_len h1, okN_len h2⟩
theorem SAt.nodup (h : SAt w B g mc L s d) : L.Nodup := by
  have h1 := h.ndr
  unfold List.Nodup at h1 ⊢
  rw [List.pairwise_map] at h1
  exact h1.imp fun hne e => hne (by rw [e])
theorem SAt.key_inj (h : SAt w B g mc L s d) {p q : Reg} (hp : p ∈ L) (hq : q ∈ L) (e : keyP p.c.t p.c.n = keyP q.c.t q.c.n) : p = q := by
  obtain ⟨p1, p2⟩ := h.sizes hp
  obtain ⟨q1, q2⟩ := h.sizes hq
  have e1 := keyP_inj (by unfold maxLen; omega) (by unfold maxLen; omega) (by unfold maxLen; omega) (by unfold maxLen; omega) e
  obtain ⟨e2, e3⟩ := Prod.mk.inj e1
  have hk := h.ok.keys
  rw [← h.cs, List.pairwise_map] at hk
  rcases Classical.em (p = q) with h9 | h9
  · exact h9
  · have : ∀ (l : List Reg), l.Pairwise (fun a b => ¬ (a.c.t = b.c.t ∧ a.c.n = b.c.n)) → p ∈ l → q ∈ l → False := fun l hl => by
      induction l with
      | nil => exact fun h _ => nomatch h
      | cons a l ih =>
        obtain ⟨h1, h2⟩ := List.pairwise_cons.1 hl
        intro hp hq
        rcases List.mem_cons.1 hp with rfl | hp' <;> rcases List.mem_cons.1 hq with rfl | hq'
        · exact h9 rfl
        · exact h1 q hq' ⟨e2, e3⟩
        · exact h1 p hp' ⟨e2.symm, e3.symm⟩
        · exact ih h2 hp' hq'
    exact (this L hk hp hq).elim
/-- one client more has been reached -/
theorem SAt.more (h : SAt w B g mc L s d) {L' : List Reg} {left : Lit → Bool} {p : Reg} (hp : p ∈ L) (hl : left (keyP p.c.t p.c.n) = true) (hL : L'.Perm (L.filter fun p => !left (keyP p.c.t p.c.n))) : (p :: L').Perm (L.filter fun y => !(left (keyP y.c.t y.c.n) && !(keyP y.c.t y.c.n).sameKey (keyP p.c.t p.c.n))) := by
  refine (hL.cons p).trans (filter_moreU h.nodup hp ?_ ?_ ?_).symm
  · rw [hl]; rfl
  · rw [WideAt.sameKey_self (keyP_lit _ _)]; simp
  · intro y hy hne
    rw [sameKey_ne (fun e => hne (h.key_inj hy hp e))]
    simp
end
end Go.Proofs.Ytlkbojgemcjilaa
