/- A map from numbers to things, in memory: just the things of a list, by their numbers. -/
import Derived.Test.YtcchlcbonfdhpaaDoorSBase
namespace Go.Proofs.YtcchlcbonfdhpaaDoor
open Go.RowKit Go.Maps
set_option linter.unusedVariables false

section
variable {α : Type} {num : α → Int}

/-- the keys' own word: numbers as keys -/
abbrev zk (x : Int) : Lit := .int .i64 x
theorem zk_isKey (x : Int) : WideAt.IsKeyLit (zk x) := by
  exact trivial

/-- no number stands twice -/
def Nums1 (num : α → Int) (l : List α) : Prop := l.Pairwise (fun a b => num a ≠ num b)
theorem Nums1.eq {l : List α} (h : Nums1 num l) {a b : α} (ha : a ∈ l) (hb : b ∈ l) (e : num a = num b) : a = b := by
  unfold Nums1 at h
  induction l with
  | nil => cases ha
  | cons x r ih =>
    rw [List.pairwise_cons] at h
    rcases List.mem_cons.1 ha with rfl | ha' <;> rcases List.mem_cons.1 hb with rfl | hb'
    · rfl
    · exact absurd e (h.1 _ hb')
    · exact absurd e.symm (h.1 _ ha')
    · exact ih h.2 ha' hb'

/-- one thing more is taken: the list of what was taken grows by it -/
theorem taken_more {l : List α} (h : Nums1 num l) {p p' : α → Bool} {s : α} (hs : s ∈ l) (h0 : p s = false) (h1 : p' s = true) (he : ∀ t ∈ l, num t ≠ num s → p' t = p t) : (l.filter p').Perm (s :: l.filter p) := by
  induction l with
  | nil => cases hs
  | cons x r ih =>
    unfold Nums1 at h
    rw [List.pairwise_cons] at h
    by_cases e : num x = num s
    · have hx : x = s := by
        rcases List.mem_cons.1 hs with rfl | hr
        · rfl
        · exact absurd e (h.1 _ hr)
      subst hx
      have hr : r.filter p' = r.filter p := List.filter_congr fun t ht => he t (List.mem_cons_of_mem _ ht) (fun e' => h.1 t ht e'.symm)
      rw [List.filter_cons_of_pos h1, List.filter_cons_of_neg (by simp [h0]), hr]
    · have hr : s ∈ r := by
        rcases List.mem_cons.1 hs with rfl | hr
        · exact absurd rfl e
        · exact hr
      have i := ih h.2 hr (fun t ht => he t (List.mem_cons_of_mem _ ht))
      have ex := he x (List.mem_cons_self ..) e
      by_cases hp : p x = true
      · rw [List.filter_cons_of_pos (by rw [ex]; exact hp), List.filter_cons_of_pos hp]
        exact (i.cons x).trans (List.Perm.swap s x _)
      · rw [List.filter_cons_of_neg (by rw [ex]; exact hp), List.filter_cons_of_neg hp]
        exact i

/-- a list of numbers that rise, sorted from a row of the same numbers -/
theorem sorted_nums {zs ys : List Int} (hp : zs.Perm ys) (hs : ys.Pairwise (· < ·)) : zs.mergeSort (fun x y => decide (x ≤ y)) = ys := by
  have h1 : (zs.mergeSort (fun x y => decide (x ≤ y))).Perm ys := (List.mergeSort_perm _ _).trans hp
  have h2 : (zs.mergeSort (fun x y => decide (x ≤ y))).Pairwise (fun a b => decide (a ≤ b) = true) := List.pairwise_mergeSort (fun a b c h1 h2 => by simp at *; omega) (fun a b => by simp; omega) zs
  refine List.Perm.eq_of_pairwise (le := fun a b => a ≤ b) (fun a b _ _ h1 h2 => by omega) (h2.imp (fun h => by simpa using h)) (hs.imp (fun h => by omega)) h1

variable {P : Program} {k t e : TypeId} {R : Value → Option (DataW α × List MemPlace)} {w : World} {mb n : Nat} {l : List α}

/-- A map from numbers to things: just the things of a list, by their numbers. -/
def NMap (P : Program) (k : TypeId) (R : Value → Option (DataW α × List MemPlace)) (num : α → Int) (w : World) (mb n : Nat) (l : List α) : Prop :=
  ∃ D : DataW α, w.ownsMap P k R mb n D ∧ (∀ x : Int, Maps.has D (zk x) = l.any (fun s => num s == x)) ∧ (∀ s ∈ l, ∀ z, D.atKey (zk (num s)) z = .held s)
theorem NMap.keep {w' : World} (h : NMap P k R num w mb n l) (hk : w'.heap[mb]? = w.heap[mb]?) : NMap P k R num w' mb n l := by
  obtain ⟨D, ⟨es, clock, hb, r⟩, h1, h2⟩ := h
  exact ⟨D, ⟨es, clock, hk.trans hb, r⟩, h1, h2⟩
theorem NMap.lt (h : NMap P k R num w mb n l) : mb < w.heap.size := by
  obtain ⟨D, hown, _⟩ := h
  exact hown.lt
theorem NMap.isMap (h : NMap P k R num w mb n l) : ∃ es clock, w.heap[mb]? = some (.map es clock) := by
  obtain ⟨D, ⟨es, clock, hb, r⟩, h1, h2⟩ := h
  exact ⟨es, clock, hb⟩
theorem NMap_made (w : World) : NMap P k R num (w.alloc (.map #[] 0)) w.heap.size 0 ([] : List α) :=
  ⟨_, World.ownsMap_made w P k R, fun x => rfl, fun s hs => by cases hs⟩
theorem NMap.mono {n' : Nat} (h : NMap P k R num w mb n l) (hn : n ≤ n') : NMap P k R num w mb n' l := by
  obtain ⟨D, ho, r⟩ := h
  exact ⟨D, ho.mono hn, r⟩

/-- a thing is laid under its number -/
theorem NMap.put {w' : World} {D : DataW α} {s : α} {l' : List α} {n' : Nat} (hi : Maps.IsMap D) (hh : ∀ x : Int, Maps.has D (zk x) = l.any (fun s => num s == x)) (ha : ∀ s ∈ l, ∀ z, D.atKey (zk (num s)) z = .held s)
    (ho : w'.ownsMap P k R mb n' (D.put (zk (num s)) (.held s))) (hl : ∀ t, t ∈ l' ↔ t = s ∨ (t ∈ l ∧ num t ≠ num s)) : NMap P k R num w' mb n' l' := by
  refine ⟨_, ho, fun x => ?_, fun t ht z => ?_⟩
  · by_cases e : x = num s
    · subst e
      rw [Maps.has_put_same hi (zk_isKey _)]
      exact (List.any_eq_true.2 ⟨s, (hl s).2 (.inl rfl), by simp⟩).symm
    · rw [Maps.has_put_other (fun h => e (by injection h)), hh, Bool.eq_iff_iff, List.any_eq_true, List.any_eq_true]
      constructor
      · rintro ⟨t, ht, et⟩
        have et' : num t = x := by simpa using et
        exact ⟨t, (hl t).2 (.inr ⟨ht, fun h => e (by rw [← et', h])⟩), et⟩
      · rintro ⟨t, ht, et⟩
        have et' : num t = x := by simpa using et
        rcases (hl t).1 ht with rfl | ⟨h1, h2⟩
        · exact absurd et'.symm e
        · exact ⟨t, h1, et⟩
  · rcases (hl t).1 ht with rfl | ⟨h1, h2⟩
    · exact Maps.atKey_put_same hi (zk_isKey _) _ _
    · rw [Maps.atKey_put_other (fun h => h2 (by injection h))]
      exact ha t h1 z

/-- the thing of a number is struck -/
theorem NMap.del {w' : World} {D : DataW α} {x : Int} {l' : List α} {n' : Nat} (hh : ∀ x : Int, Maps.has D (zk x) = l.any (fun s => num s == x)) (ha : ∀ s ∈ l, ∀ z, D.atKey (zk (num s)) z = .held s)
    (ho : w'.ownsMap P k R mb n' (D.del (zk x))) (hl : ∀ t, t ∈ l' ↔ (t ∈ l ∧ num t ≠ x)) : NMap P k R num w' mb n' l' := by
  refine ⟨_, ho, fun y => ?_, fun t ht z => ?_⟩
  · by_cases e : y = x
    · subst e
      rw [Maps.has_del_same]
      refine Bool.eq_false_iff.2 ?_ |>.symm
      intro h
      obtain ⟨t, ht, et⟩ := List.any_eq_true.1 h
      exact ((hl t).1 ht).2 (by simpa using et)
    · rw [Maps.has_del_other (fun h => e (by injection h)), hh, Bool.eq_iff_iff, List.any_eq_true, List.any_eq_true]
      constructor
      · rintro ⟨t, ht, et⟩
        have et' : num t = y := by simpa using et
        exact ⟨t, (hl t).2 ⟨ht, fun h => e (by rw [← et', h])⟩, et⟩
      · rintro ⟨t, ht, et⟩
        exact ⟨t, ((hl t).1 ht).1, et⟩
  · obtain ⟨h1, h2⟩ := (hl t).1 ht
    rw [Maps.atKey_del_other (fun h => h2 (by injection h))]
    exact ha t h1 z

/-- what a number's thing is read as: it is there -/
theorem NMap.look_in (h : NMap P k R num w mb n l) (K : Keyed P k) (ht : P.underlying t = some (.map k e)) {z : Value} (hz : (zeroValue e).run P w = .ok z w) {zd : DataW α} {zp : List MemPlace} (hzd : R z = some (zd, zp)) {mk : α → Value} (hinv : ∀ v s ps, R v = some (.held s, ps) → v = mk s)
    {s : α} (hs : s ∈ l) (hkey : keyOf P k (.int .i64 (num s)) = some (zk (num s))) :
    (Instr.lookup t (.map (some mb)) (.int .i64 (num s)) true).run P w = .ok (.tuple #[mk s, .bool true]) w ∧ (Instr.lookup t (.map (some mb)) (.int .i64 (num s)) false).run P w = .ok (mk s) w := by
  obtain ⟨D, ho, hh, ha⟩ := h
  obtain ⟨v, ps, h1, h2⟩ := ho.look_ok K ht hz hzd hkey
  obtain ⟨v', ps', h1', h2'⟩ := ho.lookup K ht hz hzd hkey
  rw [ha s hs] at h2 h2'
  rw [hinv _ _ _ h2, hh, List.any_eq_true.2 ⟨s, hs, by simp⟩] at h1
  rw [hinv _ _ _ h2'] at h1'
  exact ⟨h1, h1'⟩
/-- .. it is not -/
theorem NMap.look_out (h : NMap P k R num w mb n l) (K : Keyed P k) (ht : P.underlying t = some (.map k e)) {z : Value} (hz : (zeroValue e).run P w = .ok z w) {s0 : α} {zp : List MemPlace} (hzd : R z = some (.held s0, zp)) {mk : α → Value} (hinv : ∀ v s ps, R v = some (.held s, ps) → v = mk s)
    {x : Int} (hx : ∀ s ∈ l, num s ≠ x) (hkey : keyOf P k (.int .i64 x) = some (zk x)) :
    (Instr.lookup t (.map (some mb)) (.int .i64 x) true).run P w = .ok (.tuple #[mk s0, .bool false]) w := by
  obtain ⟨D, ho, hh, ha⟩ := h
  obtain ⟨v, ps, h1, h2⟩ := ho.look_ok K ht hz hzd hkey
  have hf : Maps.has D (zk x) = false := by
    rw [hh]
    refine Bool.eq_false_iff.2 fun h => ?_
    obtain ⟨t, ht, et⟩ := List.any_eq_true.1 h
    exact hx t ht (by simpa using et)
  rw [Maps.atKey_of_not_has hf] at h2
  rw [hf, hinv _ _ _ h2] at h1
  exact h1
end
end Go.Proofs.YtcchlcbonfdhpaaDoor
