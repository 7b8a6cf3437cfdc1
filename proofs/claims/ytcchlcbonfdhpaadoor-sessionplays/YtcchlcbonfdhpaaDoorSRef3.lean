/- Rows of sessions: copied whole, one of them changed. -/
import Derived.Test.YtcchlcbonfdhpaaDoorSRef2
import Derived.Test.YtcchlcbonfdhpaaDoorSRows
import Derived.Laws.AppendOwnNone
namespace Go.Proofs.YtcchlcbonfdhpaaDoor
open Go.RowKit Go.Maps Go.Sort Go.Shelf
set_option linter.unusedVariables false
set_option maxRecDepth 20000

theorem sCells_cons (x : Sess) (r : List Sess) : sCells (x :: r) = [.int .i64 x.id, .string x.ten, .string x.usr, .int .i64 x.since, .int .i64 x.used] ++ sCells r := by simp [sCells]
theorem sCells_set (l : List Sess) (i : Nat) (s : Sess) (hi : i < l.length) :
    (((((sCells l).set (i * 5) (.int .i64 s.id)).set (i * 5 + 1) (.string s.ten)).set (i * 5 + 2) (.string s.usr)).set (i * 5 + 3) (.int .i64 s.since)).set (i * 5 + 4) (.int .i64 s.used) = sCells (l.set i s) := by
  induction l generalizing i with
  | nil => simp at hi
  | cons x r ih =>
    cases i with
    | zero => simp [sCells]
    | succ m =>
      have hm : m < r.length := by simpa using hi
      have e := ih m hm
      rw [List.set_cons_succ]
      rw [sCells_cons, sCells_cons, ← e]
      rw [List.set_append_right _ _ (by simp; omega), List.set_append_right _ _ (by simp; omega), List.set_append_right _ _ (by simp; omega), List.set_append_right _ _ (by simp; omega), List.set_append_right _ _ (by simp; omega)]
      congr 1
      simp only [List.length_cons, List.length_nil]
      rw [show (m + 1) * 5 - (0 + 1 + 1 + 1 + 1 + 1) = m * 5 by omega, show (m + 1) * 5 + 1 - (0 + 1 + 1 + 1 + 1 + 1) = m * 5 + 1 by omega, show (m + 1) * 5 + 2 - (0 + 1 + 1 + 1 + 1 + 1) = m * 5 + 2 by omega, show (m + 1) * 5 + 3 - (0 + 1 + 1 + 1 + 1 + 1) = m * 5 + 3 by omega, show (m + 1) * 5 + 4 - (0 + 1 + 1 + 1 + 1 + 1) = m * 5 + 4 by omega]

/-- one of a row's sessions is laid anew -/
theorem own_set {w : World} {B g cap : Nat} {l : List Sess} (h : w.ownsRow B 42 5 (.slice (some ⟨g, 0, none⟩) l.length cap) l.length (sCells l)) (i : Nat) (hi : i < l.length) (s : Sess) :
    (((((w.setCell ⟨g, i * 5, none⟩ (.int .i64 s.id)).setCell ⟨g, i * 5 + 1, none⟩ (.string s.ten)).setCell ⟨g, i * 5 + 2, none⟩ (.string s.usr)).setCell ⟨g, i * 5 + 3, none⟩ (.int .i64 s.since)).setCell ⟨g, i * 5 + 4, none⟩ (.int .i64 s.used)).ownsRow B 42 5 (.slice (some ⟨g, 0, none⟩) l.length cap) l.length (sCells (l.set i s)) := by
  refine ⟨by rw [sCells_length, List.length_set], ?_⟩
  rcases h.2 with ⟨h0, _⟩ | ⟨g', cap', cur, e, hg, hb, hc, hm, hs, ht⟩
  · cases h0
  · cases e
    refine .inr ⟨g, cap, ((((cur.setIfInBounds (i * 5) (.int .i64 s.id)).setIfInBounds (i * 5 + 1) (.string s.ten)).setIfInBounds (i * 5 + 2) (.string s.usr)).setIfInBounds (i * 5 + 3) (.int .i64 s.since)).setIfInBounds (i * 5 + 4) (.int .i64 s.used), rfl, hg, ?_, hc, hm, by simpa using hs, ?_⟩
    · have e1 := heap_setCell_same w g (i * 5) _ _ (.int .i64 s.id) hb
      have e2 := heap_setCell_same _ g (i * 5 + 1) _ _ (.string s.ten) e1
      have e3 := heap_setCell_same _ g (i * 5 + 2) _ _ (.string s.usr) e2
      have e4 := heap_setCell_same _ g (i * 5 + 3) _ _ (.int .i64 s.since) e3
      exact heap_setCell_same _ g (i * 5 + 4) _ _ (.int .i64 s.used) e4
    · simp only [Array.toList_setIfInBounds, List.take_set, ht]
      exact sCells_set l i s hi

theorem map_set {l : List Sess} (h1 : Nums1 Sess.id l) {i : Nat} {s s' : Sess} (hi : l[i]? = some s) : (l.map fun x => if x.id = s.id then s' else x) = l.set i s' := by
  obtain ⟨hl, e⟩ := List.getElem?_eq_some_iff.1 hi
  apply List.ext_getElem (by simp)
  intro j hj1 hj2
  have hj : j < l.length := by simpa using hj1
  rw [List.getElem_map, List.getElem_set]
  by_cases c : i = j
  · subst c
    rw [if_pos rfl, e, if_pos rfl]
  · rw [if_neg c]
    rw [if_neg (fun e2 => c ?_)]
    have := List.pairwise_iff_getElem.1 h1
    rcases Nat.lt_trichotomy i j with h | h | h
    · exact absurd (by rw [e, e2] : (l[i]).id = (l[j]).id) (this i j hl hj h)
    · exact h
    · exact absurd (by rw [e, e2] : (l[j]).id = (l[i]).id) (this j i hj hl h)

/-- append(nil, x...), x a row of sessions -/
theorem app_all (w : World) {ops : Array Oper} {rest : List Oper} {o : Oper} {a : Act} {Q : Exit → Act → World → Prop} (hgd : o.guard = none) (sl x : Operand)
    (ho : o.op = .call { callee := .builtin .append, args := #[sl, x], argTypes := #[47, 47] }) (base : Nat) (hs : a.eval sl = .slice none 0 0) (B : Nat) (ad : Option Addr) (cap : Nat) (l : List Sess)
    (hown : w.ownsRow B 42 5 (.slice ad l.length cap) l.length (sCells l)) (hx : a.eval x = .slice ad l.length cap) (hb : l.length ≤ 2000000000) (hbase : base ≤ w.heap.size)
    (h : ∀ v' w', w'.ownsRow base 42 5 v' l.length (sCells l) → w.grownBy w' none → wpList Tryd.prog ops Q rest (a.put o.dst v') w') :
    wpList Tryd.prog ops Q (o :: rest) a w := by
  obtain ⟨i0, hi, hz0, hz1, hz2⟩ := info_parts Tryd.info42
  rcases hown.2 with ⟨h0, h1⟩ | ⟨g, cap', cur, e, hg, hbk, hc, hm, hsz, ht⟩
  · have e : l = [] := List.eq_nil_of_length_eq_zero h1
    subst e
    refine wpList_append_own_none hgd sl x 47 ho base 42 i0 5 Tryd.underlying47 hi (.slice none 0 0) 0 [] hs (World.ownsRow_nil _ _ _ _) (by rw [hx]; exact h0) ?_
    exact h _ _ (World.ownsRow_nil _ _ _ _) ⟨rfl, rfl, rfl, Nat.le_refl _, fun _ _ _ => rfl⟩
  · have e' : ad = some ⟨g, 0, none⟩ ∧ cap' = cap := by injection e with e1 e2 e3; exact ⟨e1, e3.symm⟩
    obtain ⟨rfl, rfl⟩ := e'
    refine wpList_append_own w hgd sl x 47 ho base 42 i0 (sessV sess0) 5 56 Tryd.underlying47 hi hz0 hz1 hz2 rfl (by decide) (.slice none 0 0) 0 [] hs (World.ownsRow_nil _ _ _ _) ⟨g, 0, none⟩ l.length cap' (sCells l) hx (sCells_length l) (fun j u hj => ?_) (fun u hu => ?_) (by unfold maxLen; omega) (by omega) hbase ?_
    · have hjl : j < (sCells l).length := (List.getElem?_eq_some_iff.1 hj).1
      rw [sCells_length] at hjl
      have := World.ownsRow.cellAt hown j hjl
      rw [addr_add', Nat.zero_add, this]
      exact hj
    · obtain ⟨s, _, hs'⟩ := List.mem_flatMap.1 hu
      simp at hs'
      rcases hs' with rfl | rfl | rfl | rfl | rfl <;> rfl
    · intro v' w' h1 h2 h3
      rw [Nat.zero_add, List.nil_append] at h1
      exact h v' w' h1 h2
end Go.Proofs.YtcchlcbonfdhpaaDoor
