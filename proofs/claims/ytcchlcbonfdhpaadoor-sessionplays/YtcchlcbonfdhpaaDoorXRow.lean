/- Rows as they lie in memory, beside the texts on sessions. -/
import Derived.Test.YtcchlcbonfdhpaaDoorXNum
import Derived.Laws.AppendOwnNone
namespace Go.Proofs.YtcchlcbonfdhpaaDoor
open Go.RowKit Go.Maps Go.Sort Go.Shelf
set_option linter.unusedVariables false
set_option maxRecDepth 20000
/-- a row -/
structure Rw where
  key : ByteArray
  cols : List ByteArray
/-- a row as it lies -/
structure RC where
  key : ByteArray
  ad : Option Addr
  len : Nat
  cap : Nat
def rcCells (l : List RC) : List Value := l.flatMap fun r => [.string r.key, .slice r.ad r.len r.cap]
theorem rcCells_length (l : List RC) : (rcCells l).length = l.length * 2 := by
  induction l with
  | nil => rfl
  | cons x r ih => rw [rcCells, List.flatMap_cons, ← rcCells, List.length_append, ih]; simp; omega
theorem rcCells_snoc (l : List RC) (r : RC) : rcCells (l ++ [r]) = rcCells l ++ [.string r.key, .slice r.ad r.len r.cap] := by simp [rcCells]
theorem rcCells_app (l m : List RC) : rcCells (l ++ m) = rcCells l ++ rcCells m := by simp [rcCells]
theorem rcCells_one (l : List RC) : ∀ u ∈ rcCells l, u.oneCell' = true := fun u hu => by
  obtain ⟨r, _, h⟩ := List.mem_flatMap.1 hu
  simp at h
  rcases h with rfl | rfl <;> rfl
theorem rcCells_get (l : List RC) (i : Nat) (hi : i < l.length) : (rcCells l)[i * 2]? = some (.string l[i].key) ∧ (rcCells l)[i * 2 + 1]? = some (.slice l[i].ad l[i].len l[i].cap) := by
  induction l generalizing i with
  | nil => simp at hi
  | cons x r ih =>
    rw [rcCells, List.flatMap_cons, ← rcCells]
    cases i with
    | zero => exact ⟨rfl, rfl⟩
    | succ m =>
      have hm : m < r.length := by simpa using hi
      have := ih m hm
      rw [List.getElem?_append_right (by simp; omega), List.getElem?_append_right (by simp; omega)]
      simp only [List.length_cons, List.length_nil, List.getElem_cons_succ]
      rw [show (m + 1) * 2 - (0 + 1 + 1) = m * 2 by omega, show (m + 1) * 2 + 1 - (0 + 1 + 1) = m * 2 + 1 by omega]
      exact this
/-- texts that fill the head of a block of texts -/
def ColAt (w : World) (a : Option Addr) (l : List ByteArray) : Prop := ∃ b cur, a = some ⟨b, 0, none⟩ ∧ w.heap[b]? = some (.cells cur 9 (0, 0)) ∧ cur.toList.take l.length = l.map Value.string
theorem ColAt.below {w w' : World} {a : Option Addr} {l : List ByteArray} (h : ColAt w a l) (hb : Below w.heap.size w w') : ColAt w' a l := by
  obtain ⟨b, cur, e, h1, h2⟩ := h
  exact ⟨b, cur, e, (hb.block b (Array.getElem?_eq_some_iff.1 h1).1).trans h1, h2⟩
theorem ColAt.texts {w : World} {a : Option Addr} {l : List ByteArray} (h : ColAt w a l) : Texts w a l := fun i hi => by
  obtain ⟨b, cur, e, h1, h2⟩ := h
  refine ⟨b, 0, e, ?_⟩
  have h3 : (cur.toList.take l.length)[i]? = some (.string l[i]) := by rw [h2]; simp [hi]
  rw [List.getElem?_take_of_lt hi] at h3
  have h4 : cur[i]? = some (.string l[i]) := by simpa using h3
  rw [Nat.zero_add]
  simp [World.cell?, h1, h4]
theorem ne_row {w : World} {B n g b : Nat} {v : Value} {xs : List Value} {cur : Array Value} (hown : w.ownsRow B 67 2 v n xs) (hb : w.heap[b]? = some (.cells cur 9 (0, 0))) : v.ownBlock ≠ some b := by
  intro e
  rcases hown.2 with ⟨rfl, _⟩ | ⟨g, cap, cur', rfl, _, hg, _⟩
  · cases e
  · have : g = b := by simpa [Value.ownBlock] using e
    subst this
    rw [hb] at hg
    injection hg with hg
    injection hg with _ ht _
    exact absurd ht (by decide)
theorem ColAt.grown {w w' : World} {a : Option Addr} {l : List ByteArray} (h : ColAt w a l) {B n : Nat} {v : Value} {xs : List Value} (hown : w.ownsRow B 67 2 v n xs) (hg : w.grownBy w' v.ownBlock) : ColAt w' a l := by
  obtain ⟨b, cur, e, h1, h2⟩ := h
  exact ⟨b, cur, e, (hg.block b (Array.getElem?_eq_some_iff.1 h1).1 (ne_row (g := 0) hown h1).symm).trans h1, h2⟩
/-- rows lie as those -/
def RowIs (w : World) (r : RC) (x : Rw) : Prop := r.key = x.key ∧ r.len = x.cols.length ∧ ColAt w r.ad x.cols
def RowsIs (w : World) : List RC → List Rw → Prop
  | [], [] => True
  | r :: l, x :: m => RowIs w r x ∧ RowsIs w l m
  | _, _ => False
theorem RowsIs.imp {w w' : World} (h0 : ∀ r x, RowIs w r x → RowIs w' r x) : ∀ {l : List RC} {m : List Rw}, RowsIs w l m → RowsIs w' l m
  | [], [], _ => trivial
  | _ :: _, _ :: _, ⟨h1, h2⟩ => ⟨h0 _ _ h1, RowsIs.imp h0 h2⟩
theorem RowIs.below {w w' : World} {r : RC} {x : Rw} (h : RowIs w r x) (hb : Below w.heap.size w w') : RowIs w' r x := ⟨h.1, h.2.1, h.2.2.below hb⟩
theorem RowsIs.below {w w' : World} {l : List RC} {m : List Rw} (h : RowsIs w l m) (hb : Below w.heap.size w w') : RowsIs w' l m := h.imp fun _ _ h => h.below hb
theorem RowsIs.grown {w w' : World} {l : List RC} {m : List Rw} (h : RowsIs w l m) {B n : Nat} {v : Value} {xs : List Value} (hown : w.ownsRow B 67 2 v n xs) (hg : w.grownBy w' v.ownBlock) : RowsIs w' l m := h.imp fun _ _ h => ⟨h.1, h.2.1, h.2.2.grown hown hg⟩
theorem RowsIs.length {w : World} : ∀ {l : List RC} {m : List Rw}, RowsIs w l m → l.length = m.length
  | [], [], _ => rfl
  | _ :: _, _ :: _, ⟨_, h2⟩ => by simp [RowsIs.length h2]
theorem RowsIs.app {w : World} : ∀ {l : List RC} {m : List Rw} {l' : List RC} {m' : List Rw}, RowsIs w l m → RowsIs w l' m' → RowsIs w (l ++ l') (m ++ m')
  | [], [], _, _, _, h => h
  | _ :: _, _ :: _, _, _, ⟨h1, h2⟩, h => ⟨h1, RowsIs.app h2 h⟩
theorem RowsIs.get {w : World} : ∀ {l : List RC} {m : List Rw} (i : Nat) (h1 : i < l.length) (h2 : i < m.length), RowsIs w l m → RowIs w l[i] m[i]
  | r :: l, x :: m, 0, _, _, h => (show RowIs w r x ∧ RowsIs w l m from h).1
  | r :: l, x :: m, i + 1, h1, h2, h => RowsIs.get i (by simpa using h1) (by simpa using h2) (show RowIs w r x ∧ RowsIs w l m from h).2
theorem Tryd.info67 : (Tryd.prog.info? 67).map (fun i => (i.zero, i.size, i.bytes)) = some (some (.agg #[.string ⟨#[]⟩, .slice none 0 0]), 2, 40) := by kernel_rfl
/-- append(v, row), v a row of rows of the call's own -/
theorem app_rowR {W : World} {o : Oper} {a : Act} {K : Act → World → Prop} {Q : Exit → Act → World → Prop} (sl x : Operand)
    (ho : o.op = .call { callee := .builtin .append, args := #[sl, x], argTypes := #[34, 34] }) (w : World) (k : ByteArray) (ca : Option Addr) (cn cc : Nat) (hW : W = w.alloc (.cells #[.string k, .slice ca cn cc] 67)) (base : Nat) (v : Value) (l : List RC) (hs : a.eval sl = v)
    (hown : w.ownsRow base 67 2 v l.length (rcCells l)) (hx : a.eval x = .slice (some ⟨w.heap.size, 0, none⟩) 1 1) (hb : l.length ≤ 2000000000) (hbase : base ≤ w.heap.size)
    (h : ∀ v' w', w'.ownsRow base 67 2 v' (l ++ [RC.mk k ca cn cc]).length (rcCells (l ++ [RC.mk k ca cn cc])) → w.grownBy w' v.ownBlock → K (a.put o.dst v') w') :
    o.wp Tryd.prog a W K Q := by
  subst hW
  obtain ⟨i0, hi, hz0, hz1, hz2⟩ := info_parts Tryd.info67
  refine wp_append_own _ sl x 34 ho base 67 i0 (.agg #[.string ⟨#[]⟩, .slice none 0 0]) 2 40 Tryd.underlying34 hi hz0 hz1 hz2 rfl (by decide) v l.length (rcCells l) hs (hown.alloc _) ⟨w.heap.size, 0, none⟩ 1 1 [.string k, .slice ca cn cc] hx rfl (World.news_of_block (cs := #[.string k, .slice ca cn cc]) (t := 67) (fr := (0, 0)) (MapKept.heap_alloc w _).1) (by simp [Value.oneCell']) (by unfold maxLen; omega) (by omega) (by simp; omega) ?_
  intro v' w' h1 h2 h3
  refine h v' w' ?_ ((World.grownBy_alloc w _ _).trans h2)
  rw [rcCells_snoc, List.length_append]
  exact h1
/-- append(v, x...), v and x rows of rows, v the call's own -/
theorem app_rows {w : World} {ops : Array Oper} {rest : List Oper} {o : Oper} {a : Act} {Q : Exit → Act → World → Prop} (hgd : o.guard = none) (sl x : Operand)
    (ho : o.op = .call { callee := .builtin .append, args := #[sl, x], argTypes := #[34, 34] }) (base : Nat) (v : Value) (l : List RC) (hs : a.eval sl = v) (hown : w.ownsRow base 67 2 v l.length (rcCells l))
    (base2 : Nat) (v2 : Value) (l2 : List RC) (hx : a.eval x = v2) (hown2 : w.ownsRow base2 67 2 v2 l2.length (rcCells l2)) (hb : l.length + l2.length ≤ 3000000000) (hbase : base ≤ w.heap.size)
    (h : ∀ v' w', w'.ownsRow base 67 2 v' (l ++ l2).length (rcCells (l ++ l2)) → w.grownBy w' v.ownBlock → wpList Tryd.prog ops Q rest (a.put o.dst v') w') :
    wpList Tryd.prog ops Q (o :: rest) a w := by
  obtain ⟨i0, hi, hz0, hz1, hz2⟩ := info_parts Tryd.info67
  rcases hown2.2 with ⟨rfl, h0⟩ | ⟨g, cap, cur, rfl, hg, hbk, hc, hm, hsz, ht⟩
  · have e : l2 = [] := List.eq_nil_of_length_eq_zero h0
    subst e
    refine wpList_append_own_none hgd sl x 34 ho base 67 i0 2 Tryd.underlying34 hi v l.length (rcCells l) hs hown hx (h _ _ ?_ ⟨rfl, rfl, rfl, Nat.le_refl _, fun _ _ _ => rfl⟩)
    rw [List.append_nil]
    exact hown
  · refine wpList_append_own w hgd sl x 34 ho base 67 i0 (.agg #[.string ⟨#[]⟩, .slice none 0 0]) 2 40 Tryd.underlying34 hi hz0 hz1 hz2 rfl (by decide) v l.length (rcCells l) hs hown ⟨g, 0, none⟩ l2.length cap (rcCells l2) hx hown2.1 (fun j u hj => ?_) (rcCells_one l2) (by unfold maxLen; omega) (by omega) hbase ?_
    · have hjl : j < (rcCells l2).length := (List.getElem?_eq_some_iff.1 hj).1
      rw [hown2.1] at hjl
      have := World.ownsRow.cellAt hown2 j hjl
      rw [show (⟨g, 0, none⟩ : Addr).add j = ⟨g, 0 + j, none⟩ by unfold Addr.add; split <;> simp_all, Nat.zero_add, this]
      exact hj
    · intro v' w' h1 h2 h3
      refine h v' w' ?_ h2
      rw [rcCells_app, List.length_append]
      exact h1
theorem own_onW {w w' : World} {B e s n : Nat} {v : Value} {xs : List Value} (h : w.ownsRow B e s v n xs) (hb : Below w.heap.size w w') : w'.ownsRow B e s v n xs := by
  refine ⟨h.1, ?_⟩
  rcases h.2 with h0 | ⟨g, cap, cur, hv, hg, hgb, r⟩
  · exact .inl h0
  · exact .inr ⟨g, cap, cur, hv, hg, (hb.block _ (Array.getElem?_eq_some_iff.1 hgb).1).trans hgb, r⟩
theorem slice_of_own {w : World} {B e s n : Nat} {v : Value} {xs : List Value} (h : w.ownsRow B e s v n xs) : ∃ a c, v = .slice a n c := by
  rcases h.2 with ⟨rfl, h0⟩ | ⟨g, cap, cur, rfl, _⟩
  · exact ⟨none, 0, by rw [h0]⟩
  · exact ⟨_, _, rfl⟩
theorem cell_on {V V' : World} (hb : Below V.heap.size V V') {a : Addr} {v : Value} (h : V.cell? a = some v) : V'.cell? a = some v := (hb.cell (World.block_lt_of_cell? _ _ h)).trans h
end Go.Proofs.YtcchlcbonfdhpaaDoor
