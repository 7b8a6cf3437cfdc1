/- Rows of a table of sessions, on the program's side: Texts and Rows, exact. -/
import Derived.Test.YtcchlcbonfdhpaaDoorXCols
namespace Go.Proofs.YtcchlcbonfdhpaaDoor
open Go.RowKit Go.Maps Go.Sort Go.Shelf
set_option linter.unusedVariables false
set_option maxRecDepth 20000
theorem Tryd.info9 : (Tryd.prog.info? 9).map (fun i => (i.zero, i.size, i.bytes)) = some (some (.string ⟨#[]⟩), 1, 16) := by kernel_rfl
/-- texts as cells -/
def strsOf (l : List ByteArray) : List Value := l.map Value.string
theorem strsOf_length (l : List ByteArray) : (strsOf l).length = l.length := by simp [strsOf]

/-- append(v, s), v a row of texts of the call's own -/
theorem app_text (w : World) {ops : Array Oper} {rest : List Oper} {o : Oper} {a : Act} {Q : Exit → Act → World → Prop} (hgd : o.guard = none) (sl x : Operand)
    (ho : o.op = .call { callee := .builtin .append, args := #[sl, x], argTypes := #[65, 65] }) (base : Nat) (v : Value) (xs : List ByteArray) (hs : a.eval sl = v)
    (hown : w.ownsRow base 9 1 v xs.length (strsOf xs)) (s : ByteArray) (hx : a.eval x = .slice (some ⟨w.heap.size, 0, none⟩) 1 1) (hb : (xs.length + 1) * 16 ≤ 140737488355328) (hbase : base ≤ w.heap.size)
    (h : ∀ v' w', w'.ownsRow base 9 1 v' (xs ++ [s]).length (strsOf (xs ++ [s])) → Below base w w' → (∃ g cap, v' = .slice (some ⟨g, 0, none⟩) (xs ++ [s]).length cap) → wpList Tryd.prog ops Q rest (a.put o.dst v') w') :
    wpList Tryd.prog ops Q (o :: rest) a (w.alloc (.cells #[.string s] 9)) := by
  obtain ⟨i0, hi, hz0, hz1, hz2⟩ := info_parts Tryd.info9
  refine wpList_append_own _ hgd sl x 65 ho base 9 i0 (.string ⟨#[]⟩) 1 16 Tryd.underlying65 hi hz0 hz1 hz2 rfl (by decide) v xs.length (strsOf xs) hs (hown.alloc _) ⟨w.heap.size, 0, none⟩ 1 1 [.string s] hx rfl (cell_one_new _ _ _) (fun u hu => by simp at hu; subst hu; rfl) (by unfold maxLen; omega) (by omega) (by simp; omega) ?_
  intro v' w' h1 h2 h3
  have e : strsOf xs ++ [.string s] = strsOf (xs ++ [s]) := by simp [strsOf]
  have e2 : xs.length + 1 = (xs ++ [s]).length := by simp
  rw [e, e2] at h1
  refine h v' w' h1 (((Below.refl _ _).alloc hbase _).trans ((Below.refl _ _).grown h2 (by simp; omega) (fun k hk => (hown.lt k hk).1))) ?_
  rcases h1.2 with ⟨_, h0⟩ | ⟨g, cap, _, rfl, _⟩
  · simp at h0
  · exact ⟨g, cap, rfl⟩

/-- numbers that lie in a row -/
def NumsIn (w : World) (b : Nat) (l : List Nat) : Prop := ∀ i (h : i < l.length), w.cell? ⟨b, i, none⟩ = some (.int .i64 (l[i] : Int))
set_option maxHeartbeats 1000000 in
theorem texts_any (w : World) (b cap : Nat) (l : List Nat) (hl : NumsIn w b l) (hsm : ∀ n ∈ l, n ≤ 4611686018427387904) (hlen : l.length ≤ 1000) (ht : NTab w) :
    Calls Tryd.prog 33 #[.slice (some ⟨b, 0, none⟩) l.length cap] w fun e w' => ∃ v, e = .returned v ∧ w'.ownsRow w.heap.size 9 1 v l.length (strsOf (l.map txt)) ∧ Below w.heap.size w w' := by
  have HL := hid hl
  have HT := hid ht
  have Hsm := hid hsm
  clear hl ht hsm
  go_enter Tryd.func33, Tryd.ntmps33
  go_wp2_with fail
  go_loopw [3, 8] (fun v i wr => ∃ k : Nat, k ≤ l.length ∧ i = .int .i64 (k : Int) ∧ wr.ownsRow w.heap.size 9 1 v ((l.take k).map txt).length (strsOf ((l.take k).map txt)) ∧ Below w.heap.size w wr) (fun _ i _ => l.length - (intOf i).toNat)
  case atStart => exact ⟨0, Nat.zero_le _, rfl, World.ownsRow_nil _ _ _ _, Below.refl _ _⟩
  case round =>
    obtain ⟨k, hk, rfl, hown, hbel⟩ := hrel
    have Hown := hid hown
    have Hbel := hid hbel
    have hle := hbel.size
    clear hown hbel
    by_cases hlt : k < l.length
    · have g1 : (k : Int) < (l.length : Int) := by omega
      have c0 := HL.out k hlt
      have hb1 : b < w.heap.size := World.block_lt_of_cell? _ _ c0
      have c1 := (Hbel.out.cell (p := ⟨b, k, none⟩) hb1).trans c0
      have HC := hid (text_any l[k] (Hsm.out _ (List.getElem_mem hlt)) wr (by have h := HT.out; unfold NTab at h ⊢; exact (Hbel.out.cell (World.block_lt_of_cell? _ _ h)).trans h))
      have Hst : Hid ((l.take (k + 1)).map txt = (l.take k).map txt ++ [txt l[k]]) := by show _ = _; rw [List.take_succ_eq_append_getElem hlt, List.map_append]; rfl
      have Hlk : Hid (((l.take k).map txt).length ≤ 1000) := by show _ ≤ _; simp; omega
      generalize (l[k]'hlt) = m at *
      generalize txt m = t at *
      generalize (l.take k).map txt = xs at *
      clear c0
      go_wp2_with (first
        | (go_at_call 54; refine HC.out.mono ?_; rintro e w1 ⟨rfl, hb2⟩; have Hown1 := hid (own_onW Hown.out hb2); have Hb2 := hid hb2; clear hb2)
        | (at_builtin; refine app_text _ rfl (.tmp 12) (.tmp 15) rfl w.heap.size _ xs rfl Hown1.out t rfl (by have := Hlk.out; omega) (Nat.le_trans hle Hb2.out.size) ?_; intro v' w' hown' hb' hv'; have Hown' := hid hown'; have Hb' := hid hb'; clear hown' hb' hv'))
      go_roundw
      case rel => exact ⟨k + 1, by omega, by go_num, by rw [Hst.out]; exact Hown'.out, (Below.on' Hbel.out Hb2.out).trans Hb'.out⟩
      case measure => simp [intOf]; omega
    · have hkl : k = l.length := by omega
      have g1 : ¬ (k : Int) < (l.length : Int) := by omega
      have hend := Hown.out
      rw [hkl, List.take_length, List.length_map] at hend
      have Hend := hid hend
      clear hkl Hown hend
      go_wp2
      go_ret
      exact ⟨_, rfl, Hend.out, Hbel.out⟩

theorem col_of_own {w : World} {B : Nat} {v : Value} {xs : List ByteArray} (h : w.ownsRow B 9 1 v xs.length (strsOf xs)) (h0 : 0 < xs.length) : ∃ a c, v = .slice a xs.length c ∧ ColAt w a xs := by
  rcases h.2 with ⟨_, h1⟩ | ⟨g, cap, cur, rfl, _, hg, _, _, _, ht⟩
  · omega
  · exact ⟨_, _, rfl, g, cur, rfl, hg, by rw [Nat.mul_one] at ht; exact ht⟩
theorem nums2 (w : World) (p q : Nat) : NumsIn (w.alloc (.cells #[.int .i64 (p : Int), .int .i64 (q : Int)] 3)) w.heap.size [p, q] := fun i hi => by
  rw [World.cell?_alloc_at _ _ _ _ rfl]
  simp only [List.length_cons, List.length_nil] at hi
  match i, hi with
  | 0, _ => rfl
  | 1, _ => rfl
theorem texts2_any (w : World) (ht : NTab w) (p q : Nat) (hp : p ≤ 4611686018427387904) (hq : q ≤ 4611686018427387904) : Calls Tryd.prog 33 #[.slice (some ⟨w.heap.size, 0, none⟩) 2 2] (w.alloc (.cells #[.int .i64 (p : Int), .int .i64 (q : Int)] 3)) (ColPost w [txt p, txt q]) := by
  have hb : Below w.heap.size w (w.alloc (.cells #[.int .i64 (p : Int), .int .i64 (q : Int)] 3)) := (Below.refl _ w).alloc (Nat.le_refl _) _
  refine (texts_any _ w.heap.size 2 [p, q] (nums2 w p q) (fun n hn => by simp at hn; rcases hn with rfl | rfl <;> assumption) (by show 2 ≤ 1000; omega) (ht.below hb)).mono ?_
  rintro e w' ⟨v, rfl, ho, h⟩
  obtain ⟨a, c, rfl, hc⟩ := col_of_own (xs := [txt p, txt q]) ho (by show 0 < 2; omega)
  exact ⟨a, c, rfl, hc, Below.on' hb h⟩
/-- the rows of a table -/
def rowsM (T : Tab) : List Rw := ⟨⟨#[35]⟩, [txt T.next.toNat, txt T.noted.toNat]⟩ :: T.l.map sesRow
theorem own_new1 (w : World) (k : ByteArray) (ca : Option Addr) (cn cc : Nat) : (w.alloc (.cells #[.string k, .slice ca cn cc] 67)).ownsRow w.heap.size 67 2 (.slice (some ⟨w.heap.size, 0, none⟩) 1 1) [RC.mk k ca cn cc].length (rcCells [RC.mk k ca cn cc]) :=
  ⟨rfl, .inr ⟨w.heap.size, 1, #[.string k, .slice ca cn cc], rfl, Nat.le_refl _, (MapKept.heap_alloc w _).1, Nat.le_refl _, by unfold maxLen; omega, rfl, rfl⟩⟩
/-- append(v, x...), within a region -/
theorem app_rowsW {w : World} {o : Oper} {a : Act} {K : Act → World → Prop} {Q : Exit → Act → World → Prop} (sl x : Operand)
    (ho : o.op = .call { callee := .builtin .append, args := #[sl, x], argTypes := #[34, 34] }) (base : Nat) (v : Value) (l : List RC) (hs : a.eval sl = v) (hown : w.ownsRow base 67 2 v l.length (rcCells l))
    (base2 : Nat) (v2 : Value) (l2 : List RC) (hx : a.eval x = v2) (hown2 : w.ownsRow base2 67 2 v2 l2.length (rcCells l2)) (hb : l.length + l2.length ≤ 3000000000) (hbase : base ≤ w.heap.size)
    (h : ∀ v' w', w'.ownsRow base 67 2 v' (l ++ l2).length (rcCells (l ++ l2)) → w.grownBy w' v.ownBlock → K (a.put o.dst v') w') :
    o.wp Tryd.prog a w K Q := by
  obtain ⟨i0, hi, hz0, hz1, hz2⟩ := info_parts Tryd.info67
  rcases hown2.2 with ⟨rfl, h0⟩ | ⟨g, cap, cur, rfl, hg, hbk, hc, hm, hsz, ht⟩
  · have e : l2 = [] := List.eq_nil_of_length_eq_zero h0
    subst e
    have hrun := run_append_owned_none (P := Tryd.prog) (w := w) base 34 o.type 67 i0 2 Tryd.underlying34 hi v l.length (rcCells l) hown
    have hk := h v w (by rw [List.append_nil]; exact hown) ⟨rfl, rfl, rfl, Nat.le_refl _, fun _ _ _ => rfl⟩
    unfold Oper.wp
    simp [execOp, ho, resolve, invoke, builtin, hs, hx, hrun, Result.andThen]
    exact hk
  · refine wp_append_own w sl x 34 ho base 67 i0 (.agg #[.string ⟨#[]⟩, .slice none 0 0]) 2 40 Tryd.underlying34 hi hz0 hz1 hz2 rfl (by decide) v l.length (rcCells l) hs hown ⟨g, 0, none⟩ l2.length cap (rcCells l2) hx hown2.1 (fun j u hj => ?_) (rcCells_one l2) (by unfold maxLen; omega) (by omega) hbase ?_
    · have hjl : j < (rcCells l2).length := (List.getElem?_eq_some_iff.1 hj).1
      rw [hown2.1] at hjl
      have := World.ownsRow.cellAt hown2 j hjl
      rw [show (⟨g, 0, none⟩ : Addr).add j = ⟨g, 0 + j, none⟩ by unfold Addr.add; split <;> simp_all, Nat.zero_add, this]
      exact hj
    · intro v' w' h1 h2 h3
      refine h v' w' ?_ h2
      rw [rcCells_app, List.length_append]
      exact h1
end Go.Proofs.YtcchlcbonfdhpaaDoor
