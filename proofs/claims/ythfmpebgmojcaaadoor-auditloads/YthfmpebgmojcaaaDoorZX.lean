/- Rows as they lie, the reference's SameRows and Sorted. (Printed by gen/zx.py out of XNum, XRow, XSame, XSort.) -/
import Derived.Test.YthfmpebgmojcaaaDoorZRw9
import Derived.BigQuiet
import Derived.Deep.QuietTactic
import Derived.Laws.AppendOwnNone
import Derived.Deep.RegionHeld3
namespace Go.Proofs.YthfmpebgmojcaaaDoor.Xr
open Go.RowKit
set_option linter.unusedVariables false
set_option maxRecDepth 20000
theorem str_eq (s t : ByteArray) : s = t ↔ s.toList = t.toList := by
  constructor
  · intro h; rw [h]
  · intro h
    rw [Lib.toList_data, Lib.toList_data] at h
    rw [← Lib.mk_data s, ← Lib.mk_data t, h]
set_option maxHeartbeats 400000 in
theorem sameTexts_any (x y : List ByteArray) (a b : Option Addr) (ca cb : Nat) (w : World) (hx : Texts w a x) (hy : Texts w b y) (lx : x.length ≤ 140737488351232) (ly : y.length ≤ 140737488351232) :
    Calls Tryd.prog 38 #[.slice a x.length ca, .slice b y.length cb] w fun e w' => e = .returned (.bool (decide (x = y))) ∧ Below w.heap.size w w' := by
  have Hx := hid hx
  have Hy := hid hy
  clear hx hy
  by_cases hl : x.length = y.length
  · have d1 : ((x.length : Int) != (y.length : Int)) = false := by rw [bne_eq_false_iff_eq]; omega
    have Hl := hid hl
    clear hl
    go_enter Tryd.func38, Tryd.ntmps38
    go_wp2
    go_loopw [5] (fun i wr => ∃ k : Nat, k ≤ x.length ∧ i = .int .i64 k ∧ x.take k = y.take k ∧ Below w.heap.size w wr) (fun i _ => x.length - (intOf i).toNat)
    case atStart => exact ⟨0, Nat.zero_le _, rfl, rfl, Below.refl _ _⟩
    case round =>
      obtain ⟨k, hk, rfl, hpre, hbel⟩ := hrel
      have Hpre := hid hpre
      have Hbel := hid hbel
      clear hpre hbel
      by_cases hlt : k < x.length
      · have hlt2 : k < y.length := by have := Hl.out; omega
        obtain ⟨b1, o1, ha, hc1⟩ := (Hx.out.below Hbel.out) k hlt
        obtain ⟨b2, o2, hb, hc2⟩ := (Hy.out.below Hbel.out) k hlt2
        have HX : Hid (x.take (k + 1) = x.take k ++ [x[k]]) := List.take_succ_eq_append_getElem hlt
        have HY : Hid (y.take (k + 1) = y.take k ++ [y[k]]) := List.take_succ_eq_append_getElem hlt2
        have HN : Hid (x[k] ≠ y[k] → x ≠ y) := fun h e => h (by subst e; rfl)
        generalize x[k] = c1 at *
        generalize y[k] = c2 at *
        subst ha
        subst hb
        by_cases hc : c1 = c2
        · have e1 : (c1.toList == c2.toList) = true := by rw [hc]; simp
          have H12 := hid hc
          clear hc
          go_wp2
          go_quiet (fail)
          go_wp2
          go_roundw
          case rel => exact ⟨k + 1, by omega, by go_num, by rw [HX.out, HY.out, Hpre.out, H12.out], Hbel.out.trans (below_drewN _ _ _)⟩
          case measure => simp [intOf]; omega
        · have e1 : (c1.toList == c2.toList) = false := by
            rw [beq_eq_false_iff_ne]
            exact fun e => hc ((str_eq _ _).2 e)
          have Hne := hid (HN.out hc)
          clear hc
          go_wp2
          go_quiet (fail)
          go_wp2
          go_ret
          exact ⟨ret_bool (by simp [Hne.out]), Hbel.out.trans (below_drewN _ _ _)⟩
      · go_wp2
        go_ret
        refine ⟨ret_bool ?_, Hbel.out⟩
        have h := Hpre.out
        rw [List.take_of_length_le (by omega), List.take_of_length_le (by have := Hl.out; omega)] at h
        simp [h]
  · have d1 : ((x.length : Int) != (y.length : Int)) = true := by rw [bne_iff_ne]; omega
    have hne : decide (x = y) = false := by simp; intro e; exact hl (congrArg List.length e)
    rw [hne]
    clear hl hne
    go_enter Tryd.func38, Tryd.ntmps38
    go_wp2
    go_ret
    exact ⟨rfl, Below.refl _ _⟩
structure Rw where
  key : ByteArray
  cols : List ByteArray
structure RC where
  key : ByteArray
  ad : Option Addr
  len : Nat
  cap : Nat
def rcCells (l : List RC) : List Value := l.flatMap fun r => [.string r.key, .slice r.ad r.len r.cap]
theorem rcCells_snoc (l : List RC) (r : RC) : rcCells (l ++ [r]) = rcCells l ++ [.string r.key, .slice r.ad r.len r.cap] := by simp [rcCells]
theorem rcCells_app (l m : List RC) : rcCells (l ++ m) = rcCells l ++ rcCells m := by simp [rcCells]
theorem rcCells_one (l : List RC) : ∀ u ∈ rcCells l, u.oneCell' = true := fun u hu => by
  obtain ⟨r, _, h⟩ := List.mem_flatMap.1 hu
  simp at h
  rcases h with rfl | rfl <;> rfl
theorem rcCells_get (l : List RC) (i : Nat) (hi : i < l.length) : (rcCells l)[i * 2]? = some (.string l[i].key) ∧ (rcCells l)[i * 2 + 1]? = some (.slice l[i].ad l[i].len l[i].cap) := by
  induction l generalizing i with
  | nil => simp at hi
  | cons x r ih =>
    rw [rcCells, List.flatMap_cons, ← rcCells]
    cases i with
    | zero => exact ⟨rfl, rfl⟩
    | succ m =>
      have hm : m < r.length := by simpa using hi
      have := ih m hm
      rw [List.getElem?_append_right (by simp; omega), List.getElem?_append_right (by simp; omega)]
      simp only [List.length_cons, List.length_nil, List.getElem_cons_succ]
      rw [show (m + 1) * 2 - (0 + 1 + 1) = m * 2 by omega, show (m + 1) * 2 + 1 - (0 + 1 + 1) = m * 2 + 1 by omega]
      exact this
def ColAt (w : World) (a : Option Addr) (l : List ByteArray) : Prop := ∃ b cur, a = some ⟨b, 0, none⟩ ∧ w.heap[b]? = some (.cells cur 9 (0, 0)) ∧ cur.toList.take l.length = l.map Value.string
theorem ColAt.below {w w' : World} {a : Option Addr} {l : List ByteArray} (h : ColAt w a l) (hb : Below w.heap.size w w') : ColAt w' a l := by
  obtain ⟨b, cur, e, h1, h2⟩ := h
  exact ⟨b, cur, e, (hb.block b (Array.getElem?_eq_some_iff.1 h1).1).trans h1, h2⟩
theorem ColAt.texts {w : World} {a : Option Addr} {l : List ByteArray} (h : ColAt w a l) : Texts w a l := fun i hi => by
  obtain ⟨b, cur, e, h1, h2⟩ := h
  refine ⟨b, 0, e, ?_⟩
  have h3 : (cur.toList.take l.length)[i]? = some (.string l[i]) := by rw [h2]; simp [hi]
  rw [List.getElem?_take_of_lt hi] at h3
  have h4 : cur[i]? = some (.string l[i]) := by simpa using h3
  rw [Nat.zero_add]
  simp [World.cell?, h1, h4]
theorem ne_row {w : World} {B n g b : Nat} {v : Value} {xs : List Value} {cur : Array Value} (hown : w.ownsRow B 75 2 v n xs) (hb : w.heap[b]? = some (.cells cur 9 (0, 0))) : v.ownBlock ≠ some b := by
  intro e
  rcases hown.2 with ⟨rfl, _⟩ | ⟨g, cap, cur', rfl, _, hg, _⟩
  · cases e
  · have : g = b := by simpa [Value.ownBlock] using e
    subst this
    rw [hb] at hg
    injection hg with hg
    injection hg with _ ht _
    exact absurd ht (by decide)
theorem ColAt.grown {w w' : World} {a : Option Addr} {l : List ByteArray} (h : ColAt w a l) {B n : Nat} {v : Value} {xs : List Value} (hown : w.ownsRow B 75 2 v n xs) (hg : w.grownBy w' v.ownBlock) : ColAt w' a l := by
  obtain ⟨b, cur, e, h1, h2⟩ := h
  exact ⟨b, cur, e, (hg.block b (Array.getElem?_eq_some_iff.1 h1).1 (ne_row (g := 0) hown h1).symm).trans h1, h2⟩
def RowIs (w : World) (r : RC) (x : Rw) : Prop := r.key = x.key ∧ r.len = x.cols.length ∧ ColAt w r.ad x.cols
def RowsIs (w : World) : List RC → List Rw → Prop
  | [], [] => True
  | r :: l, x :: m => RowIs w r x ∧ RowsIs w l m
  | _, _ => False
theorem RowsIs.imp {w w' : World} (h0 : ∀ r x, RowIs w r x → RowIs w' r x) : ∀ {l : List RC} {m : List Rw}, RowsIs w l m → RowsIs w' l m
  | [], [], _ => trivial
  | _ :: _, _ :: _, ⟨h1, h2⟩ => ⟨h0 _ _ h1, RowsIs.imp h0 h2⟩
theorem RowIs.below {w w' : World} {r : RC} {x : Rw} (h : RowIs w r x) (hb : Below w.heap.size w w') : RowIs w' r x := ⟨h.1, h.2.1, h.2.2.below hb⟩
theorem RowsIs.below {w w' : World} {l : List RC} {m : List Rw} (h : RowsIs w l m) (hb : Below w.heap.size w w') : RowsIs w' l m := h.imp fun _ _ h => h.below hb
theorem RowsIs.grown {w w' : World} {l : List RC} {m : List Rw} (h : RowsIs w l m) {B n : Nat} {v : Value} {xs : List Value} (hown : w.ownsRow B 75 2 v n xs) (hg : w.grownBy w' v.ownBlock) : RowsIs w' l m := h.imp fun _ _ h => ⟨h.1, h.2.1, h.2.2.grown hown hg⟩
theorem RowsIs.length {w : World} : ∀ {l : List RC} {m : List Rw}, RowsIs w l m → l.length = m.length
  | [], [], _ => rfl
  | _ :: _, _ :: _, ⟨_, h2⟩ => by simp [RowsIs.length h2]
theorem RowsIs.get {w : World} : ∀ {l : List RC} {m : List Rw} (i : Nat) (h1 : i < l.length) (h2 : i < m.length), RowsIs w l m → RowIs w l[i] m[i]
  | r :: l, x :: m, 0, _, _, h => (show RowIs w r x ∧ RowsIs w l m from h).1
  | r :: l, x :: m, i + 1, h1, h2, h => RowsIs.get i (by simpa using h1) (by simpa using h2) (show RowIs w r x ∧ RowsIs w l m from h).2
theorem infoRow : (Tryd.prog.info? 75).map (fun i => (i.zero, i.size, i.bytes)) = some (some (.agg #[.string ⟨#[]⟩, .slice none 0 0]), 2, 40) := by kernel_rfl
theorem app_rows {w : World} {ops : Array Oper} {rest : List Oper} {o : Oper} {a : Act} {Q : Exit → Act → World → Prop} (hgd : o.guard = none) (sl x : Operand)
    (ho : o.op = .call { callee := .builtin .append, args := #[sl, x], argTypes := #[22, 22] }) (base : Nat) (v : Value) (l : List RC) (hs : a.eval sl = v) (hown : w.ownsRow base 75 2 v l.length (rcCells l))
    (base2 : Nat) (v2 : Value) (l2 : List RC) (hx : a.eval x = v2) (hown2 : w.ownsRow base2 75 2 v2 l2.length (rcCells l2)) (hb : l.length + l2.length ≤ 3000000000) (hbase : base ≤ w.heap.size)
    (h : ∀ v' w', w'.ownsRow base 75 2 v' (l ++ l2).length (rcCells (l ++ l2)) → w.grownBy w' v.ownBlock → wpList Tryd.prog ops Q rest (a.put o.dst v') w') :
    wpList Tryd.prog ops Q (o :: rest) a w := by
  obtain ⟨i0, hi, hz0, hz1, hz2⟩ := info_parts infoRow
  rcases hown2.2 with ⟨rfl, h0⟩ | ⟨g, cap, cur, rfl, hg, hbk, hc, hm, hsz, ht⟩
  · have e : l2 = [] := List.eq_nil_of_length_eq_zero h0
    subst e
    refine wpList_append_own_none hgd sl x 22 ho base 75 i0 2 Tryd.underlying22 hi v l.length (rcCells l) hs hown hx (h _ _ ?_ ⟨rfl, rfl, rfl, Nat.le_refl _, fun _ _ _ => rfl⟩)
    rw [List.append_nil]
    exact hown
  · refine wpList_append_own w hgd sl x 22 ho base 75 i0 (.agg #[.string ⟨#[]⟩, .slice none 0 0]) 2 40 Tryd.underlying22 hi hz0 hz1 hz2 rfl (by decide) v l.length (rcCells l) hs hown ⟨g, 0, none⟩ l2.length cap (rcCells l2) hx hown2.1 (fun j u hj => ?_) (rcCells_one l2) (by unfold maxLen; omega) (by omega) hbase ?_
    · have hjl : j < (rcCells l2).length := (List.getElem?_eq_some_iff.1 hj).1
      rw [hown2.1] at hjl
      have := World.ownsRow.cellAt hown2 j hjl
      rw [show (⟨g, 0, none⟩ : Addr).add j = ⟨g, 0 + j, none⟩ by unfold Addr.add; split <;> simp_all, Nat.zero_add, this]
      exact hj
    · intro v' w' h1 h2 h3
      refine h v' w' ?_ h2
      rw [rcCells_app, List.length_append]
      exact h1
theorem own_onW {w w' : World} {B e s n : Nat} {v : Value} {xs : List Value} (h : w.ownsRow B e s v n xs) (hb : Below w.heap.size w w') : w'.ownsRow B e s v n xs := by
  refine ⟨h.1, ?_⟩
  rcases h.2 with h0 | ⟨g, cap, cur, hv, hg, hgb, r⟩
  · exact .inl h0
  · exact .inr ⟨g, cap, cur, hv, hg, (hb.block _ (Array.getElem?_eq_some_iff.1 hgb).1).trans hgb, r⟩
theorem slice_of_own {w : World} {B e s n : Nat} {v : Value} {xs : List Value} (h : w.ownsRow B e s v n xs) : ∃ a c, v = .slice a n c := by
  rcases h.2 with ⟨rfl, h0⟩ | ⟨g, cap, cur, rfl, _⟩
  · exact ⟨none, 0, by rw [h0]⟩
  · exact ⟨_, _, rfl⟩
theorem cell_on {V V' : World} (hb : Below V.heap.size V V') {a : Addr} {v : Value} (h : V.cell? a = some v) : V'.cell? a = some v := (hb.cell (World.block_lt_of_cell? _ _ h)).trans h
theorem rows_at {w : World} {B : Nat} {v : Value} {rs : List RC} (h : w.ownsRow B 75 2 v rs.length (rcCells rs)) (k : Nat) (hk : k < rs.length) : ∃ g cap, v = .slice (some ⟨g, 0, none⟩) rs.length cap ∧ w.cell? ⟨g, k * 2, none⟩ = some (.string rs[k].key) ∧ w.cell? ⟨g, k * 2 + 1, none⟩ = some (.slice rs[k].ad rs[k].len rs[k].cap) := by
  rcases h.2 with ⟨_, h0⟩ | ⟨g, cap, cur, rfl, _⟩
  · omega
  · refine ⟨g, cap, rfl, ?_, ?_⟩
    · rw [World.ownsRow.cellAt h (k * 2) (by omega)]
      exact (rcCells_get rs k hk).1
    · rw [World.ownsRow.cellAt h (k * 2 + 1) (by omega)]
      exact (rcCells_get rs k hk).2
set_option maxHeartbeats 6400000 in
theorem sameRows_any {w : World} {B1 B2 : Nat} {v1 v2 : Value} {r1 r2 : List RC} {m : List Rw} (h1 : w.ownsRow B1 75 2 v1 r1.length (rcCells r1)) (h2 : w.ownsRow B2 75 2 v2 r2.length (rcCells r2)) (i1 : RowsIs w r1 m) (i2 : RowsIs w r2 m) (hm : m.length ≤ 1000000000) (hc : ∀ x ∈ m, x.cols.length ≤ 1000) :
    Calls Tryd.prog 9 #[v1, v2] w fun e w' => e = .returned (.bool true) ∧ Below w.heap.size w w' := by
  have H1 := hid h1
  have H2 := hid h2
  have I1 := hid i1
  have I2 := hid i2
  have Hc := hid hc
  obtain ⟨a1, c1, e1⟩ := slice_of_own h1
  obtain ⟨a2, c2, e2⟩ := slice_of_own h2
  obtain ⟨N, hN⟩ : ∃ N, N = m.length := ⟨_, rfl⟩
  rw [← hN] at hm
  have L1 : r1.length = N := by rw [hN]; exact i1.length
  have L2 : r2.length = N := by rw [hN]; exact i2.length
  rw [L1] at e1
  rw [L2] at e2
  have HL1 := hid L1
  have HL2 := hid L2
  have HN := hid hN
  have E1 := hid e1
  have E2 := hid e2
  rw [e1, e2]
  clear h1 h2 i1 i2 hc L1 L2 hN e1 e2
  go_enter Tryd.func9, Tryd.ntmps9
  go_wp2
  go_loopw [5] (fun i wr => ∃ k : Nat, k ≤ N ∧ i = .int .i64 k ∧ Below w.heap.size w wr) (fun i _ => N - (intOf i).toNat)
  case atStart => exact ⟨0, Nat.zero_le _, rfl, Below.refl _ _⟩
  case round =>
    obtain ⟨k, hk, rfl, hb⟩ := hrel
    have HB := hid hb
    clear hb
    by_cases hlt : k < N
    · have g1 : (k : Int) < (N : Int) := by omega
      have g0 : (0 : Int) ≤ (k : Int) := by omega
      obtain ⟨g, cap, ev1, ka, kb⟩ := rows_at (own_onW H1.out HB.out) k (by rw [HL1.out]; exact hlt)
      obtain ⟨g', cap', ev2, la, lb⟩ := rows_at (own_onW H2.out HB.out) k (by rw [HL2.out]; exact hlt)
      have R1 := I1.out.get k (by rw [HL1.out]; exact hlt) (by rw [← HN.out]; exact hlt)
      have R2 := I2.out.get k (by rw [HL2.out]; exact hlt) (by rw [← HN.out]; exact hlt)
      have hcl := Hc.out _ (List.getElem_mem (by rw [← HN.out]; exact hlt : k < m.length))
      rw [E1.out] at ev1
      rw [E2.out] at ev2
      injection ev1 with x1 x2 x3
      injection ev2 with y1 y2 y3
      subst x1 y1
      generalize m[k]'(by rw [← HN.out]; exact hlt) = x at *
      generalize r1[k]'(by rw [HL1.out]; exact hlt) = q1 at *
      generalize r2[k]'(by rw [HL2.out]; exact hlt) = q2 at *
      obtain ⟨k1, ad1, n1, cp1⟩ := q1
      obtain ⟨k2, ad2, n2, cp2⟩ := q2
      obtain ⟨kx, cx⟩ := x
      obtain ⟨e1, e2, e3⟩ := R1
      obtain ⟨e4, e5, e6⟩ := R2
      dsimp only at e1 e2 e3 e4 e5 e6 ka kb la lb hcl
      subst e1 e4 e2 e5
      have T1 := hid (e3.below HB.out)
      have T2 := hid (e6.below HB.out)
      have HS := hid (fun (V : World) (hb : Below wr.heap.size wr V) => show Calls Tryd.prog 38 #[.slice ad1 cx.length cp1, .slice ad2 cx.length cp2] V (fun e w' => e = .returned (.bool true) ∧ Below V.heap.size V w') from (sameTexts_any cx cx ad1 ad2 cp1 cp2 V (T1.out.below hb).texts (T2.out.below hb).texts (by omega) (by omega)).mono (fun e w' h => ⟨h.1.trans (by rw [decide_eq_true (rfl : cx = cx)]), h.2⟩))
      have Z : Hid (wr.drew.cell? ⟨g, k * 2, none⟩ = some (.string k2) ∧ wr.drew.cell? ⟨g, k * 2 + 1, none⟩ = some (.slice ad1 cx.length cp1) ∧ wr.drew.cell? ⟨g', k * 2, none⟩ = some (.string k2) ∧ wr.drew.cell? ⟨g', k * 2 + 1, none⟩ = some (.slice ad2 cx.length cp2)) := ⟨ka, kb, la, lb⟩
      have bd : Below wr.heap.size wr wr.drew := below_drewN _ _ 1
      have BD := hid bd
      clear e3 e6 x2 x3 y2 y3 ka kb la lb bd hcl
      go_wp2_with fail
      go_region_held3 (fun w9 => w9.cell? ⟨g, k * 2, none⟩ = some (.string k2) ∧ w9.cell? ⟨g, k * 2 + 1, none⟩ = some (.slice ad1 cx.length cp1) ∧ w9.cell? ⟨g', k * 2, none⟩ = some (.string k2) ∧ w9.cell? ⟨g', k * 2 + 1, none⟩ = some (.slice ad2 cx.length cp2))
        (exact Z.out)
        ((go_at_call 38; refine (HS.out _ BD.out).mono ?_; rintro e w1 ⟨rfl, hb1⟩; have Z := hid (And.intro (cell_on hb1 Z.out.1) (And.intro (cell_on hb1 Z.out.2.1) (And.intro (cell_on hb1 Z.out.2.2.1) (cell_on hb1 Z.out.2.2.2)))); have B1 := hid (Below.on' HB.out (undrew1 hb1)); clear hb1))
      go_wp2
      go_roundw
      case rel => exact ⟨k + 1, by omega, by go_num, B1.out⟩
      case measure => simp [intOf]; omega
    · have e : k = N := by omega
      subst e
      go_wp2
      go_ret
      exact ⟨rfl, HB.out⟩
def RowsPost (w : World) (m : List Rw) (e : Ending) (w' : World) : Prop := ∃ v rs, e = .returned v ∧ w'.ownsRow w.heap.size 75 2 v rs.length (rcCells rs) ∧ RowsIs w' rs m ∧ Below w.heap.size w w'
theorem app_rowL {W : World} {ops : Array Oper} {rest : List Oper} {o : Oper} {a : Act} {Q : Exit → Act → World → Prop} (hgd : o.guard = none) (sl x : Operand)
    (ho : o.op = .call { callee := .builtin .append, args := #[sl, x], argTypes := #[22, 22] }) (w : World) (k : ByteArray) (ca : Option Addr) (cn cc : Nat) (hW : W = w.alloc (.cells #[.string k, .slice ca cn cc] 75)) (base : Nat) (v : Value) (l : List RC) (hs : a.eval sl = v)
    (hown : w.ownsRow base 75 2 v l.length (rcCells l)) (hx : a.eval x = .slice (some ⟨w.heap.size, 0, none⟩) 1 1) (hb : l.length ≤ 2000000000) (hbase : base ≤ w.heap.size)
    (h : ∀ v' w', w'.ownsRow base 75 2 v' (l ++ [RC.mk k ca cn cc]).length (rcCells (l ++ [RC.mk k ca cn cc])) → w.grownBy w' v.ownBlock → wpList Tryd.prog ops Q rest (a.put o.dst v') w') :
    wpList Tryd.prog ops Q (o :: rest) a W := by
  subst hW
  obtain ⟨i0, hi, hz0, hz1, hz2⟩ := info_parts infoRow
  refine wpList_append_own _ hgd sl x 22 ho base 75 i0 (.agg #[.string ⟨#[]⟩, .slice none 0 0]) 2 40 Tryd.underlying22 hi hz0 hz1 hz2 rfl (by decide) v l.length (rcCells l) hs (hown.alloc _) ⟨w.heap.size, 0, none⟩ 1 1 [.string k, .slice ca cn cc] hx rfl (World.news_of_block (cs := #[.string k, .slice ca cn cc]) (t := 75) (fr := (0, 0)) (MapKept.heap_alloc w _).1) (by simp [Value.oneCell']) (by unfold maxLen; omega) (by omega) (by simp; omega) ?_
  intro v' w' h1 h2 h3
  refine h v' w' ?_ ((World.grownBy_alloc w _ _).trans h2)
  rw [rcCells_snoc, List.length_append]
  exact h1
theorem app_rowN {w : World} {ops : Array Oper} {rest : List Oper} {o : Oper} {a : Act} {Q : Exit → Act → World → Prop} (hgd : o.guard = none) (sl x : Operand)
    (ho : o.op = .call { callee := .builtin .append, args := #[sl, x], argTypes := #[22, 22] }) (base : Nat) (v : Value) (l : List RC) (hs : a.eval sl = v)
    (hown : w.ownsRow base 75 2 v l.length (rcCells l)) (ad : Addr) (c : Nat) (hx : a.eval x = .slice (some ad) 0 c) (hb : l.length ≤ 2000000000) (hbase : base ≤ w.heap.size)
    (h : ∀ v' w', w'.ownsRow base 75 2 v' l.length (rcCells l) → w.grownBy w' v.ownBlock → wpList Tryd.prog ops Q rest (a.put o.dst v') w') :
    wpList Tryd.prog ops Q (o :: rest) a w := by
  obtain ⟨i0, hi, hz0, hz1, hz2⟩ := info_parts infoRow
  refine wpList_append_own w hgd sl x 22 ho base 75 i0 (.agg #[.string ⟨#[]⟩, .slice none 0 0]) 2 40 Tryd.underlying22 hi hz0 hz1 hz2 rfl (by decide) v l.length (rcCells l) hs hown ad 0 c [] hx rfl (fun j u hj => by simp at hj) (fun u hu => by cases hu) (by unfold maxLen; omega) (by omega) hbase ?_
  intro v' w' h1 h2 h3
  refine h v' w' ?_ h2
  rw [List.append_nil] at h1
  exact h1
set_option maxHeartbeats 12800000 in
theorem sorted_any {V : World} {B : Nat} {v : Value} {rs : List RC} {m : List Rw} (ho : V.ownsRow B 75 2 v rs.length (rcCells rs)) (hi : RowsIs V rs m) (hl : rs.length ≤ 1000000) (hup : ∀ k (h : k + 1 < rs.length), Op.bytesLess rs[k].key.toList rs[k + 1].key.toList = true) :
    Calls Tryd.prog 83 #[v] V (RowsPost V m) := by
  have HO := hid ho
  have HI := hid hi
  have Hup := hid hup
  obtain ⟨a0, c0, e0⟩ := slice_of_own ho
  obtain ⟨N, hN⟩ : ∃ N, N = rs.length := ⟨_, rfl⟩
  rw [← hN] at hl e0
  have HN := hid hN
  have E0 := hid e0
  rw [e0]
  clear ho hi hup hN e0
  go_enter Tryd.func83, Tryd.ntmps83
  go_wp2
  go_loopw [3, 4] (fun v i wr => ∃ k : Nat, k ≤ N ∧ i = .int .i64 k ∧ wr.ownsRow V.heap.size 75 2 v (rs.take k).length (rcCells (rs.take k)) ∧ Below V.heap.size V wr)
    (fun _ i _ => N - (intOf i).toNat)
  case atStart => exact ⟨0, Nat.zero_le _, rfl, World.ownsRow_nil _ _ _ _, Below.refl _ _⟩
  case round =>
    obtain ⟨k, hk, rfl, ho, hb⟩ := hrel
    have HOk := hid ho
    have HB := hid hb
    have htl : (rs.take k).length = k := by rw [List.length_take]; have := HN.out; omega
    have Htl := hid htl
    obtain ⟨a3, c3, e3⟩ := slice_of_own ho
    rw [htl] at e3
    subst e3
    clear ho hb htl
    by_cases hlt : k < N
    · have g1 : (k : Int) < (N : Int) := by omega
      have g0 : (0 : Int) ≤ (k : Int) := by omega
      have hcase : (a3 = none ∧ c3 = 0 ∧ k = 0) ∨ ∃ g', a3 = some ⟨g', 0, none⟩ ∧ k ≤ c3 := by
        rcases HOk.out.2 with ⟨hv, hz⟩ | ⟨g', cap', cur, hv, _, _, hc, _⟩
        · injection hv with h1 h2 h3
          exact .inl ⟨h1, h3, h2⟩
        · injection hv with h1 h2 h3
          exact .inr ⟨g', h1, by rw [h3, h2]; exact hc⟩
      rcases hcase with ⟨rfl, rfl, rfl⟩ | ⟨g', rfl, hkc⟩
      · skip
        obtain ⟨w3, hw3⟩ : ∃ w3, w3 = wr := ⟨_, rfl⟩
        rw [← hw3] at HOk HB ⊢
        clear hw3
        go_wp2
        go_loopw [5] (fun i wr => i = .int .i64 (0 : Nat) ∧ Below w3.heap.size w3 wr) (fun _ _ => 0)
        case atStart => exact ⟨rfl, Below.refl _ _⟩
        case round =>
          obtain ⟨rfl, hb4⟩ := hrel
          have HB4 := hid hb4
          have HBB := hid (Below.on' HB.out hb4)
          obtain ⟨g, cap, ev1, ka, kb⟩ := rows_at (own_onW HO.out HBB.out) 0 (by have := HN.out; omega)
          rw [E0.out] at ev1
          injection ev1 with x1 x2 x3
          subst x1
          have B5 := hid (fun (q : Nat) => Below.on' HBB.out (below_drewN _ _ q))
          have OW := hid (fun (q : Nat) => own_onW (own_onW HOk.out HB4.out) (below_drewN _ _ q))
          clear hb4 x2 x3
          go_wp2
          go_quiet (fail)
          go_wp2_with (first
            | (at_builtin; refine app_rows rfl _ _ rfl V.heap.size (.slice none 0 0) [] rfl (World.ownsRow_nil _ _ _ _) V.heap.size _ (rs.take 0) rfl (OW.out _) (by rw [List.length_nil]; have := Htl.out; omega) (B5.out _).size ?_; intro v5 w5 ho5 hg5; have B6 := hid ((B5.out _).trans ((Below.refl _ _).grown hg5 (B5.out _).size (fun q hq => by cases hq))); have O6 : Hid (w5.ownsRow V.heap.size 75 2 v5 (rs.take 0).length (rcCells (rs.take 0))) := ho5; have hq6 := rows_at (own_onW HO.out B6.out) 0 (by have := HN.out; omega); obtain ⟨g6, cap6, ev6, ka6, kb6⟩ := hq6; rw [E0.out] at ev6; injection ev6 with y1 y2 y3; have y4 : g = g6 := (by simpa using y1); subst y4; clear ho5 hg5 y1 y2 y3)
            | (at_builtin; refine app_rowL rfl _ _ rfl _ _ _ _ _ rfl V.heap.size v5 (rs.take 0) rfl O6.out rfl (by have := Htl.out; omega) B6.out.size ?_; intro v7 w7 ho7 hg7; have B7 := hid (B6.out.trans ((Below.refl _ _).grown hg7 B6.out.size (fun q hq => (O6.out.lt q hq).1))); have O7 := hid ho7; clear ho7 hg7)
            | (at_builtin; obtain ⟨i0, hi, _, _, _⟩ := info_parts infoRow; refine wpList_append_own_none rfl _ _ 22 rfl V.heap.size 75 i0 2 Tryd.underlying22 hi v7 _ _ rfl O7.out rfl ?_; have O8 := hid O7.out; have B8 := hid B7.out))
          go_roundw
          case rel => exact ⟨0 + 1, by omega, by go_num, by rw [List.take_succ_eq_append_getElem (by have := HN.out; omega)]; exact O8.out, B8.out⟩
          case measure => simp [intOf]; omega
      · have gc : (k : Int) ≤ (c3 : Int) := by omega
        by_cases hk0 : k = 0
        · subst hk0
          obtain ⟨w3, hw3⟩ : ∃ w3, w3 = wr := ⟨_, rfl⟩
          rw [← hw3] at HOk HB ⊢
          clear hw3
          go_wp2
          go_loopw [5] (fun i wr => i = .int .i64 (0 : Nat) ∧ Below w3.heap.size w3 wr) (fun _ _ => 0)
          case atStart => exact ⟨rfl, Below.refl _ _⟩
          case round =>
            obtain ⟨rfl, hb4⟩ := hrel
            have HB4 := hid hb4
            have HBB := hid (Below.on' HB.out hb4)
            obtain ⟨g, cap, ev1, ka, kb⟩ := rows_at (own_onW HO.out HBB.out) 0 (by have := HN.out; omega)
            rw [E0.out] at ev1
            injection ev1 with x1 x2 x3
            subst x1
            have B5 := hid (fun (q : Nat) => Below.on' HBB.out (below_drewN _ _ q))
            have OW := hid (fun (q : Nat) => own_onW (own_onW HOk.out HB4.out) (below_drewN _ _ q))
            clear hb4 x2 x3
            go_wp2
            go_quiet (fail)
            go_wp2_with (first
              | (at_builtin; refine app_rows rfl _ _ rfl V.heap.size (.slice none 0 0) [] rfl (World.ownsRow_nil _ _ _ _) V.heap.size _ (rs.take 0) rfl (OW.out _) (by rw [List.length_nil]; have := Htl.out; omega) (B5.out _).size ?_; intro v5 w5 ho5 hg5; have B6 := hid ((B5.out _).trans ((Below.refl _ _).grown hg5 (B5.out _).size (fun q hq => by cases hq))); have O6 : Hid (w5.ownsRow V.heap.size 75 2 v5 (rs.take 0).length (rcCells (rs.take 0))) := ho5; have hq6 := rows_at (own_onW HO.out B6.out) 0 (by have := HN.out; omega); obtain ⟨g6, cap6, ev6, ka6, kb6⟩ := hq6; rw [E0.out] at ev6; injection ev6 with y1 y2 y3; have y4 : g = g6 := (by simpa using y1); subst y4; clear ho5 hg5 y1 y2 y3)
              | (at_builtin; refine app_rowL rfl _ _ rfl _ _ _ _ _ rfl V.heap.size v5 (rs.take 0) rfl O6.out rfl (by have := Htl.out; omega) B6.out.size ?_; intro v7 w7 ho7 hg7; have B7 := hid (B6.out.trans ((Below.refl _ _).grown hg7 B6.out.size (fun q hq => (O6.out.lt q hq).1))); have O7 := hid ho7; clear ho7 hg7)
              | (at_builtin; refine app_rowN rfl _ _ rfl V.heap.size v7 _ rfl O7.out _ _ rfl (by rw [List.length_append, List.length_singleton]; have := Htl.out; omega) B7.out.size ?_; intro v9 w9 ho9 hg9; have B8 := hid (B7.out.trans ((Below.refl _ _).grown hg9 B7.out.size (fun q hq => (O7.out.lt q hq).1))); have O8 := hid ho9; clear ho9 hg9))
            go_roundw
            case rel => exact ⟨0 + 1, by omega, by go_num, by rw [List.take_succ_eq_append_getElem (by have := HN.out; omega)]; exact O8.out, B8.out⟩
            case measure => simp [intOf]; omega
        · have gk : (0 : Int) < (k : Int) := by omega
          by_cases hck : c3 = k
          · cases hck
            obtain ⟨w3, hw3⟩ : ∃ w3, w3 = wr := ⟨_, rfl⟩
            rw [← hw3] at HOk HB ⊢
            clear hw3
            go_wp2
            go_loopw [5] (fun i wr => i = .int .i64 (k : Nat) ∧ Below w3.heap.size w3 wr) (fun _ _ => 0)
            case atStart => exact ⟨rfl, Below.refl _ _⟩
            case round =>
              obtain ⟨rfl, hb4⟩ := hrel
              have HB4 := hid hb4
              have HBB := hid (Below.on' HB.out hb4)
              obtain ⟨g, cap, ev1, ka, kb⟩ := rows_at (own_onW HO.out HBB.out) k (by have := HN.out; omega)
              rw [E0.out] at ev1
              injection ev1 with x1 x2 x3
              subst x1
              have B5 := hid (fun (q : Nat) => Below.on' HBB.out (below_drewN _ _ q))
              have OW := hid (fun (q : Nat) => own_onW (own_onW HOk.out HB4.out) (below_drewN _ _ q))
              clear hb4 x2 x3
              obtain ⟨gq, capq, ev2, la, lb⟩ := rows_at (own_onW HOk.out HB4.out) (k - 1) (by rw [Htl.out]; omega)
              injection ev2 with z1 z2 z3
              have z4 : g' = gq := by simpa using z1
              subst z4
              clear z1
              clear z2 z3 lb
              have hlk : Op.bytesLess (rs[k - 1]'(by have := HN.out; omega)).key.toList (rs[k]'(by have := HN.out; omega)).key.toList = true := by
                have h9 := Hup.out (k - 1) (by have := HN.out; omega)
                have e9 : k - 1 + 1 = k := by omega
                simpa only [e9] using h9
              have gk1 : (0 : Int) ≤ (k : Int) - 1 := by omega
              have gk2 : (k : Int) - 1 < (k : Int) := by omega
              have gkd : decide (0 < k) = true := by simp; omega
              have gw : IntKind.i64.wrap ((k : Int) - 1) = (k : Int) - 1 := by rw [IntKind.wrap_i64]; omega
              have gt : ((k : Int) - 1).toNat = k - 1 := by omega
              go_wp2
              go_quiet (fail)
              go_wp2_with (first
                | (at_builtin; refine app_rows rfl _ _ rfl V.heap.size (.slice none 0 0) [] rfl (World.ownsRow_nil _ _ _ _) V.heap.size _ (rs.take k) rfl (OW.out _) (by rw [List.length_nil]; have := Htl.out; omega) (B5.out _).size ?_; intro v5 w5 ho5 hg5; have B6 := hid ((B5.out _).trans ((Below.refl _ _).grown hg5 (B5.out _).size (fun q hq => by cases hq))); have O6 : Hid (w5.ownsRow V.heap.size 75 2 v5 (rs.take k).length (rcCells (rs.take k))) := ho5; have hq6 := rows_at (own_onW HO.out B6.out) k (by have := HN.out; omega); obtain ⟨g6, cap6, ev6, ka6, kb6⟩ := hq6; rw [E0.out] at ev6; injection ev6 with y1 y2 y3; have y4 : g = g6 := (by simpa using y1); subst y4; clear ho5 hg5 y1 y2 y3)
                | (at_builtin; refine app_rowL rfl _ _ rfl _ _ _ _ _ rfl V.heap.size v5 (rs.take k) rfl O6.out rfl (by have := Htl.out; omega) B6.out.size ?_; intro v7 w7 ho7 hg7; have B7 := hid (B6.out.trans ((Below.refl _ _).grown hg7 B6.out.size (fun q hq => (O6.out.lt q hq).1))); have O7 := hid ho7; clear ho7 hg7)
                | (at_builtin; refine app_rowN rfl _ _ rfl V.heap.size v7 _ rfl O7.out _ _ rfl (by rw [List.length_append, List.length_singleton]; have := Htl.out; omega) B7.out.size ?_; intro v9 w9 ho9 hg9; have B8 := hid (B7.out.trans ((Below.refl _ _).grown hg9 B7.out.size (fun q hq => (O7.out.lt q hq).1))); have O8 := hid ho9; clear ho9 hg9))
              go_roundw
              case rel => exact ⟨k + 1, by omega, by go_num, by rw [List.take_succ_eq_append_getElem (by have := HN.out; omega)]; exact O8.out, B8.out⟩
              case measure => simp [intOf]; omega
          · have hck2 : ¬ k = c3 := fun e => hck e.symm
            obtain ⟨w3, hw3⟩ : ∃ w3, w3 = wr := ⟨_, rfl⟩
            rw [← hw3] at HOk HB ⊢
            clear hw3
            go_wp2
            go_loopw [5] (fun i wr => i = .int .i64 (k : Nat) ∧ Below w3.heap.size w3 wr) (fun _ _ => 0)
            case atStart => exact ⟨rfl, Below.refl _ _⟩
            case round =>
              obtain ⟨rfl, hb4⟩ := hrel
              have HB4 := hid hb4
              have HBB := hid (Below.on' HB.out hb4)
              obtain ⟨g, cap, ev1, ka, kb⟩ := rows_at (own_onW HO.out HBB.out) k (by have := HN.out; omega)
              rw [E0.out] at ev1
              injection ev1 with x1 x2 x3
              subst x1
              have B5 := hid (fun (q : Nat) => Below.on' HBB.out (below_drewN _ _ q))
              have OW := hid (fun (q : Nat) => own_onW (own_onW HOk.out HB4.out) (below_drewN _ _ q))
              clear hb4 x2 x3
              obtain ⟨gq, capq, ev2, la, lb⟩ := rows_at (own_onW HOk.out HB4.out) (k - 1) (by rw [Htl.out]; omega)
              injection ev2 with z1 z2 z3
              have z4 : g' = gq := by simpa using z1
              subst z4
              clear z1
              clear z2 z3 lb
              have hlk : Op.bytesLess (rs[k - 1]'(by have := HN.out; omega)).key.toList (rs[k]'(by have := HN.out; omega)).key.toList = true := by
                have h9 := Hup.out (k - 1) (by have := HN.out; omega)
                have e9 : k - 1 + 1 = k := by omega
                simpa only [e9] using h9
              have gk1 : (0 : Int) ≤ (k : Int) - 1 := by omega
              have gk2 : (k : Int) - 1 < (k : Int) := by omega
              have gkd : decide (0 < k) = true := by simp; omega
              have gw : IntKind.i64.wrap ((k : Int) - 1) = (k : Int) - 1 := by rw [IntKind.wrap_i64]; omega
              have gt : ((k : Int) - 1).toNat = k - 1 := by omega
              go_wp2
              go_quiet (fail)
              go_wp2_with (first
                | (at_builtin; refine app_rows rfl _ _ rfl V.heap.size (.slice none 0 0) [] rfl (World.ownsRow_nil _ _ _ _) V.heap.size _ (rs.take k) rfl (OW.out _) (by rw [List.length_nil]; have := Htl.out; omega) (B5.out _).size ?_; intro v5 w5 ho5 hg5; have B6 := hid ((B5.out _).trans ((Below.refl _ _).grown hg5 (B5.out _).size (fun q hq => by cases hq))); have O6 : Hid (w5.ownsRow V.heap.size 75 2 v5 (rs.take k).length (rcCells (rs.take k))) := ho5; have hq6 := rows_at (own_onW HO.out B6.out) k (by have := HN.out; omega); obtain ⟨g6, cap6, ev6, ka6, kb6⟩ := hq6; rw [E0.out] at ev6; injection ev6 with y1 y2 y3; have y4 : g = g6 := (by simpa using y1); subst y4; clear ho5 hg5 y1 y2 y3)
                | (at_builtin; refine app_rowL rfl _ _ rfl _ _ _ _ _ rfl V.heap.size v5 (rs.take k) rfl O6.out rfl (by have := Htl.out; omega) B6.out.size ?_; intro v7 w7 ho7 hg7; have B7 := hid (B6.out.trans ((Below.refl _ _).grown hg7 B6.out.size (fun q hq => (O6.out.lt q hq).1))); have O7 := hid ho7; clear ho7 hg7)
                | (at_builtin; refine app_rowN rfl _ _ rfl V.heap.size v7 _ rfl O7.out _ _ rfl (by rw [List.length_append, List.length_singleton]; have := Htl.out; omega) B7.out.size ?_; intro v9 w9 ho9 hg9; have B8 := hid (B7.out.trans ((Below.refl _ _).grown hg9 B7.out.size (fun q hq => (O7.out.lt q hq).1))); have O8 := hid ho9; clear ho9 hg9))
              go_roundw
              case rel => exact ⟨k + 1, by omega, by go_num, by rw [List.take_succ_eq_append_getElem (by have := HN.out; omega)]; exact O8.out, B8.out⟩
              case measure => simp [intOf]; omega
    · have e : k = N := by omega
      subst e
      have g1 : ¬ (k : Int) < (k : Int) := by omega
      have h3 := HOk.out
      rw [List.take_of_length_le (by have := HN.out; omega)] at h3
      have H3 := hid h3
      clear h3
      go_wp2
      go_ret
      exact ⟨_, rs, rfl, H3.out, HI.out.below HB.out, HB.out⟩
end Go.Proofs.YthfmpebgmojcaaaDoor.Xr
