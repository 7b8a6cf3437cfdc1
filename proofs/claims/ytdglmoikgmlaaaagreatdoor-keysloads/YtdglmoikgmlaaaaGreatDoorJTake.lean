/- YtdglmoikgmlaaaaGreatDoorJX0 + YtdglmoikgmlaaaaGreatDoorJLM + YtdglmoikgmlaaaaGreatDoorJCut + YtdglmoikgmlaaaaGreatDoorJTake -/
import Derived.Test.YtdglmoikgmlaaaaGreatDoorJToNum
import Derived.BigQuiet
import Derived.Deep.QuietTactic
import Derived.Laws.AppendOwnNone
import Derived.Deep.RegionHeld3
import Derived.Lib.Bytealg
/- Rows as they lie, columns that may be none too; the reference's SameRows. (ZX, over the keys' texts.) -/
namespace Go.Proofs.YtdglmoikgmlaaaaGreatDoor.Xr
open Go.RowKit
set_option linter.unusedVariables false
set_option maxRecDepth 20000
theorem str_eq (s t : ByteArray) : s = t ↔ s.toList = t.toList := by
  constructor
  · intro h; rw [h]
  · intro h
    rw [Lib.toList_data, Lib.toList_data] at h
    rw [← Lib.mk_data s, ← Lib.mk_data t, h]
set_option maxHeartbeats 400000 in
theorem sameTexts_any (x y : List ByteArray) (a b : Option Addr) (ca cb : Nat) (w : World) (hx : Texts w a x) (hy : Texts w b y) (lx : x.length ≤ 140737488351232) (ly : y.length ≤ 140737488351232) :
    Calls Tryz.prog 31 #[.slice a x.length ca, .slice b y.length cb] w fun e w' => e = .returned (.bool (decide (x = y))) ∧ Below w.heap.size w w' := by
  have Hx := hid hx
  have Hy := hid hy
  clear hx hy
  by_cases hl : x.length = y.length
  · have d1 : ((x.length : Int) != (y.length : Int)) = false := by rw [bne_eq_false_iff_eq]; omega
    have Hl := hid hl
    clear hl
    go_enter Tryz.func31, Tryz.ntmps31
    go_wp2
    go_loopw [5] (fun i wr => ∃ k : Nat, k ≤ x.length ∧ i = .int .i64 k ∧ x.take k = y.take k ∧ Below w.heap.size w wr) (fun i _ => x.length - (intOf i).toNat)
    case atStart => exact ⟨0, Nat.zero_le _, rfl, rfl, Below.refl _ _⟩
    case round =>
      obtain ⟨k, hk, rfl, hpre, hbel⟩ := hrel
      have Hpre := hid hpre
      have Hbel := hid hbel
      clear hpre hbel
      by_cases hlt : k < x.length
      · have hlt2 : k < y.length := by have := Hl.out; omega
        obtain ⟨b1, o1, ha, hc1⟩ := (Hx.out.below Hbel.out) k hlt
        obtain ⟨b2, o2, hb, hc2⟩ := (Hy.out.below Hbel.out) k hlt2
        have HX : Hid (x.take (k + 1) = x.take k ++ [x[k]]) := List.take_succ_eq_append_getElem hlt
        have HY : Hid (y.take (k + 1) = y.take k ++ [y[k]]) := List.take_succ_eq_append_getElem hlt2
        have HN : Hid (x[k] ≠ y[k] → x ≠ y) := fun h e => h (by subst e; rfl)
        generalize x[k] = c1 at *
        generalize y[k] = c2 at *
        subst ha
        subst hb
        by_cases hc : c1 = c2
        · have e1 : (c1.toList == c2.toList) = true := by rw [hc]; simp
          have H12 := hid hc
          clear hc
          go_wp2
          go_quiet (fail)
          go_wp2
          go_roundw
          case rel => exact ⟨k + 1, by omega, by go_num, by rw [HX.out, HY.out, Hpre.out, H12.out], Hbel.out.trans (below_drewN _ _ _)⟩
          case measure => simp [intOf]; omega
        · have e1 : (c1.toList == c2.toList) = false := by
            rw [beq_eq_false_iff_ne]
            exact fun e => hc ((str_eq _ _).2 e)
          have Hne := hid (HN.out hc)
          clear hc
          go_wp2
          go_quiet (fail)
          go_wp2
          go_ret
          exact ⟨ret_bool (by simp [Hne.out]), Hbel.out.trans (below_drewN _ _ _)⟩
      · go_wp2
        go_ret
        refine ⟨ret_bool ?_, Hbel.out⟩
        have h := Hpre.out
        rw [List.take_of_length_le (by omega), List.take_of_length_le (by have := Hl.out; omega)] at h
        simp [h]
  · have d1 : ((x.length : Int) != (y.length : Int)) = true := by rw [bne_iff_ne]; omega
    have hne : decide (x = y) = false := by simp; intro e; exact hl (congrArg List.length e)
    rw [hne]
    clear hl hne
    go_enter Tryz.func31, Tryz.ntmps31
    go_wp2
    go_ret
    exact ⟨rfl, Below.refl _ _⟩
structure Rw where
  key : ByteArray
  cols : List ByteArray
structure RC where
  key : ByteArray
  ad : Option Addr
  len : Nat
  cap : Nat
def rcCells (l : List RC) : List Value := l.flatMap fun r => [.string r.key, .slice r.ad r.len r.cap]
theorem rcCells_length (l : List RC) : (rcCells l).length = l.length * 2 := by
  induction l with
  | nil => rfl
  | cons x r ih => rw [rcCells, List.flatMap_cons, ← rcCells, List.length_append, ih]; simp; omega
theorem rcCells_snoc (l : List RC) (r : RC) : rcCells (l ++ [r]) = rcCells l ++ [.string r.key, .slice r.ad r.len r.cap] := by simp [rcCells]
theorem rcCells_app (l m : List RC) : rcCells (l ++ m) = rcCells l ++ rcCells m := by simp [rcCells]
theorem rcCells_one (l : List RC) : ∀ u ∈ rcCells l, u.oneCell' = true := fun u hu => by
  obtain ⟨r, _, h⟩ := List.mem_flatMap.1 hu
  simp at h
  rcases h with rfl | rfl <;> rfl
theorem rcCells_get (l : List RC) (i : Nat) (hi : i < l.length) : (rcCells l)[i * 2]? = some (.string l[i].key) ∧ (rcCells l)[i * 2 + 1]? = some (.slice l[i].ad l[i].len l[i].cap) := by
  induction l generalizing i with
  | nil => simp at hi
  | cons x r ih =>
    rw [rcCells, List.flatMap_cons, ← rcCells]
    cases i with
    | zero => exact ⟨rfl, rfl⟩
    | succ m =>
      have hm : m < r.length := by simpa using hi
      have := ih m hm
      rw [List.getElem?_append_right (by simp; omega), List.getElem?_append_right (by simp; omega)]
      simp only [List.length_cons, List.length_nil, List.getElem_cons_succ]
      rw [show (m + 1) * 2 - (0 + 1 + 1) = m * 2 by omega, show (m + 1) * 2 + 1 - (0 + 1 + 1) = m * 2 + 1 by omega]
      exact this
def ColAt (w : World) (a : Option Addr) (l : List ByteArray) : Prop := l = [] ∨ ∃ b cur, a = some ⟨b, 0, none⟩ ∧ w.heap[b]? = some (.cells cur 9 (0, 0)) ∧ cur.toList.take l.length = l.map Value.string
theorem ColAt.below {w w' : World} {a : Option Addr} {l : List ByteArray} (h : ColAt w a l) (hb : Below w.heap.size w w') : ColAt w' a l := by
  rcases h with h | ⟨b, cur, e, h1, h2⟩
  · exact .inl h
  · exact .inr ⟨b, cur, e, (hb.block b (Array.getElem?_eq_some_iff.1 h1).1).trans h1, h2⟩
theorem ColAt.texts {w : World} {a : Option Addr} {l : List ByteArray} (h : ColAt w a l) : Texts w a l := fun i hi => by
  rcases h with rfl | ⟨b, cur, e, h1, h2⟩
  · simp at hi
  · refine ⟨b, 0, e, ?_⟩
    have h3 : (cur.toList.take l.length)[i]? = some (.string l[i]) := by rw [h2]; simp [hi]
    rw [List.getElem?_take_of_lt hi] at h3
    have h4 : cur[i]? = some (.string l[i]) := by simpa using h3
    rw [Nat.zero_add]
    simp [World.cell?, h1, h4]
theorem ne_row {w : World} {B n g b : Nat} {v : Value} {xs : List Value} {cur : Array Value} (hown : w.ownsRow B 67 2 v n xs) (hb : w.heap[b]? = some (.cells cur 9 (0, 0))) : v.ownBlock ≠ some b := by
  intro e
  rcases hown.2 with ⟨rfl, _⟩ | ⟨g, cap, cur', rfl, _, hg, _⟩
  · cases e
  · have : g = b := by simpa [Value.ownBlock] using e
    subst this
    rw [hb] at hg
    injection hg with hg
    injection hg with _ ht _
    exact absurd ht (by decide)
theorem ColAt.grown {w w' : World} {a : Option Addr} {l : List ByteArray} (h : ColAt w a l) {B n : Nat} {v : Value} {xs : List Value} (hown : w.ownsRow B 67 2 v n xs) (hg : w.grownBy w' v.ownBlock) : ColAt w' a l := by
  rcases h with h | ⟨b, cur, e, h1, h2⟩
  · exact .inl h
  · exact .inr ⟨b, cur, e, (hg.block b (Array.getElem?_eq_some_iff.1 h1).1 (ne_row (g := 0) hown h1).symm).trans h1, h2⟩
def RowIs (w : World) (r : RC) (x : Rw) : Prop := r.key = x.key ∧ r.len = x.cols.length ∧ ColAt w r.ad x.cols
def RowsIs (w : World) : List RC → List Rw → Prop
  | [], [] => True
  | r :: l, x :: m => RowIs w r x ∧ RowsIs w l m
  | _, _ => False
theorem RowsIs.imp {w w' : World} (h0 : ∀ r x, RowIs w r x → RowIs w' r x) : ∀ {l : List RC} {m : List Rw}, RowsIs w l m → RowsIs w' l m
  | [], [], _ => trivial
  | _ :: _, _ :: _, ⟨h1, h2⟩ => ⟨h0 _ _ h1, RowsIs.imp h0 h2⟩
theorem RowIs.below {w w' : World} {r : RC} {x : Rw} (h : RowIs w r x) (hb : Below w.heap.size w w') : RowIs w' r x := ⟨h.1, h.2.1, h.2.2.below hb⟩
theorem RowsIs.below {w w' : World} {l : List RC} {m : List Rw} (h : RowsIs w l m) (hb : Below w.heap.size w w') : RowsIs w' l m := h.imp fun _ _ h => h.below hb
theorem RowsIs.grown {w w' : World} {l : List RC} {m : List Rw} (h : RowsIs w l m) {B n : Nat} {v : Value} {xs : List Value} (hown : w.ownsRow B 67 2 v n xs) (hg : w.grownBy w' v.ownBlock) : RowsIs w' l m := h.imp fun _ _ h => ⟨h.1, h.2.1, h.2.2.grown hown hg⟩
theorem RowsIs.length {w : World} : ∀ {l : List RC} {m : List Rw}, RowsIs w l m → l.length = m.length
  | [], [], _ => rfl
  | _ :: _, _ :: _, ⟨_, h2⟩ => by simp [RowsIs.length h2]
theorem RowsIs.app {w : World} : ∀ {l : List RC} {m : List Rw} {l' : List RC} {m' : List Rw}, RowsIs w l m → RowsIs w l' m' → RowsIs w (l ++ l') (m ++ m')
  | [], [], _, _, _, h => h
  | _ :: _, _ :: _, _, _, ⟨h1, h2⟩, h => ⟨h1, RowsIs.app h2 h⟩
theorem RowsIs.get {w : World} : ∀ {l : List RC} {m : List Rw} (i : Nat) (h1 : i < l.length) (h2 : i < m.length), RowsIs w l m → RowIs w l[i] m[i]
  | r :: l, x :: m, 0, _, _, h => (show RowIs w r x ∧ RowsIs w l m from h).1
  | r :: l, x :: m, i + 1, h1, h2, h => RowsIs.get i (by simpa using h1) (by simpa using h2) (show RowIs w r x ∧ RowsIs w l m from h).2
theorem infoRow : (Tryz.prog.info? 67).map (fun i => (i.zero, i.size, i.bytes)) = some (some (.agg #[.string ⟨#[]⟩, .slice none 0 0]), 2, 40) := by kernel_rfl
theorem app_rowR {W : World} {o : Oper} {a : Act} {K : Act → World → Prop} {Q : Exit → Act → World → Prop} (sl x : Operand)
    (ho : o.op = .call { callee := .builtin .append, args := #[sl, x], argTypes := #[32, 32] }) (w : World) (k : ByteArray) (ca : Option Addr) (cn cc : Nat) (hW : W = w.alloc (.cells #[.string k, .slice ca cn cc] 67)) (base : Nat) (v : Value) (l : List RC) (hs : a.eval sl = v)
    (hown : w.ownsRow base 67 2 v l.length (rcCells l)) (hx : a.eval x = .slice (some ⟨w.heap.size, 0, none⟩) 1 1) (hb : l.length ≤ 2000000000) (hbase : base ≤ w.heap.size)
    (h : ∀ v' w', w'.ownsRow base 67 2 v' (l ++ [RC.mk k ca cn cc]).length (rcCells (l ++ [RC.mk k ca cn cc])) → w.grownBy w' v.ownBlock → K (a.put o.dst v') w') :
    o.wp Tryz.prog a W K Q := by
  subst hW
  obtain ⟨i0, hi, hz0, hz1, hz2⟩ := info_parts infoRow
  refine wp_append_own _ sl x 32 ho base 67 i0 (.agg #[.string ⟨#[]⟩, .slice none 0 0]) 2 40 Tryz.underlying32 hi hz0 hz1 hz2 rfl (by decide) v l.length (rcCells l) hs (hown.alloc _) ⟨w.heap.size, 0, none⟩ 1 1 [.string k, .slice ca cn cc] hx rfl (World.news_of_block (cs := #[.string k, .slice ca cn cc]) (t := 67) (fr := (0, 0)) (MapKept.heap_alloc w _).1) (by simp [Value.oneCell']) (by unfold maxLen; omega) (by omega) (by simp; omega) ?_
  intro v' w' h1 h2 h3
  refine h v' w' ?_ ((World.grownBy_alloc w _ _).trans h2)
  rw [rcCells_snoc, List.length_append]
  exact h1
theorem own_onW {w w' : World} {B e s n : Nat} {v : Value} {xs : List Value} (h : w.ownsRow B e s v n xs) (hb : Below w.heap.size w w') : w'.ownsRow B e s v n xs := by
  refine ⟨h.1, ?_⟩
  rcases h.2 with h0 | ⟨g, cap, cur, hv, hg, hgb, r⟩
  · exact .inl h0
  · exact .inr ⟨g, cap, cur, hv, hg, (hb.block _ (Array.getElem?_eq_some_iff.1 hgb).1).trans hgb, r⟩
theorem slice_of_own {w : World} {B e s n : Nat} {v : Value} {xs : List Value} (h : w.ownsRow B e s v n xs) : ∃ a c, v = .slice a n c := by
  rcases h.2 with ⟨rfl, h0⟩ | ⟨g, cap, cur, rfl, _⟩
  · exact ⟨none, 0, by rw [h0]⟩
  · exact ⟨_, _, rfl⟩
theorem cell_on {V V' : World} (hb : Below V.heap.size V V') {a : Addr} {v : Value} (h : V.cell? a = some v) : V'.cell? a = some v := (hb.cell (World.block_lt_of_cell? _ _ h)).trans h
theorem rows_at {w : World} {B : Nat} {v : Value} {rs : List RC} (h : w.ownsRow B 67 2 v rs.length (rcCells rs)) (k : Nat) (hk : k < rs.length) : ∃ g cap, v = .slice (some ⟨g, 0, none⟩) rs.length cap ∧ w.cell? ⟨g, k * 2, none⟩ = some (.string rs[k].key) ∧ w.cell? ⟨g, k * 2 + 1, none⟩ = some (.slice rs[k].ad rs[k].len rs[k].cap) := by
  rcases h.2 with ⟨_, h0⟩ | ⟨g, cap, cur, rfl, _⟩
  · omega
  · refine ⟨g, cap, rfl, ?_, ?_⟩
    · rw [World.ownsRow.cellAt h (k * 2) (by omega)]
      exact (rcCells_get rs k hk).1
    · rw [World.ownsRow.cellAt h (k * 2 + 1) (by omega)]
      exact (rcCells_get rs k hk).2
set_option maxHeartbeats 6400000 in
theorem sameRows_any {w : World} {B1 B2 : Nat} {v1 v2 : Value} {r1 r2 : List RC} {m : List Rw} (h1 : w.ownsRow B1 67 2 v1 r1.length (rcCells r1)) (h2 : w.ownsRow B2 67 2 v2 r2.length (rcCells r2)) (i1 : RowsIs w r1 m) (i2 : RowsIs w r2 m) (hm : m.length ≤ 1000000000) (hc : ∀ x ∈ m, x.cols.length ≤ 1000) :
    Calls Tryz.prog 10 #[v1, v2] w fun e w' => e = .returned (.bool true) ∧ Below w.heap.size w w' := by
  have H1 := hid h1
  have H2 := hid h2
  have I1 := hid i1
  have I2 := hid i2
  have Hc := hid hc
  obtain ⟨a1, c1, e1⟩ := slice_of_own h1
  obtain ⟨a2, c2, e2⟩ := slice_of_own h2
  obtain ⟨N, hN⟩ : ∃ N, N = m.length := ⟨_, rfl⟩
  rw [← hN] at hm
  have L1 : r1.length = N := by rw [hN]; exact i1.length
  have L2 : r2.length = N := by rw [hN]; exact i2.length
  rw [L1] at e1
  rw [L2] at e2
  have HL1 := hid L1
  have HL2 := hid L2
  have HN := hid hN
  have E1 := hid e1
  have E2 := hid e2
  rw [e1, e2]
  clear h1 h2 i1 i2 hc L1 L2 hN e1 e2
  go_enter Tryz.func10, Tryz.ntmps10
  go_wp2
  go_loopw [5] (fun i wr => ∃ k : Nat, k ≤ N ∧ i = .int .i64 k ∧ Below w.heap.size w wr) (fun i _ => N - (intOf i).toNat)
  case atStart => exact ⟨0, Nat.zero_le _, rfl, Below.refl _ _⟩
  case round =>
    obtain ⟨k, hk, rfl, hb⟩ := hrel
    have HB := hid hb
    clear hb
    by_cases hlt : k < N
    · have g1 : (k : Int) < (N : Int) := by omega
      have g0 : (0 : Int) ≤ (k : Int) := by omega
      obtain ⟨g, cap, ev1, ka, kb⟩ := rows_at (own_onW H1.out HB.out) k (by rw [HL1.out]; exact hlt)
      obtain ⟨g', cap', ev2, la, lb⟩ := rows_at (own_onW H2.out HB.out) k (by rw [HL2.out]; exact hlt)
      have R1 := I1.out.get k (by rw [HL1.out]; exact hlt) (by rw [← HN.out]; exact hlt)
      have R2 := I2.out.get k (by rw [HL2.out]; exact hlt) (by rw [← HN.out]; exact hlt)
      have hcl := Hc.out _ (List.getElem_mem (by rw [← HN.out]; exact hlt : k < m.length))
      rw [E1.out] at ev1
      rw [E2.out] at ev2
      injection ev1 with x1 x2 x3
      injection ev2 with y1 y2 y3
      subst x1 y1
      generalize m[k]'(by rw [← HN.out]; exact hlt) = x at *
      generalize r1[k]'(by rw [HL1.out]; exact hlt) = q1 at *
      generalize r2[k]'(by rw [HL2.out]; exact hlt) = q2 at *
      obtain ⟨k1, ad1, n1, cp1⟩ := q1
      obtain ⟨k2, ad2, n2, cp2⟩ := q2
      obtain ⟨kx, cx⟩ := x
      obtain ⟨e1, e2, e3⟩ := R1
      obtain ⟨e4, e5, e6⟩ := R2
      dsimp only at e1 e2 e3 e4 e5 e6 ka kb la lb hcl
      subst e1 e4 e2 e5
      have T1 := hid (e3.below HB.out)
      have T2 := hid (e6.below HB.out)
      have HS := hid (fun (V : World) (hb : Below wr.heap.size wr V) => show Calls Tryz.prog 31 #[.slice ad1 cx.length cp1, .slice ad2 cx.length cp2] V (fun e w' => e = .returned (.bool true) ∧ Below V.heap.size V w') from (sameTexts_any cx cx ad1 ad2 cp1 cp2 V (T1.out.below hb).texts (T2.out.below hb).texts (by omega) (by omega)).mono (fun e w' h => ⟨h.1.trans (by rw [decide_eq_true (rfl : cx = cx)]), h.2⟩))
      have Z : Hid (wr.drew.cell? ⟨g, k * 2, none⟩ = some (.string k2) ∧ wr.drew.cell? ⟨g, k * 2 + 1, none⟩ = some (.slice ad1 cx.length cp1) ∧ wr.drew.cell? ⟨g', k * 2, none⟩ = some (.string k2) ∧ wr.drew.cell? ⟨g', k * 2 + 1, none⟩ = some (.slice ad2 cx.length cp2)) := ⟨ka, kb, la, lb⟩
      have bd : Below wr.heap.size wr wr.drew := below_drewN _ _ 1
      have BD := hid bd
      clear e3 e6 x2 x3 y2 y3 ka kb la lb bd hcl
      go_wp2_with fail
      go_region_held3 (fun w9 => w9.cell? ⟨g, k * 2, none⟩ = some (.string k2) ∧ w9.cell? ⟨g, k * 2 + 1, none⟩ = some (.slice ad1 cx.length cp1) ∧ w9.cell? ⟨g', k * 2, none⟩ = some (.string k2) ∧ w9.cell? ⟨g', k * 2 + 1, none⟩ = some (.slice ad2 cx.length cp2))
        (exact Z.out)
        ((go_at_call 31; refine (HS.out _ BD.out).mono ?_; rintro e w1 ⟨rfl, hb1⟩; have Z := hid (And.intro (cell_on hb1 Z.out.1) (And.intro (cell_on hb1 Z.out.2.1) (And.intro (cell_on hb1 Z.out.2.2.1) (cell_on hb1 Z.out.2.2.2)))); have B1 := hid (Below.on' HB.out (undrew1 hb1)); clear hb1))
      go_wp2
      go_roundw
      case rel => exact ⟨k + 1, by omega, by go_num, B1.out⟩
      case measure => simp [intOf]; omega
    · have e : k = N := by omega
      subst e
      go_wp2
      go_ret
      exact ⟨rfl, HB.out⟩
theorem app_rowL {W : World} {ops : Array Oper} {rest : List Oper} {o : Oper} {a : Act} {Q : Exit → Act → World → Prop} (hgd : o.guard = none) (sl x : Operand)
    (ho : o.op = .call { callee := .builtin .append, args := #[sl, x], argTypes := #[32, 32] }) (w : World) (k : ByteArray) (ca : Option Addr) (cn cc : Nat) (hW : W = w.alloc (.cells #[.string k, .slice ca cn cc] 67)) (base : Nat) (v : Value) (l : List RC) (hs : a.eval sl = v)
    (hown : w.ownsRow base 67 2 v l.length (rcCells l)) (hx : a.eval x = .slice (some ⟨w.heap.size, 0, none⟩) 1 1) (hb : l.length ≤ 2000000000) (hbase : base ≤ w.heap.size)
    (h : ∀ v' w', w'.ownsRow base 67 2 v' (l ++ [RC.mk k ca cn cc]).length (rcCells (l ++ [RC.mk k ca cn cc])) → w.grownBy w' v.ownBlock → wpList Tryz.prog ops Q rest (a.put o.dst v') w') :
    wpList Tryz.prog ops Q (o :: rest) a W := by
  subst hW
  obtain ⟨i0, hi, hz0, hz1, hz2⟩ := info_parts infoRow
  refine wpList_append_own _ hgd sl x 32 ho base 67 i0 (.agg #[.string ⟨#[]⟩, .slice none 0 0]) 2 40 Tryz.underlying32 hi hz0 hz1 hz2 rfl (by decide) v l.length (rcCells l) hs (hown.alloc _) ⟨w.heap.size, 0, none⟩ 1 1 [.string k, .slice ca cn cc] hx rfl (World.news_of_block (cs := #[.string k, .slice ca cn cc]) (t := 67) (fr := (0, 0)) (MapKept.heap_alloc w _).1) (by simp [Value.oneCell']) (by unfold maxLen; omega) (by omega) (by simp; omega) ?_
  intro v' w' h1 h2 h3
  refine h v' w' ?_ ((World.grownBy_alloc w _ _).trans h2)
  rw [rcCells_snoc, List.length_append]
  exact h1
end Go.Proofs.YtdglmoikgmlaaaaGreatDoor.Xr
/- Load of a tree of keys, as mathematics: rows as they are handed in, and what take makes of each. -/
namespace Go.Proofs.YtdglmoikgmlaaaaGreatDoor.Xr
open Go.RowKit Go.Maps
set_option linter.unusedVariables false
set_option maxRecDepth 20000
def RIn (w : World) (a : Option Addr) (m : List Rw) : Prop := ∀ i (h : i < m.length), ∃ b o ad cap, a = some ⟨b, o, none⟩ ∧ w.cell? ⟨b, o + i * 2, none⟩ = some (.string m[i].key) ∧ w.cell? ⟨b, o + (i * 2 + 1), none⟩ = some (.slice ad m[i].cols.length cap) ∧ Texts w ad m[i].cols
theorem RIn.below {w w' : World} {a : Option Addr} {m : List Rw} (h : RIn w a m) (hb : Below w.heap.size w w') : RIn w' a m := fun i hi => by
  obtain ⟨b, o, ad, cap, e, h1, h2, h3⟩ := h i hi
  exact ⟨b, o, ad, cap, e, cell_on hb h1, cell_on hb h2, h3.below hb⟩
def Small (m : List Rw) : Prop := m.length ≤ 140737488351232 ∧ ∀ r ∈ m, r.key.size ≤ 140737488351232 ∧ r.cols.length ≤ 140737488351232 ∧ ∀ c ∈ r.cols, c.size ≤ 140737488351232
def cutS (s : ByteArray) : Option (ByteArray × ByteArray) := (s.data.toList.findIdx? (· == 47)).map fun i => (s.extract 0 i, s.extract (i + 1) s.size)
def headK : ByteArray := ⟨#[35]⟩
def oneN (cols : List ByteArray) (lo hi : Nat) : Option Nat := if cols.length = 1 then numR (cols.headD ⟨#[]⟩).data.toList lo hi else none
def takeR (s : TS) (r : Rw) : Option TS :=
  if r.key = headK then (oneN r.cols 0 1099511627776).map fun n => { s with n := n }
  else match cutS r.key with
    | some p => (oneN r.cols 2 16).bind fun v => if (s.cur p.1 p.2).2 = 0 ∧ s.vs.length ≠ 16 then some (s.rot p.1 p.2 v) else none
    | none => if r.cols.length = 0 ∧ (s.desR r.key).2 = 0 then some (s.desR r.key).1 else none
def loadF : TS → List Rw → Option TS
  | s, [] => some s
  | s, r :: m => (takeR s r).bind fun s' => loadF s' m
theorem loadF_snoc (s : TS) (m : List Rw) (r : Rw) : loadF s (m ++ [r]) = (loadF s m).bind fun s' => takeR s' r := by
  induction m generalizing s with
  | nil => simp [loadF]
  | cons x m ih =>
    simp only [List.cons_append, loadF]
    cases takeR s x with
    | none => rfl
    | some s' => simp only [Option.bind_some]; exact ih s'
theorem loadF_app (s : TS) (m m' : List Rw) : loadF s (m ++ m') = (loadF s m).bind fun s' => loadF s' m' := by
  induction m generalizing s with
  | nil => simp [loadF]
  | cons x m ih =>
    simp only [List.cons_append, loadF]
    cases takeR s x with
    | none => rfl
    | some s' => simp only [Option.bind_some]; exact ih s'
def Rise (m : List Rw) : Prop := m.Pairwise fun a b => a.key.toList < b.key.toList
open Classical in
noncomputable def loadR (m : List Rw) : Option TS := if (∃ r m', m = r :: m' ∧ r.key = headK) ∧ Rise m then loadF TS0 m else none
theorem rotV_ok {s : TS} (ok : s.Ok) {t u : ByteArray} {v : Nat} (hv : (s.cur t u).2 = 0) (h2 : 2 ≤ v) (h16 : v ≤ 16) (hl : s.vs.length ≠ 16) : (s.rot t u v).Ok := by
  obtain ⟨n1, n2, hg, _⟩ := cur_ok hv
  refine ok.rot t u n1 n2 (fun hm => by rw [isIn_iff.2 hm] at hg; cases hg) _ h2 h16 ?_
  have := ok.few
  rw [rotV_length ok.nodup]
  split <;> omega
theorem numR_some {l : List UInt8} {lo hi n : Nat} (h : numR l lo hi = some n) : l = numT n ∧ lo ≤ n ∧ n ≤ hi := by
  unfold numR at h
  split at h
  · rename_i h1
    obtain rfl := Option.some.inj h
    exact ⟨(toNum_inv (show toNum l = ((toNum l).1, 0) by rw [← h1.1])).1, h1.2.1, h1.2.2⟩
  · cases h
theorem oneN_some {cols : List ByteArray} {lo hi n : Nat} (h : oneN cols lo hi = some n) : cols = [txtJ n] ∧ lo ≤ n ∧ n ≤ hi := by
  unfold oneN at h
  split at h
  · rename_i h1
    obtain ⟨c, rfl⟩ := List.length_eq_one_iff.1 h1
    obtain ⟨h2, h3⟩ := numR_some h
    refine ⟨?_, h3⟩
    have : c = txtJ n := by
      rw [← Lib.mk_data c]
      unfold txtJ
      rw [show c.data.toList = numT n from h2]
    rw [this]
  · cases h
theorem takeR_ok {s s' : TS} (ok : s.Ok) {r : Rw} (h : takeR s r = some s') : s'.Ok := by
  unfold takeR at h
  split at h
  · cases h1 : oneN r.cols 0 1099511627776 with
    | none => rw [h1] at h; cases h
    | some n =>
      rw [h1] at h
      obtain rfl := Option.some.inj h
      exact ⟨ok.names, ok.nodup, ok.gnames, ok.gnodup, ok.few, ok.gfew⟩
  · split at h
    · rename_i p hp
      cases h1 : oneN r.cols 2 16 with
      | none => rw [h1] at h; cases h
      | some v =>
        rw [h1] at h
        obtain ⟨_, h2, h3⟩ := oneN_some h1
        simp only [Option.bind_some] at h
        split at h
        · rename_i h4
          obtain rfl := Option.some.inj h
          exact rotV_ok ok h4.1 h2 h3 h4.2
        · cases h
    · split at h
      · rename_i h4
        obtain rfl := Option.some.inj h
        have h5 := h4.2
        unfold TS.desR at h5 ⊢
        by_cases hn : okN r.key = true
        · rw [if_pos hn] at h5 ⊢
          by_cases hg : isIn s.gs r.key = true
          · rw [if_pos hg] at h5; cases h5
          · rw [if_neg hg] at h5 ⊢
            by_cases hf : s.gs.length = 16
            · rw [if_pos hf] at h5; cases h5
            · rw [if_neg hf]
              exact ok.des r.key hn (by simpa using hg) (by have := ok.gfew; omega)
        · rw [if_neg hn] at h5; cases h5
      · cases h
end Go.Proofs.YtdglmoikgmlaaaaGreatDoor.Xr
/- strings.Cut at a slash; onlyNumber of any columns. -/
namespace Go.Proofs.YtdglmoikgmlaaaaGreatDoor.Xr
open Go.RowKit Go.Maps
set_option linter.unusedVariables false
set_option maxRecDepth 20000
theorem index_find (l : List UInt8) (c : UInt8) : Lib.indexByte l c = match l.findIdx? (· == c) with | some i => (i : Int) | none => -1 := by
  induction l with
  | nil => rfl
  | cons b l ih =>
    rw [Lib.indexByte, List.findIdx?_cons, ih]
    by_cases h : (b == c) = true
    · rw [if_pos h, if_pos h]; rfl
    · rw [if_neg h, if_neg h]
      cases l.findIdx? (· == c) with
      | none => rfl
      | some i =>
        simp only [Option.map_some]
        have : (((i : Int)) == -1) = false := by rw [beq_eq_false_iff_ne]; omega
        rw [this]
        simp
theorem hf_ibsJ (args : Array Value) (w : World) : (callFunc 131 args).run Tryz.prog w = ((Extern.BytealgIndexByte.indexByte args).run Tryz.prog w).andThen fun v w' => .ok (.value v) w' :=
  run_callFunc_extern Tryz.func131 (by kernel_rfl) (by kernel_rfl) (by kernel_rfl) (by kernel_rfl) args w
attribute [local go_sem ↓] hf_ibsJ
theorem sliteJ (s : ByteArray) (w : World) : Calls Tryz.prog 116 #[.string s, .int .u8 47] w fun e w' => e = .returned (.int .i64 (Lib.indexByte s.data.toList 47)) ∧ w' = w := by
  have h := Lib.run_indexByteString (P := Tryz.prog) s 47
  simp only [show (47 : Int).toNat.toUInt8 = 47 from rfl] at h
  go_enter Tryz.func116, Tryz.ntmps116
  go_wp2
  go_ret
  exact ⟨rfl, rfl⟩
set_option maxHeartbeats 2000000 in
theorem indexJ (s : ByteArray) (w : World) : Calls Tryz.prog 101 #[.string s, .string ⟨#[47]⟩] w fun e w' => e = .returned (.int .i64 (Lib.indexByte s.data.toList 47)) ∧ w' = w := by
  by_cases h : ([47] == s.toList) = true
  · have e : Lib.indexByte s.data.toList 47 = 0 := by
      have h1 : [47] = s.toList := by simpa using h
      rw [Lib.toList_data] at h1
      rw [← h1]
      rfl
    rw [e]
    clear e
    go_enter Tryz.func101, Tryz.ntmps101
    go_wp2
    go_ret
    exact ⟨rfl, rfl⟩
  · have h' : ([47] == s.toList) = false := by simpa using h
    clear h
    go_enter Tryz.func101, Tryz.ntmps101
    go_wp2_with (go_at_call 116; refine (sliteJ s _).mono ?_; rintro _ _ ⟨rfl, rfl⟩)
    go_ret
    exact ⟨rfl, rfl⟩
def cutP (s : ByteArray) : ByteArray × ByteArray := (cutS s).getD (s, ⟨#[]⟩)
theorem find_lt {s : ByteArray} {i : Nat} (h : s.data.toList.findIdx? (· == 47) = some i) : i < s.size := by
  obtain ⟨h1, _⟩ := List.findIdx?_eq_some_iff_getElem.1 h
  rw [Lib.size_eq]
  exact h1
set_option maxHeartbeats 2000000 in
theorem cutL_any (s : ByteArray) (hs : s.size ≤ 140737488351232) (w : World) : Calls Tryz.prog 77 #[.string s, .string ⟨#[47]⟩] w fun e w' => e = .returned (.tuple #[.string (cutP s).1, .string (cutP s).2, .bool (cutS s).isSome]) ∧ Below w.heap.size w w' := by
  have hx := index_find s.data.toList 47
  unfold cutP cutS
  cases hf : s.data.toList.findIdx? (· == 47) with
  | none =>
    rw [hf] at hx
    simp only at hx
    simp only [Option.map_none, Option.getD_none, Option.isSome_none]
    have HI := hid (fun W => indexJ s W)
    rw [hx] at HI
    clear hx hf
    go_enter Tryz.func77, Tryz.ntmps77
    go_wp2_with (go_at_call 101; refine (HI.out _).mono ?_; rintro _ _ ⟨rfl, rfl⟩)
    go_ret3
    exact ⟨rfl, Below.refl _ _⟩
  | some i =>
    rw [hf] at hx
    simp only at hx
    simp only [Option.map_some, Option.getD_some, Option.isSome_some]
    have hlt := find_lt hf
    have HI := hid (fun W => indexJ s W)
    rw [hx] at HI
    have c1 : (0 : Int) ≤ ↑i := by omega
    have c2 : (↑i : Int) ≤ ↑s.size := by omega
    have c3 : (0 : Int) ≤ ↑i + 1 := by omega
    have c4 : (↑i + 1 : Int) ≤ ↑s.size := by omega
    have e1 : ((i : Int) + 1).toNat = i + 1 := by omega
    clear hx hf
    go_enter Tryz.func77, Tryz.ntmps77
    go_wp2_with (go_at_call 101; refine (HI.out _).mono ?_; rintro _ _ ⟨rfl, rfl⟩)
    go_region
    go_wp2
    go_ret3
    exact ⟨rfl, below_drewN _ _ _⟩
set_option maxHeartbeats 2000000 in
theorem cut_any (s : ByteArray) (hs : s.size ≤ 140737488351232) (w : World) : Calls Tryz.prog 56 #[.string s, .string ⟨#[47]⟩] w fun e w' => e = .returned (.tuple #[.string (cutP s).1, .string (cutP s).2, .bool (cutS s).isSome]) ∧ Below w.heap.size w w' := by
  have HC := hid (cutL_any s hs w)
  generalize (cutP s).1 = a at *
  generalize (cutP s).2 = b at *
  generalize (cutS s).isSome = c at *
  go_enter Tryz.func56, Tryz.ntmps56
  go_wp2_with (go_at_call 77; refine HC.out.mono ?_; rintro _ w1 ⟨rfl, b1⟩)
  go_ret3
  exact ⟨rfl, b1⟩
set_option maxHeartbeats 2000000 in
theorem onlyNumber_any {w : World} {a : Option Addr} {cols : List ByteArray} (n cap : Nat) (hn : n = cols.length) (h : Texts w a cols) (hl : cols.length ≤ 140737488351232) (hs : ∀ c ∈ cols, c.size ≤ 140737488351232) (lo hi : Nat) :
    Calls Tryz.prog 78 #[.slice a n cap, .int .i64 (lo : Int), .int .i64 (hi : Int)] w fun e w' => e = .returned (.tuple #[.int .i64 (((oneN cols lo hi).getD 0 : Nat) : Int), .bool (oneN cols lo hi).isSome]) ∧ w' = w := by
  unfold oneN
  by_cases h1 : cols.length = 1
  · obtain ⟨c, rfl⟩ := List.length_eq_one_iff.1 h1
    obtain ⟨b, o, rfl, hc⟩ := h 0 (by simp)
    simp only [List.getElem_cons_zero, Nat.add_zero] at hc
    have hc0 := hs c (by simp)
    have HN := hid (numberJ_any c (by unfold maxLen; omega) lo hi w)
    rw [if_pos (show [c].length = 1 from rfl)]
    simp only [List.headD_cons]
    generalize numR c.data.toList lo hi = r at *
    have hn1 : n = 1 := hn
    subst hn1
    clear h hs hl hn h1
    go_enter Tryz.func78, Tryz.ntmps78
    go_wp2_with (go_at_call 102; refine HN.out.mono ?_; rintro _ w1 ⟨rfl, e9⟩; subst w1)
    go_ret2
    exact ⟨rfl, rfl⟩
  · rw [if_neg h1]
    have d1 : ((n : Int) != 1) = true := by simp; omega
    clear h hs hl
    go_enter Tryz.func78, Tryz.ntmps78
    go_wp2
    go_ret2
    exact ⟨rfl, rfl⟩
end Go.Proofs.YtdglmoikgmlaaaaGreatDoor.Xr
/- take of one row, by contracts. -/
namespace Go.Proofs.YtdglmoikgmlaaaaGreatDoor.Xr
open Go.RowKit Go.Maps
set_option linter.unusedVariables false
set_option maxRecDepth 20000
section
variable {w w' : World} {B g mv mg nv ng n : Nat} {root : List UInt8} {V G : DataW Unit} {s : TS} {d : Nat}
set_option maxHeartbeats 2000000 in
theorem takeSealed_any (h : TreeAt w B g root mv mg nv ng V G n) {a : Option Addr} {cols : List ByteArray} (k cap : Nat) (hk : k = cols.length) (ht : Texts w a cols) (hl : cols.length ≤ 140737488351232) (hs : ∀ c ∈ cols, c.size ≤ 140737488351232) :
    Calls Tryz.prog 57 #[.pointer (some ⟨g, 0, none⟩), .slice a k cap] w fun e w' => e = .returned (.bool (oneN cols 0 1099511627776).isSome) ∧ TreeAt w' B g root mv mg nv ng V G ((oneN cols 0 1099511627776).getD 0) ∧ OutJ (fun j => j = g) w w' := by
  have HO := hid (onlyNumber_any k cap hk ht hl hs 0 1099511627776)
  have H := hid h
  have fz := h.fz 34
  have c34 := h.c34
  generalize oneN cols 0 1099511627776 = r at *
  clear h ht hl hs hk
  go_enter Tryz.func57, Tryz.ntmps57
  go_wp2_with (go_at_call 78; refine HO.out.mono ?_; rintro _ w1 ⟨rfl, e9⟩; subst w1)
  go_ret
  exact ⟨rfl, H.out.setN _, OutJ.setCell _ _ _ rfl⟩
theorem reach_m (h : TreeM w B g mv mg root s d) (t u : ByteArray) (ht : t.size ≤ maxLen) (hu : u.size ≤ maxLen) (a : Option Addr) (hx : Texts w a [t, u]) :
    Calls Tryz.prog 46 #[.pointer (some ⟨g, 0, none⟩), .string t, .slice a 2 2] w fun e w' => e = .returned (.int .i64 ((s.cur t u).2 : Int)) ∧ Below w.heap.size w w' := by
  obtain ⟨ok, hne, nv, ng, V, G, h1, hV, hG, _⟩ := h
  unfold TS.cur
  by_cases hn : (okN t && okN u) = true
  · rw [if_pos hn]
    obtain ⟨n1, n2⟩ := (Bool.and_eq_true _ _).mp hn
    refine (reach_any h1 t ht [t, u] a 2 2 rfl hx (by simp) (fun s hs => by simp at hs; rcases hs with rfl | rfl; exact ⟨ht, n1⟩; exact ⟨hu, n2⟩) (isIn s.gs t) (hG.has t)).mono fun e w' h => ?_
    obtain ⟨rfl, hb⟩ := h
    refine ⟨?_, hb⟩
    unfold goneE
    cases isIn s.gs t <;> rfl
  · rw [if_neg hn]
    exact (reach_bad t [t, u] a 2 2 rfl hx (by simp) (fun s hs => by simp at hs; rcases hs with rfl | rfl; exact ht; exact hu) (by simpa using hn)).mono fun e w' ⟨h1, h2⟩ => ⟨h1, h2 ▸ Below.refl _ _⟩
theorem texts2J (w : World) (p q : ByteArray) : Texts (w.alloc (.cells #[.string p, .string q] 9)) (some ⟨w.heap.size, 0, none⟩) [p, q] := fun i hi => by
  refine ⟨w.heap.size, 0, rfl, ?_⟩
  rw [World.cell?_alloc_at _ _ _ _ rfl]
  match i, hi with
  | 0, _ => rfl
  | 1, _ => rfl
def TakeP (w : World) (B g mv mg : Nat) (root : List UInt8) (d : Nat) (o : Option TS) (e : Ending) (w' : World) : Prop := e = .returned (.bool o.isSome) ∧ (∀ s', o = some s' → TreeM w' B g mv mg root s' (d + 1)) ∧ OutJ (Mine g mv mg) w w'
theorem TakeP.no (hb : Below w.heap.size w w') : TakeP w B g mv mg root d none (.returned (.bool false)) w' := ⟨rfl, (fun _ h => nomatch h), OutJ.of_below hb⟩
def tvR (s : TS) (t u : ByteArray) (cols : List ByteArray) : Option TS := (oneN cols 2 16).bind fun v => if (s.cur t u).2 = 0 ∧ s.vs.length ≠ 16 then some (s.rot t u v) else none
set_option maxHeartbeats 4000000 in
theorem takeVersion_any (h : TreeM w B g mv mg root s d) (hd : d ≤ 900) (t u : ByteArray) (ht : t.size ≤ maxLen) (hu : u.size ≤ maxLen) {a : Option Addr} {cols : List ByteArray} (k cap : Nat) (hk : k = cols.length) (hx : Texts w a cols) (hl : cols.length ≤ 140737488351232) (hs : ∀ c ∈ cols, c.size ≤ 140737488351232) :
    Calls Tryz.prog 58 #[.pointer (some ⟨g, 0, none⟩), .string t, .string u, .slice a k cap] w (TakeP w B g mv mg root d (tvR s t u cols)) := by
  have HO := hid (onlyNumber_any k cap hk hx hl hs 2 16)
  unfold tvR
  have hsome : ∀ v, oneN cols 2 16 = some v → 2 ≤ v ∧ v ≤ 16 := fun v hv => (oneN_some hv).2
  cases hr : oneN cols 2 16 with
  | none =>
    rw [hr] at HO
    simp only [Option.bind_none]
    clear h hx hl hs hk hr hsome
    go_enter Tryz.func58, Tryz.ntmps58
    go_wp2_with (go_at_call 78; refine HO.out.mono ?_; rintro _ w1 ⟨rfl, e9⟩; subst w1)
    go_ret
    exact TakeP.no (Below.refl _ _)
  | some v =>
    rw [hr] at HO
    obtain ⟨v2, v16⟩ := hsome v hr
    simp only [Option.bind_some, Option.getD_some, Option.isSome_some] at HO ⊢
    have b0 : Below w.heap.size w (w.alloc (.cells #[.string t, .string u] 9)) := (Below.refl _ w).alloc (Nat.le_refl _) _
    have HR := hid (reach_m (h.below b0) t u ht hu (some ⟨w.heap.size, 0, none⟩) (texts2J w t u))
    have B0 := hid b0
    have H := hid h
    have hV16 := hsome
    clear hx hl hs hk hr hsome b0 hV16
    by_cases he : (s.cur t u).2 = 0
    · rw [he] at HR
      obtain ⟨n1, n2, hg, hc⟩ := cur_ok he
      by_cases hf : s.vs.length = 16
      · rw [if_neg (fun h9 => h9.2 hf)]
        obtain ⟨ok, hne, nv, ng, V, G, h1, hV, hG, l1, l2⟩ := h
        have H1 := hid h1
        have g2 : ((Maps.size V : Int) == 16) = true := by rw [hV.size, hf]; rfl
        clear h1 hV hG ok hf he hc hg n1 n2 hne
        go_enter Tryz.func58, Tryz.ntmps58
        go_wp2_with (first
          | (go_at_call 78; refine HO.out.mono ?_; rintro _ w1 ⟨rfl, e9⟩; subst w1)
          | (go_at_call 46; refine HR.out.mono ?_; rintro _ w1 ⟨rfl, b1⟩; have B1 := hid (Below.on' B0.out b1); have hT1 := H1.out.below B1.out; have c32 := hT1.c32; have hlen := hT1.vm.len Tryz.underlying52 3; clear b1 hT1))
        go_ret
        exact TakeP.no B1.out
      · rw [if_pos ⟨he, hf⟩]
        have hrok := rotV_ok (by obtain ⟨ok, _⟩ := h; exact ok) he v2 v16 hf
        obtain ⟨ok, hne, nv, ng, V, G, h1, hV, hG, l1, l2⟩ := h
        have H1 := hid h1
        have g2 : ((Maps.size V : Int) == 16) = false := by rw [hV.size, beq_eq_false_iff_ne]; omega
        have hVr := hV.rot ok t u ht hu v
        have hkl := hid (keyOf_place t u ht hu)
        have hwf : (Lit.int .i64 (v : Int)).wf = true := by simp [Lit.wf, IntKind.min, IntKind.max, IntKind.signed, IntKind.bits]; omega
        have Hwf := hid hwf
        have Hok := hid hrok
        have HVr := hid hVr
        have HG := hid hG
        have Hne := hid hne
        clear h1 hV hG ok hf he hc hg n1 n2 hne hwf hVr hrok
        go_enter Tryz.func58, Tryz.ntmps58
        go_wp2_with (first
          | (go_at_call 78; refine HO.out.mono ?_; rintro _ w1 ⟨rfl, e9⟩; subst w1)
          | (go_at_call 46; refine HR.out.mono ?_; rintro _ w1 ⟨rfl, b1⟩; have B1 := hid (Below.on' B0.out b1); have hT1 := H1.out.below B1.out; have c32 := hT1.c32; have hlen := hT1.vm.len Tryz.underlying52 3; have HT1 := hid hT1; clear b1 hT1)
          | (at_mapUpdate; refine wpList_mapUpdate_own _ rfl _ _ _ 52 rfl 71 3 lawPlace Tryz.underlying52 _ mv nv V rfl HT1.out.vm (by unfold maxLen; omega) _ _ _ rfl rfl hkl.out _ [] (plainElem_int Tryz.underlying3 Hwf.out) ?_; intro w2 hown2 hg2))
        go_ret
        refine ⟨rfl, fun s' hs' => ?_, ?_⟩
        · obtain rfl := Option.some.inj hs'
          exact ⟨Hok.out, Hne.out, _, _, _, _, ⟨(hg2.block g HT1.out.lt (fun e => HT1.out.mvne.1 (Option.some.inj e).symm)).trans HT1.out.obj, hown2, HT1.out.gm.kept hg2 (fun e => Hne.out (Option.some.inj e).symm), HT1.out.len, HT1.out.bg, HT1.out.bv, HT1.out.bm⟩, HVr.out, HG.out, by omega, by omega⟩
        · exact (OutJ.of_below B1.out).trans ⟨hg2.os, hg2.tape, hg2.output, hg2.size, fun j hj hp => hg2.block j hj (fun e => hp (.inr (.inl (Option.some.inj e))))⟩
    · rw [if_neg (fun h9 => he h9.1)]
      have he1 : (((s.cur t u).2 : Int) != 0) = true := by simp; omega
      have He := hid he
      clear he h
      generalize ((s.cur t u).2 : Int) = c at *
      go_enter Tryz.func58, Tryz.ntmps58
      go_wp2_with (first
        | (go_at_call 78; refine HO.out.mono ?_; rintro _ w1 ⟨rfl, e9⟩; subst w1)
        | (go_at_call 46; refine HR.out.mono ?_; rintro _ w1 ⟨rfl, b1⟩; have B1 := hid (Below.on' B0.out b1); clear b1))
      go_ret
      exact TakeP.no B1.out
end
end Go.Proofs.YtdglmoikgmlaaaaGreatDoor.Xr
