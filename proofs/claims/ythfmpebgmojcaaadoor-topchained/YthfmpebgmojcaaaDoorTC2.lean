/- YthfmpebgmojcaaaDoorZX + YthfmpebgmojcaaaDoorZRows + YthfmpebgmojcaaaDoorTC2 -/
import Derived.Test.YthfmpebgmojcaaaDoorZRw9
import Derived.BigQuiet
import Derived.Deep.QuietTactic
import Derived.Laws.AppendOwnNone
import Derived.Deep.RegionHeld3
import Derived.Test.YthfmpebgmojcaaaDoorAToNum
import Derived.Test.YthfmpebgmojcaaaDoorJT0
import Derived.Test.YthfmpebgmojcaaaDoorALd2
/- Rows as they lie, the reference's SameRows and Sorted. (Printed by gen/zx.py out of XNum, XRow, XSame, XSort.) -/
namespace Go.Proofs.YthfmpebgmojcaaaDoor.Xr
open Go.RowKit
set_option linter.unusedVariables false
set_option maxRecDepth 20000
structure Rw where
  key : ByteArray
  cols : List ByteArray
structure RC where
  key : ByteArray
  ad : Option Addr
  len : Nat
  cap : Nat
def rcCells (l : List RC) : List Value := l.flatMap fun r => [.string r.key, .slice r.ad r.len r.cap]
theorem rcCells_length (l : List RC) : (rcCells l).length = l.length * 2 := by
  induction l with
  | nil => rfl
  | cons x r ih => rw [rcCells, List.flatMap_cons, ← rcCells, List.length_append, ih]; simp; omega
theorem rcCells_snoc (l : List RC) (r : RC) : rcCells (l ++ [r]) = rcCells l ++ [.string r.key, .slice r.ad r.len r.cap] := by simp [rcCells]
theorem rcCells_app (l m : List RC) : rcCells (l ++ m) = rcCells l ++ rcCells m := by simp [rcCells]
theorem rcCells_one (l : List RC) : ∀ u ∈ rcCells l, u.oneCell' = true := fun u hu => by
  obtain ⟨r, _, h⟩ := List.mem_flatMap.1 hu
  simp at h
  rcases h with rfl | rfl <;> rfl
theorem rcCells_get (l : List RC) (i : Nat) (hi : i < l.length) : (rcCells l)[i * 2]? = some (.string l[i].key) ∧ (rcCells l)[i * 2 + 1]? = some (.slice l[i].ad l[i].len l[i].cap) := by
  induction l generalizing i with
  | nil => simp at hi
  | cons x r ih =>
    rw [rcCells, List.flatMap_cons, ← rcCells]
    cases i with
    | zero => exact ⟨rfl, rfl⟩
    | succ m =>
      have hm : m < r.length := by simpa using hi
      have := ih m hm
      rw [List.getElem?_append_right (by simp; omega), List.getElem?_append_right (by simp; omega)]
      simp only [List.length_cons, List.length_nil, List.getElem_cons_succ]
      rw [show (m + 1) * 2 - (0 + 1 + 1) = m * 2 by omega, show (m + 1) * 2 + 1 - (0 + 1 + 1) = m * 2 + 1 by omega]
      exact this
def ColAt (w : World) (a : Option Addr) (l : List ByteArray) : Prop := ∃ b cur, a = some ⟨b, 0, none⟩ ∧ w.heap[b]? = some (.cells cur 9 (0, 0)) ∧ cur.toList.take l.length = l.map Value.string
theorem ColAt.below {w w' : World} {a : Option Addr} {l : List ByteArray} (h : ColAt w a l) (hb : Below w.heap.size w w') : ColAt w' a l := by
  obtain ⟨b, cur, e, h1, h2⟩ := h
  exact ⟨b, cur, e, (hb.block b (Array.getElem?_eq_some_iff.1 h1).1).trans h1, h2⟩
theorem ColAt.texts {w : World} {a : Option Addr} {l : List ByteArray} (h : ColAt w a l) : Texts w a l := fun i hi => by
  obtain ⟨b, cur, e, h1, h2⟩ := h
  refine ⟨b, 0, e, ?_⟩
  have h3 : (cur.toList.take l.length)[i]? = some (.string l[i]) := by rw [h2]; simp [hi]
  rw [List.getElem?_take_of_lt hi] at h3
  have h4 : cur[i]? = some (.string l[i]) := by simpa using h3
  rw [Nat.zero_add]
  simp [World.cell?, h1, h4]
theorem ne_row {w : World} {B n g b : Nat} {v : Value} {xs : List Value} {cur : Array Value} (hown : w.ownsRow B 75 2 v n xs) (hb : w.heap[b]? = some (.cells cur 9 (0, 0))) : v.ownBlock ≠ some b := by
  intro e
  rcases hown.2 with ⟨rfl, _⟩ | ⟨g, cap, cur', rfl, _, hg, _⟩
  · cases e
  · have : g = b := by simpa [Value.ownBlock] using e
    subst this
    rw [hb] at hg
    injection hg with hg
    injection hg with _ ht _
    exact absurd ht (by decide)
theorem ColAt.grown {w w' : World} {a : Option Addr} {l : List ByteArray} (h : ColAt w a l) {B n : Nat} {v : Value} {xs : List Value} (hown : w.ownsRow B 75 2 v n xs) (hg : w.grownBy w' v.ownBlock) : ColAt w' a l := by
  obtain ⟨b, cur, e, h1, h2⟩ := h
  exact ⟨b, cur, e, (hg.block b (Array.getElem?_eq_some_iff.1 h1).1 (ne_row (g := 0) hown h1).symm).trans h1, h2⟩
def RowIs (w : World) (r : RC) (x : Rw) : Prop := r.key = x.key ∧ r.len = x.cols.length ∧ ColAt w r.ad x.cols
def RowsIs (w : World) : List RC → List Rw → Prop
  | [], [] => True
  | r :: l, x :: m => RowIs w r x ∧ RowsIs w l m
  | _, _ => False
theorem RowsIs.imp {w w' : World} (h0 : ∀ r x, RowIs w r x → RowIs w' r x) : ∀ {l : List RC} {m : List Rw}, RowsIs w l m → RowsIs w' l m
  | [], [], _ => trivial
  | _ :: _, _ :: _, ⟨h1, h2⟩ => ⟨h0 _ _ h1, RowsIs.imp h0 h2⟩
theorem RowIs.below {w w' : World} {r : RC} {x : Rw} (h : RowIs w r x) (hb : Below w.heap.size w w') : RowIs w' r x := ⟨h.1, h.2.1, h.2.2.below hb⟩
theorem RowsIs.below {w w' : World} {l : List RC} {m : List Rw} (h : RowsIs w l m) (hb : Below w.heap.size w w') : RowsIs w' l m := h.imp fun _ _ h => h.below hb
theorem RowsIs.grown {w w' : World} {l : List RC} {m : List Rw} (h : RowsIs w l m) {B n : Nat} {v : Value} {xs : List Value} (hown : w.ownsRow B 75 2 v n xs) (hg : w.grownBy w' v.ownBlock) : RowsIs w' l m := h.imp fun _ _ h => ⟨h.1, h.2.1, h.2.2.grown hown hg⟩
theorem RowsIs.length {w : World} : ∀ {l : List RC} {m : List Rw}, RowsIs w l m → l.length = m.length
  | [], [], _ => rfl
  | _ :: _, _ :: _, ⟨_, h2⟩ => by simp [RowsIs.length h2]
theorem RowsIs.app {w : World} : ∀ {l : List RC} {m : List Rw} {l' : List RC} {m' : List Rw}, RowsIs w l m → RowsIs w l' m' → RowsIs w (l ++ l') (m ++ m')
  | [], [], _, _, _, h => h
  | _ :: _, _ :: _, _, _, ⟨h1, h2⟩, h => ⟨h1, RowsIs.app h2 h⟩
theorem RowsIs.get {w : World} : ∀ {l : List RC} {m : List Rw} (i : Nat) (h1 : i < l.length) (h2 : i < m.length), RowsIs w l m → RowIs w l[i] m[i]
  | r :: l, x :: m, 0, _, _, h => (show RowIs w r x ∧ RowsIs w l m from h).1
  | r :: l, x :: m, i + 1, h1, h2, h => RowsIs.get i (by simpa using h1) (by simpa using h2) (show RowIs w r x ∧ RowsIs w l m from h).2
theorem infoRow : (Tryd.prog.info? 75).map (fun i => (i.zero, i.size, i.bytes)) = some (some (.agg #[.string ⟨#[]⟩, .slice none 0 0]), 2, 40) := by kernel_rfl
theorem own_onW {w w' : World} {B e s n : Nat} {v : Value} {xs : List Value} (h : w.ownsRow B e s v n xs) (hb : Below w.heap.size w w') : w'.ownsRow B e s v n xs := by
  refine ⟨h.1, ?_⟩
  rcases h.2 with h0 | ⟨g, cap, cur, hv, hg, hgb, r⟩
  · exact .inl h0
  · exact .inr ⟨g, cap, cur, hv, hg, (hb.block _ (Array.getElem?_eq_some_iff.1 hgb).1).trans hgb, r⟩
theorem slice_of_own {w : World} {B e s n : Nat} {v : Value} {xs : List Value} (h : w.ownsRow B e s v n xs) : ∃ a c, v = .slice a n c := by
  rcases h.2 with ⟨rfl, h0⟩ | ⟨g, cap, cur, rfl, _⟩
  · exact ⟨none, 0, by rw [h0]⟩
  · exact ⟨_, _, rfl⟩
theorem cell_on {V V' : World} (hb : Below V.heap.size V V') {a : Addr} {v : Value} (h : V.cell? a = some v) : V'.cell? a = some v := (hb.cell (World.block_lt_of_cell? _ _ h)).trans h
theorem rows_at {w : World} {B : Nat} {v : Value} {rs : List RC} (h : w.ownsRow B 75 2 v rs.length (rcCells rs)) (k : Nat) (hk : k < rs.length) : ∃ g cap, v = .slice (some ⟨g, 0, none⟩) rs.length cap ∧ w.cell? ⟨g, k * 2, none⟩ = some (.string rs[k].key) ∧ w.cell? ⟨g, k * 2 + 1, none⟩ = some (.slice rs[k].ad rs[k].len rs[k].cap) := by
  rcases h.2 with ⟨_, h0⟩ | ⟨g, cap, cur, rfl, _⟩
  · omega
  · refine ⟨g, cap, rfl, ?_, ?_⟩
    · rw [World.ownsRow.cellAt h (k * 2) (by omega)]
      exact (rcCells_get rs k hk).1
    · rw [World.ownsRow.cellAt h (k * 2 + 1) (by omega)]
      exact (rcCells_get rs k hk).2
def RowsPost (w : World) (m : List Rw) (e : Ending) (w' : World) : Prop := ∃ v rs, e = .returned v ∧ w'.ownsRow w.heap.size 75 2 v rs.length (rcCells rs) ∧ RowsIs w' rs m ∧ Below w.heap.size w w'
theorem app_rowL {W : World} {ops : Array Oper} {rest : List Oper} {o : Oper} {a : Act} {Q : Exit → Act → World → Prop} (hgd : o.guard = none) (sl x : Operand)
    (ho : o.op = .call { callee := .builtin .append, args := #[sl, x], argTypes := #[22, 22] }) (w : World) (k : ByteArray) (ca : Option Addr) (cn cc : Nat) (hW : W = w.alloc (.cells #[.string k, .slice ca cn cc] 75)) (base : Nat) (v : Value) (l : List RC) (hs : a.eval sl = v)
    (hown : w.ownsRow base 75 2 v l.length (rcCells l)) (hx : a.eval x = .slice (some ⟨w.heap.size, 0, none⟩) 1 1) (hb : l.length ≤ 2000000000) (hbase : base ≤ w.heap.size)
    (h : ∀ v' w', w'.ownsRow base 75 2 v' (l ++ [RC.mk k ca cn cc]).length (rcCells (l ++ [RC.mk k ca cn cc])) → w.grownBy w' v.ownBlock → wpList Tryd.prog ops Q rest (a.put o.dst v') w') :
    wpList Tryd.prog ops Q (o :: rest) a W := by
  subst hW
  obtain ⟨i0, hi, hz0, hz1, hz2⟩ := info_parts infoRow
  refine wpList_append_own _ hgd sl x 22 ho base 75 i0 (.agg #[.string ⟨#[]⟩, .slice none 0 0]) 2 40 Tryd.underlying22 hi hz0 hz1 hz2 rfl (by decide) v l.length (rcCells l) hs (hown.alloc _) ⟨w.heap.size, 0, none⟩ 1 1 [.string k, .slice ca cn cc] hx rfl (World.news_of_block (cs := #[.string k, .slice ca cn cc]) (t := 75) (fr := (0, 0)) (MapKept.heap_alloc w _).1) (by simp [Value.oneCell']) (by unfold maxLen; omega) (by omega) (by simp; omega) ?_
  intro v' w' h1 h2 h3
  refine h v' w' ?_ ((World.grownBy_alloc w _ _).trans h2)
  rw [rcCells_snoc, List.length_append]
  exact h1
end Go.Proofs.YthfmpebgmojcaaaDoor.Xr
/- The reference's Rows, by a contract; rows of both sides in one form. (Printed by gen/zrowsall.py.) -/
namespace Go.Proofs.YthfmpebgmojcaaaDoor
open Go.RowKit
set_option linter.unusedVariables false
set_option maxRecDepth 20000
def toRC (x : Rw) : Xr.RC := ⟨x.key, x.a, x.cols.length, x.cap⟩
def toX (p : ByteArray × List ByteArray) : Xr.Rw := ⟨p.1, p.2⟩
def rowsX (c : Ch) : List Xr.Rw := (rowsOf c).map toX
theorem rcCells_toRC (l : List Rw) : Xr.rcCells (l.map toRC) = rvCells l := by
  unfold Xr.rcCells rvCells
  rw [List.flatMap_map]
  rfl
theorem colAt_own {w : World} {a : Option Addr} {cap : Nat} {l : List ByteArray} (h : w.ownsRow 0 9 1 (.slice a l.length cap) l.length (strsOf l)) (hl : l ≠ []) : Xr.ColAt w a l := by
  rcases h.2 with ⟨_, h0⟩ | ⟨g, cp, cur, e, _, hg, _, _, _, ht⟩
  · exact absurd (List.eq_nil_of_length_eq_zero h0) hl
  · injection e with e1
    exact ⟨g, cur, e1, hg, by rw [Nat.mul_one] at ht; exact ht⟩
theorem isX {w : World} : ∀ (l : List Rw), (∀ x ∈ l, w.ownsRow 0 9 1 (.slice x.a x.cols.length x.cap) x.cols.length (strsOf x.cols)) → (∀ x ∈ l, x.cols ≠ []) → Xr.RowsIs w (l.map toRC) ((l.map Rw.text).map toX)
  | [], _, _ => trivial
  | x :: l, h, hn => ⟨⟨rfl, rfl, colAt_own (h x (List.mem_cons_self ..)) (hn x (List.mem_cons_self ..))⟩, isX l (fun y hy => h y (List.mem_cons_of_mem _ hy)) (fun y hy => hn y (List.mem_cons_of_mem _ hy))⟩
theorem rowsOf_ne (c : Ch) : ∀ p ∈ rowsOf c, p.2 ≠ [] := by
  intro p hp
  rcases List.mem_append.1 hp with hp | hp
  · simp only [headRows, List.mem_cons, List.not_mem_nil, or_false] at hp
    rcases hp with rfl | rfl | rfl | rfl <;> simp
  · obtain ⟨e, _, rfl⟩ := List.mem_map.1 hp
    simp [evText]
theorem toXr {w : World} {base : Nat} {v : Value} {l : List Rw} {c : Ch} (h : RowsAt w base v l) (ht : l.map Rw.text = rowsOf c) : w.ownsRow base 75 2 v (l.map toRC).length (Xr.rcCells (l.map toRC)) ∧ Xr.RowsIs w (l.map toRC) (rowsX c) := by
  refine ⟨by rw [rcCells_toRC, List.length_map]; exact h.1, ?_⟩
  unfold rowsX
  rw [← ht]
  refine isX l h.2 fun x hx => ?_
  exact rowsOf_ne c x.text (by rw [← ht]; exact List.mem_map.2 ⟨x, hx, rfl⟩)
theorem rows_x {w : World} {B g : Nat} {v : Value} {c : Ch} (h : ChAt w B g v c) (ok : ChOk c) (hc : c.cnt < 1152921504606846976) (hT : Tabs w B) (hB : B ≤ w.heap.size) :
    Calls Tryd.prog 10 #[.pointer (some ⟨g, 0, none⟩)] w (Xr.RowsPost w (rowsX c)) := by
  refine (rows_any h ok hc hT hB).mono ?_
  rintro e w' ⟨v', l, rfl, h1, h2, h3⟩
  have := toXr h1 h2
  exact ⟨v', _, rfl, this.1, this.2, h3⟩
theorem rowsX_len (c : Ch) : (rowsX c).length = 4 + c.ev.length := by simp [rowsX, rowsOf, headRows]; omega
theorem rowsX_cols (c : Ch) : ∀ x ∈ rowsX c, x.cols.length ≤ 1000 := by
  intro x hx
  obtain ⟨p, hp, rfl⟩ := List.mem_map.1 hx
  rcases List.mem_append.1 hp with hp | hp
  · simp only [headRows, List.mem_cons, List.not_mem_nil, or_false] at hp
    rcases hp with rfl | rfl | rfl | rfl <;> simp [toX]
  · obtain ⟨e, _, rfl⟩ := List.mem_map.1 hp
    simp [evText, toX]
theorem evKey_list (n : Nat) : (evKey n).toList = 110 :: numT n := by
  rw [evKey, Lib.toList_data]
  simp [txt]
theorem RowsAt.mono {w : World} {B B' : Nat} {v : Value} {l : List Rw} (h : RowsAt w B v l) (hB : B' ≤ B) : RowsAt w B' v l := ⟨own_monoW h.1 hB, h.2⟩
end Go.Proofs.YthfmpebgmojcaaaDoor
/- Texts sealed and opened by a fresh tree of keys, beside the audit's chain. -/
namespace Go.Proofs.YthfmpebgmojcaaaDoor.Ky
open Go.RowKit Go.Maps
set_option linter.unusedVariables false
set_option maxRecDepth 20000
theorem own_outJ {P : Nat → Prop} {w w' : World} {B n sz : Nat} {e : TypeId} {v : Value} {xs : List Value} (h : w.ownsRow B e sz v n xs) (ho : OutJ P w w') (hp : ∀ k cs, w.heap[k]? = some (.cells cs e (0, 0)) → ¬ P k) : w'.ownsRow B e sz v n xs := by
  refine ⟨h.1, ?_⟩
  rcases h.2 with h0 | ⟨g, cap, cur, e1, hb, hg, rest⟩
  · exact .inl h0
  · exact .inr ⟨g, cap, cur, e1, hb, (ho.block g (heap_lt hg) (hp g _ hg)).trans hg, rest⟩
theorem map_outJ {P : Nat → Prop} {w w' : World} {p : Program} {k : TypeId} {R : Value → Option (DataW Unit × List MemPlace)} {b n : Nat} {D : DataW Unit} (h : w.ownsMap p k R b n D) (ho : OutJ P w w') (hp : ¬ P b) : w'.ownsMap p k R b n D := by
  have hlt := h.lt
  obtain ⟨es, clock, hb, rest⟩ := h
  exact ⟨es, clock, (ho.block b hlt hp).trans hb, rest⟩
section
variable {w w' : World} {B g mv mg : Nat} {root : List UInt8} {s : TS} {d : Nat}
theorem TreeM.outJ {P : Nat → Prop} (h : TreeM w B g mv mg root s d) (ho : OutJ P w w') (h1 : ¬ P g) (h2 : ¬ P mv) (h3 : ¬ P mg) : TreeM w' B g mv mg root s d := by
  obtain ⟨ok, hne, nv, ng, V, G, t, rest⟩ := h
  exact ⟨ok, hne, nv, ng, V, G, ⟨(ho.block g t.lt h1).trans t.obj, map_outJ t.vm ho h2, map_outJ t.gm ho h3, t.len, t.bg, t.bv, t.bm⟩, rest⟩
theorem TreeM.blocks (h : TreeM w B g mv mg root s d) : (∃ cs, w.heap[g]? = some (.cells cs 128 (0, 0))) ∧ (∃ es c, w.heap[mv]? = some (.map es c)) ∧ (∃ es c, w.heap[mg]? = some (.map es c)) ∧ B ≤ g ∧ B ≤ mv ∧ B ≤ mg := by
  obtain ⟨ok, hne, nv, ng, V, G, t, rest⟩ := h
  obtain ⟨e1, c1, hb1, _⟩ := t.vm
  obtain ⟨e2, c2, hb2, _⟩ := t.gm
  exact ⟨⟨_, t.obj⟩, ⟨_, _, hb1⟩, ⟨_, _, hb2⟩, t.bg, t.bv, t.bm⟩
theorem TreeM.below_of (h : TreeM w B g mv mg root s d) (ho : OutJ (Mine g mv mg) w w') (hB : B ≤ w.heap.size) : Below B w w' := by
  obtain ⟨_, _, _, h1, h2, h3⟩ := h.blocks
  exact ho.below hB (fun k hk => by rcases hk with rfl | rfl | rfl <;> assumption)
theorem mine_typed (h : TreeM w B g mv mg root s d) {k : Nat} {cs : Array Value} {e : TypeId} (hk : w.heap[k]? = some (.cells cs e (0, 0))) (he : e ≠ 128) : ¬ Mine g mv mg k := by
  obtain ⟨⟨c0, h0⟩, ⟨e1, c1, h1⟩, ⟨e2, c2, h2⟩, _⟩ := h.blocks
  rintro (rfl | rfl | rfl)
  · rw [h0] at hk; cases hk; exact he rfl
  · rw [h1] at hk; cases hk
  · rw [h2] at hk; cases hk
end
theorem openS_seal (key : List UInt8) (once : Nat) (ho : once < 2 ^ 64) (plain : List UInt8) (hl : plain.length ≤ 1024) : openS key (sealB key once plain) = (plain, 0) := by
  have h1 := sealB_len key once plain
  unfold openS
  rw [if_neg (by omega), if_neg (by omega), if_pos (by rw [seal_take, seal_drop])]
  rw [seal_take, seal_eight, numB_be8 once ho, head_drop, cross_back]
theorem openR_seal {s : TS} (ok : s.Ok) {root : List UInt8} {t u : ByteArray} (h : (s.cur t u).2 = 0) (v : Nat) (h1 : 1 ≤ v) (h2 : v ≤ (s.cur t u).1) (once : Nat) (ho : once < 2 ^ 64) (plain : List UInt8) (hl : plain.length ≤ 1024) : s.openR root t u (UInt8.ofNat v :: sealB (derRes root [t, u, txtJ v]) once plain) = (plain, (v, 0)) := by
  obtain ⟨_, _, _, hc⟩ := cur_ok h
  obtain ⟨v1, v2⟩ := verOf_ok ok t u
  have hv : (UInt8.ofNat v).toNat = v := by simp; omega
  show s.openB root t u _ _ = _
  unfold TS.openB
  have hk : s.keyR root t u (((UInt8.ofNat v).toNat : Nat) : Int) = (derRes root [t, u, txtJ v], 0) := by
    unfold TS.keyR
    rw [hv, if_neg (by omega), if_neg (by omega)]
    rfl
  rw [if_neg (by omega), hk, if_neg (by simp), openS_seal _ once ho plain hl, hv]
  rfl
def tsn (n : Nat) : TS := ⟨[], [], n⟩
def nT : ByteArray := ⟨#[116]⟩
def nAu : ByteArray := ⟨#[97, 117, 100, 105, 116]⟩
theorem szT : nT.size ≤ maxLen := by unfold maxLen nT; decide
theorem szAu : nAu.size ≤ maxLen := by unfold maxLen nAu; decide
theorem okT : okN nT = true := by decide +kernel
theorem okAu : okN nAu = true := by decide +kernel
theorem tsn_ok (n : Nat) : (tsn n).Ok := ⟨(fun p hp => nomatch hp), List.nodup_nil, (fun p hp => nomatch hp), List.nodup_nil, by simp [tsn], by simp [tsn]⟩
theorem tsn_cur (n : Nat) : (tsn n).cur nT nAu = (1, 0) := by
  unfold TS.cur
  rw [if_pos (by rw [okT, okAu]; rfl), if_neg (by simp [tsn, isIn])]
  rfl
set_option maxHeartbeats 1000000 in
theorem seal_open {w : World} {B g mv mg : Nat} {root : List UInt8} {n d : Nat} (h : TreeM w B g mv mg root (tsn n) d) (hn : n < 1099511627776) (plain : List UInt8) (a : Option Addr) (N cap : Nat) (hN : N = plain.length) (hl : plain.length ≤ 1024) (hP : Bytes w a plain) (hT : Tabs w B) (hB : B ≤ w.heap.size) :
    Calls Tryd.prog 28 #[.pointer (some ⟨g, 0, none⟩), .string nT, .string nAu, .slice a N cap] w fun e w' => ∃ gb m c, e = .returned (.tuple #[.slice (some ⟨gb, 0, none⟩) m c, .int .i64 0]) ∧ TreeM w' B g mv mg root (tsn (n + 1)) d ∧ OutJ (Mine g mv mg) w w' ∧
      Calls Tryd.prog 29 #[.pointer (some ⟨g, 0, none⟩), .string nT, .string nAu, .slice (some ⟨gb, 0, none⟩) m c] w' fun e2 w2 => ∃ ap cp, e2 = .returned (.tuple #[.slice ap N cp, .int .i64 1, .int .i64 0]) ∧ w2.ownsRow w'.heap.size 5 1 (.slice ap N cp) plain.length (cellsOf plain) ∧ Below w'.heap.size w' w2 := by
  refine (seal_m h (by show n ≤ 1099511627776; omega) nT nAu szT szAu plain a N cap hN hP hT.tab hT.kat).mono fun e w' ⟨v, h1, h2, h3, h4⟩ => ?_
  have h0 : ((tsn n).cur nT nAu).2 = 0 := by rw [tsn_cur]
  have hs : (tsn n).sealR root nT nAu plain = (tsn (n + 1), (UInt8.ofNat 1 :: sealB (derRes root [nT, nAu, txtJ 1]) n plain, 0)) := by
    unfold TS.sealR
    rw [if_neg (by rw [h0]; simp), if_neg (by omega), if_neg (by show ¬ n = 1099511627776; omega), tsn_cur]
    rfl
  rw [hs] at h1 h2 h3
  simp only at h1 h2 h3
  obtain ⟨C, hC⟩ : ∃ C, C = UInt8.ofNat 1 :: sealB (derRes root [nT, nAu, txtJ 1]) n plain := ⟨_, rfl⟩
  rw [← hC] at h2
  have hlen : C.length = plain.length + 25 := by rw [hC, List.length_cons, sealB_len]
  obtain ⟨ab, c, rfl, hBy, hc, _⟩ := bytes_of_own0 h2
  obtain ⟨gb, ob, rfl, _⟩ := hBy 0 (by omega)
  have hob : ob = 0 := by
    rcases h2.2 with ⟨e0, _⟩ | ⟨g9, cap9, cur, e9, _⟩
    · cases e0
    · injection e9 with e9; injection e9 with e9; injection e9
  subst hob
  have hBe : Below B w w' := h.below_of h4 hB
  have hT' := hT.keep hBe
  refine ⟨gb, C.length, c, h1, h3, h4, ?_⟩
  refine (open_l h3 nT nAu szT szAu C (some ⟨gb, 0, none⟩) C.length c rfl (by omega) hc (fun _ => ⟨gb, rfl⟩) hBy hT'.tab hT'.kat).mono fun e2 w2 ⟨v2, k1, k2, k3⟩ => ?_
  have ho : (tsn (n + 1)).openR root nT nAu C = (plain, (1, 0)) := by
    rw [hC]
    exact openR_seal (tsn_ok (n + 1)) (by rw [tsn_cur]) 1 (by omega) (by rw [tsn_cur]; simp) n (by omega) plain hl
  rw [ho] at k1 k2
  simp only at k1 k2
  obtain ⟨ap, cp, rfl, _⟩ := bytes_of_own0 k2
  rw [← hN] at k1 k2
  exact ⟨ap, cp, k1, hN ▸ k2, k3⟩
theorem new_t (w : World) (root : List UInt8) (hl : root.length = 32) : Calls Tryd.prog 25 #[.agg (bvs root)] w fun e w' => ∃ g mv mg, e = .returned (.pointer (some ⟨g, 0, none⟩)) ∧ TreeM w' w.heap.size g mv mg root (tsn 0) 0 ∧ Below w.heap.size w w' := by
  refine (new_any w root hl).mono fun e w' ⟨g, mv, mg, h1, h2, h3, h4⟩ => ?_
  exact ⟨g, mv, mg, h1, treeM_new h2 h4 (Nat.le_refl _), h3⟩
theorem TreeM.mono {w : World} {B B' g mv mg : Nat} {root : List UInt8} {s : TS} {d : Nat} (h : TreeM w B' g mv mg root s d) (hB : B ≤ B') : TreeM w B g mv mg root s d := by
  obtain ⟨ok, hne, nv, ng, V, G, t, rest⟩ := h
  exact ⟨ok, hne, nv, ng, V, G, ⟨t.obj, t.vm, t.gm, t.len, Nat.le_trans hB t.bg, Nat.le_trans hB t.bv, Nat.le_trans hB t.bm⟩, rest⟩
theorem TreeM.lts {w : World} {B g mv mg : Nat} {root : List UInt8} {s : TS} {d : Nat} (h : TreeM w B g mv mg root s d) : g < w.heap.size ∧ mv < w.heap.size ∧ mg < w.heap.size := by
  obtain ⟨⟨c0, h0⟩, ⟨e1, c1, h1⟩, ⟨e2, c2, h2⟩, _⟩ := h.blocks
  exact ⟨heap_lt h0, heap_lt h1, heap_lt h2⟩
theorem TreeM.keepB {w w' : World} {B B' g mv mg : Nat} {root : List UInt8} {s : TS} {d : Nat} (h : TreeM w B g mv mg root s d) (hb : Below B' w w') (h1 : g < B') (h2 : mv < B') (h3 : mg < B') : TreeM w' B g mv mg root s d :=
  h.outJ (P := fun k => B' ≤ k) ⟨hb.os, hb.tape, hb.output, hb.size, fun k _ hk => hb.block k (by omega)⟩ (by omega) (by omega) (by omega)
end Go.Proofs.YthfmpebgmojcaaaDoor.Ky
