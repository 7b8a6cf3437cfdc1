/- YthnciogaibhmcaaDoorARw1 + YthnciogaibhmcaaDoorARw2 + YthnciogaibhmcaaDoorARw3 + YthnciogaibhmcaaDoorARw7 + YthnciogaibhmcaaDoorARows -/
import Derived.Test.YthnciogaibhmcaaDoorALive
import Derived.Maps.AppendAt
import Derived.Deep.AppendLies
/- Rows of a chain, their parts: state.Texts, audit.hashRow and eventKey, by contracts. -/
namespace Go.Proofs.YthnciogaibhmcaaDoor
open Go.RowKit
set_option linter.unusedVariables false
set_option maxRecDepth 20000
/-- texts as cells -/
def strsOf (l : List ByteArray) : List Value := l.map Value.string
theorem strsOf_length (l : List ByteArray) : (strsOf l).length = l.length := by simp [strsOf]

theorem own_onW {w w' : World} {B e s n : Nat} {v : Value} {xs : List Value} (h : w.ownsRow B e s v n xs) (hb : Below w.heap.size w w') : w'.ownsRow B e s v n xs := by
  refine ⟨h.1, ?_⟩
  rcases h.2 with h0 | ⟨g, cap, cur, hv, hg, hgb, r⟩
  · exact .inl h0
  · exact .inr ⟨g, cap, cur, hv, hg, (hb.block _ (heap_lt hgb)).trans hgb, r⟩
theorem txt_size (n : Nat) (h : n ≤ 4611686018427387904) : (txt n).size ≤ 100 := by
  show (numT n).toArray.size ≤ 100
  unfold numT
  split
  · decide
  · rw [List.size_toArray, List.length_cons, lo_length]
    have := (Nat.log2_lt (by omega)).2 (show n < 2 ^ 63 by omega)
    omega
def evKey (n : Nat) : ByteArray := ⟨#[110]⟩ ++ txt n
set_option maxHeartbeats 400000 in
theorem eventKey_any (n : Nat) (h : n ≤ 4611686018427387904) (w : World) (ht : TabAt w) : Calls Tryd.prog 45 #[.int .i64 (n : Int)] w fun e w' => e = .returned (.string (evKey n)) ∧ Below w.heap.size w w' := by
  have HC := hid (text_any n h w ht)
  have hs := txt_size n h
  unfold evKey
  generalize txt n = t at *
  go_enter Tryd.func45, Tryd.ntmps45
  go_wp2_with (go_at_call 46; refine HC.out.mono ?_; rintro e w1 ⟨rfl, hb⟩)
  go_ret
  exact ⟨rfl, hb⟩

end Go.Proofs.YthnciogaibhmcaaDoor

/- audit.hashRow, by a contract. -/
namespace Go.Proofs.YthnciogaibhmcaaDoor
open Go.RowKit
set_option linter.unusedVariables false
set_option maxRecDepth 20000

def mkB (l : List UInt8) : ByteArray := ⟨l.toArray⟩
theorem size_row : (Tryd.prog.info? 45).map (·.size) = some 2 := by kernel_rfl
end Go.Proofs.YthnciogaibhmcaaDoor

/- (*Chain).Rows: the region that makes the four first rows, over a frame that is a letter. -/
namespace Go.Proofs.YthnciogaibhmcaaDoor
open Go.RowKit
set_option linter.unusedVariables false
set_option maxRecDepth 20000
theorem y_buildR {ops : Array Oper} {S : World → Prop} {op : Oper} {a : Act} (hw : Region.wanted op (yielded ops a.tmps) = true) (x y : Operand) (ho : op.op = .build 45 #[(0, x), (1, y)]) (k : ByteArray) (ad : Option Addr) (n cp : Nat) (hx : a.eval x = .string k) (hy : a.eval y = .slice ad n cp) : YieldsIf Tryd.prog ops S op (.agg #[.string k, .slice ad n cp]) a := by
  refine .inl ⟨hw, fun w _ => ?_⟩
  unfold execOp
  simp only [ho, List.map_toArray, List.map_cons, List.map_nil, hx, hy]
  simp [go_sem]
theorem wp_build4R {o : Oper} {a : Act} {w : World} {K : Act → World → Prop} {Q : Exit → Act → World → Prop} (x y z u : Operand) (ho : o.op = .buildSlice 33 4 #[(0, x), (1, y), (2, z), (3, u)]) (k0 k1 k2 k3 : ByteArray) (a0 a1 a2 a3 : Option Addr) (n0 n1 n2 n3 c0 c1 c2 c3 : Nat)
    (h0 : a.eval x = .agg #[.string k0, .slice a0 n0 c0]) (h1 : a.eval y = .agg #[.string k1, .slice a1 n1 c1]) (h2 : a.eval z = .agg #[.string k2, .slice a2 n2 c2]) (h3 : a.eval u = .agg #[.string k3, .slice a3 n3 c3])
    (h : K (a.put o.dst (.slice (some ⟨w.heap.size, 0, none⟩) 4 4)) (w.alloc (.cells #[.string k0, .slice a0 n0 c0, .string k1, .slice a1 n1 c1, .string k2, .slice a2 n2 c2, .string k3, .slice a3 n3 c3] 45))) : o.wp Tryd.prog a w K Q := by
  unfold Oper.wp execOp
  simp only [ho, List.map_toArray, List.map_cons, List.map_nil, h0, h1, h2, h3]
  simp [go_sem]
  exact h
theorem own_monoW {w : World} {B B' e s n : Nat} {v : Value} {xs : List Value} (h : w.ownsRow B e s v n xs) (hB : B' ≤ B) : w.ownsRow B' e s v n xs := by
  refine ⟨h.1, ?_⟩
  rcases h.2 with h0 | ⟨k, cap, cur, rfl, hb, r⟩
  · exact .inl h0
  · exact .inr ⟨k, cap, cur, rfl, Nat.le_trans hB hb, r⟩
def RwS (B g : Nat) (v : Value) (c : Ch) (V : World) : Prop := ChAt V B g v c ∧ Tabs V B ∧ B ≤ V.heap.size
theorem RwS.on {B g : Nat} {v : Value} {c : Ch} {V V' : World} (hs : RwS B g v c V) (hb : Below V.heap.size V V') : RwS B g v c V' := ⟨hs.1.below hb, hs.2.1.below hs.2.2 hb, Nat.le_trans hs.2.2 hb.size⟩
end Go.Proofs.YthnciogaibhmcaaDoor

/- (*Chain).Rows: the region that appends the row of an event, over a frame that is a letter. -/
namespace Go.Proofs.YthnciogaibhmcaaDoor
open Go.RowKit
set_option linter.unusedVariables false
set_option maxRecDepth 20000
/-- a row: its key, and where its columns lie -/
structure Rw where
  key : ByteArray
  a : Option Addr
  cols : List ByteArray
  cap : Nat
def Rw.vals (x : Rw) : List Value := [.string x.key, .slice x.a x.cols.length x.cap]
/-- the row of an event, its columns at the beginning of a block -/
def evRow (e : Ev) (b : Nat) : Rw := ⟨evKey e.num, some ⟨b, 0, none⟩, [txt e.tim, e.what, e.who], 3⟩
def rvCells (l : List Rw) : List Value := l.flatMap Rw.vals
theorem rvCells_append (a b : List Rw) : rvCells (a ++ b) = rvCells a ++ rvCells b := by simp [rvCells]
theorem rvCells_one (x : Rw) : rvCells [x] = x.vals := by simp [rvCells]
theorem rvCells_oneCell (l : List Rw) : ∀ u ∈ rvCells l, u.oneCell' = true := by
  intro u hu
  simp only [rvCells, List.mem_flatMap, Rw.vals, List.mem_cons, List.not_mem_nil, or_false] at hu
  obtain ⟨x, _, rfl | rfl⟩ := hu <;> rfl
/-- rows in memory: a row of one's own, and the columns' texts -/
def RowsAt (w : World) (base : Nat) (v : Value) (l : List Rw) : Prop := w.ownsRow base 45 2 v l.length (rvCells l) ∧ ∀ x ∈ l, w.ownsRow 0 9 1 (.slice x.a x.cols.length x.cap) x.cols.length (strsOf x.cols)
theorem Tryd.infoR : (Tryd.prog.info? 45).map (fun i => (i.zero, i.size, i.bytes)) = some (some (.agg #[.string ⟨#[]⟩, .slice none 0 0]), 2, 40) := by kernel_rfl
theorem range_newR (w : World) (x : Rw) : (w.alloc (.cells x.vals.toArray 45)).rangeAt w.heap.size 0 x.vals := range_mid (A := []) (C := []) (heap_alloc_new w _) 0 rfl
theorem hf_eventKey : ∀ (args : Array Value) (w : World), (callFunc 45 args).run Tryd.prog w = .ok (.enter 45 args) w := fun args w => by simp [go_sem]
theorem wp_build3S {o : Oper} {a : Act} {w : World} {K : Act → World → Prop} {Q : Exit → Act → World → Prop} (x y z : Operand) (ho : o.op = .buildSlice 43 3 #[(0, x), (1, y), (2, z)]) (p q s : ByteArray) (h0 : a.eval x = .string p) (h1 : a.eval y = .string q) (h2 : a.eval z = .string s)
    (h : K (a.put o.dst (.slice (some ⟨w.heap.size, 0, none⟩) 3 3)) (w.alloc (.cells #[.string p, .string q, .string s] 9))) : o.wp Tryd.prog a w K Q := by
  unfold Oper.wp execOp
  simp only [ho, List.map_toArray, List.map_cons, List.map_nil, h0, h1, h2]
  simp [go_sem]
  exact h
theorem wp_build1R {o : Oper} {a : Act} {w : World} {K : Act → World → Prop} {Q : Exit → Act → World → Prop} (x : Operand) (ho : o.op = .buildSlice 33 1 #[(0, x)]) (k0 : ByteArray) (a0 : Option Addr) (n0 c0 : Nat) (h0 : a.eval x = .agg #[.string k0, .slice a0 n0 c0])
    (h : K (a.put o.dst (.slice (some ⟨w.heap.size, 0, none⟩) 1 1)) (w.alloc (.cells #[.string k0, .slice a0 n0 c0] 45))) : o.wp Tryd.prog a w K Q := by
  unfold Oper.wp execOp
  simp only [ho, List.map_toArray, List.map_cons, List.map_nil, h0]
  simp [go_sem]
  exact h
theorem wp_appR (w : World) {o : Oper} {a : Act} {K : Act → World → Prop} {Q : Exit → Act → World → Prop} (s x : Operand) (ho : o.op = .call { callee := .builtin .append, args := #[s, x], argTypes := #[33, 33] })
    (B : Nat) (v : Value) (l : List Rw) (hs : a.eval s = v) (hown : w.ownsRow B 45 2 v l.length (rvCells l)) (e : Rw) (b : Nat) (hx : a.eval x = .slice (some ⟨b, 0, none⟩) 1 1) (hr : w.rangeAt b 0 e.vals) (hl : l.length ≤ 1000) (hB : B ≤ w.heap.size)
    (h : ∀ k cap w', w'.ownsRow B 45 2 (.slice (some ⟨k, 0, none⟩) (l ++ [e]).length cap) (l ++ [e]).length (rvCells (l ++ [e])) → w.grownBy w' v.ownBlock → (v.ownBlock = some k ∨ k = w.heap.size) → K (a.put o.dst (.slice (some ⟨k, 0, none⟩) (l ++ [e]).length cap)) w') : o.wp Tryd.prog a w K Q := by
  obtain ⟨i0, hi, hz0, hz1, hz2⟩ := info_parts Tryd.infoR
  refine wp_append_lies w s x 33 ho B 45 i0 (.agg #[.string ⟨#[]⟩, .slice none 0 0]) 2 40 Tryd.underlying33 hi hz0 hz1 hz2 rfl (by decide) v l.length (rvCells l) hs hown ⟨b, 0, none⟩ 1 1 e.vals hx rfl (fun j u hj => by rw [addr_add]; exact hr j u hj) (by rw [← rvCells_one]; exact rvCells_oneCell _) (by decide) (by unfold maxLen; omega) (by omega) hB w.heap.size rfl ?_
  intro k cap w' h1 h2 h3 _
  rw [show rvCells l ++ e.vals = rvCells (l ++ [e]) by rw [rvCells_append, rvCells_one], show l.length + 1 = (l ++ [e]).length by simp] at h1
  have := h k cap w' h1 h2 h3
  rw [show (l ++ [e]).length = l.length + 1 by simp] at this
  exact this
theorem texts3_new (w : World) (p q s : ByteArray) : (w.alloc (.cells #[.string p, .string q, .string s] 9)).ownsRow 0 9 1 (.slice (some ⟨w.heap.size, 0, none⟩) 3 3) 3 (strsOf [p, q, s]) :=
  ⟨rfl, .inr ⟨w.heap.size, 3, _, rfl, Nat.zero_le _, heap_alloc_new w _, Nat.le_refl _, by decide, rfl, rfl⟩⟩
/-- rows behind an append -/
theorem rows_grown {w w3 w4 w5 : World} {base : Nat} {v u : Value} {l : List Rw} {x : Rw} (h : RowsAt w base v l) (hb : Below w.heap.size w w4) (hg : w4.grownBy w5 v.ownBlock) (hown : w5.ownsRow base 45 2 u (l ++ [x]).length (rvCells (l ++ [x]))) (hx : w3.ownsRow 0 9 1 (.slice x.a x.cols.length x.cap) x.cols.length (strsOf x.cols)) (hb4 : Below w3.heap.size w3 w4) : RowsAt w5 base u (l ++ [x]) := by
  have key : ∀ y : Rw, w4.ownsRow 0 9 1 (.slice y.a y.cols.length y.cap) y.cols.length (strsOf y.cols) → w5.ownsRow 0 9 1 (.slice y.a y.cols.length y.cap) y.cols.length (strsOf y.cols) := fun y hy => by
    refine ⟨hy.1, ?_⟩
    rcases hy.2 with h0 | ⟨k, cap, cur, hv, hk, hj, r⟩
    · exact .inl h0
    · refine .inr ⟨k, cap, cur, hv, hk, (hg.block k (heap_lt hj) (fun e => ?_)).trans hj, r⟩
      rcases (own_onW h.1 hb).2 with ⟨h0, _⟩ | ⟨k2, cap2, cur2, hv2, hk2, hj2, _⟩
      · rw [h0] at e; cases e
      · rw [hv2] at e
        cases e
        rw [hj] at hj2
        injection hj2 with h3
        injection h3 with _ h3
        exact absurd h3 (by decide)
  refine ⟨hown, fun y hy => ?_⟩
  rcases List.mem_append.1 hy with hy | hy
  · exact key y (own_onW (h.2 y hy) hb)
  · rw [List.mem_singleton.1 hy]
    exact key x (own_onW hx hb4)

end Go.Proofs.YthnciogaibhmcaaDoor

/- (*Chain).Rows, by a contract. -/
namespace Go.Proofs.YthnciogaibhmcaaDoor
open Go.RowKit
set_option linter.unusedVariables false
set_option maxRecDepth 20000

/-- the rows of a chain, as texts -/
def headRows (c : Ch) : List (ByteArray × List ByteArray) := [(⟨#[35]⟩, [c.bn, c.an, c.la].map txt), (⟨#[97]⟩, [mkB c.ah]), (⟨#[98]⟩, [mkB c.bh]), (⟨#[104]⟩, [mkB c.hd])]
def evText (e : Ev) : ByteArray × List ByteArray := (evKey e.num, [txt e.tim, e.what, e.who])
def rowsOf (c : Ch) : List (ByteArray × List ByteArray) := headRows c ++ c.ev.map evText
def Rw.text (x : Rw) : ByteArray × List ByteArray := (x.key, x.cols)
theorem own_val9 {w : World} {B e s n : Nat} {v : Value} {xs : List Value} (h : w.ownsRow B e s v n xs) : ∃ a cap, v = .slice a n cap := by
  rcases h.2 with ⟨rfl, h0⟩ | ⟨k, cap, cur, rfl, _⟩
  · exact ⟨none, 0, by rw [h0]⟩
  · exact ⟨_, cap, rfl⟩
/-- what Rows answers -/
def RowsPost (w : World) (c : Ch) (e : Ending) (w' : World) : Prop := ∃ v l, e = .returned v ∧ RowsAt w' w.heap.size v l ∧ l.map Rw.text = rowsOf c ∧ Below w.heap.size w w'
theorem RowsAt.on {w w' : World} {base : Nat} {v : Value} {l : List Rw} (h : RowsAt w base v l) (hb : Below w.heap.size w w') : RowsAt w' base v l := ⟨own_onW h.1 hb, fun x hx => own_onW (h.2 x hx) hb⟩

end Go.Proofs.YthnciogaibhmcaaDoor
