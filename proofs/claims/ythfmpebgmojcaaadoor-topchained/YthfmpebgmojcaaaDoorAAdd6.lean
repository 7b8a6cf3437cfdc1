/- YthfmpebgmojcaaaDoorAY + YthfmpebgmojcaaaDoorABytes + YthfmpebgmojcaaaDoorAAdd5 + YthfmpebgmojcaaaDoorAAdd6 -/
import Derived.Test.YthfmpebgmojcaaaDoorTkH
import Derived.Test.YthfmpebgmojcaaaDoorAToNum
import Derived.Test.YthfmpebgmojcaaaDoorETag
import Derived.Test.YthfmpebgmojcaaaDoorJ4
import Derived.Deep.AppendLies
import Derived.Maps.AppendAt
/- Operations of regions that draw their order, each by what it yields. -/
namespace Go.Proofs.YthfmpebgmojcaaaDoor
open Go.RowKit
set_option linter.unusedVariables false
set_option maxRecDepth 20000
section
variable {ops : Array Oper} {S : World → Prop} {op : Oper} {a : Act}
theorem y_nil (hw : Region.wanted op (yielded ops a.tmps) = true) (x : Operand) (ho : op.op = .nilCheck x) (p : Addr) (hx : a.eval x = .pointer (some p)) : YieldsIf Tryd.prog ops S op (.pointer (some p)) a := by
  refine .inl ⟨hw, fun w _ => ?_⟩
  unfold execOp
  simp only [ho, hx]
  simp [go_sem]
theorem y_assign (hw : Region.wanted op (yielded ops a.tmps) = true) (x : Operand) (ho : op.op = .assign x) (v : Value) (hx : a.eval x = v) : YieldsIf Tryd.prog ops S op v a := by
  refine .inl ⟨hw, fun w _ => ?_⟩
  unfold execOp
  simp only [ho, hx]
  simp [go_sem]
theorem y_ext0 (hw : Region.wanted op (yielded ops a.tmps) = true) (x : Operand) (ho : op.op = .extract x 0) (u v : Value) (hx : a.eval x = .tuple #[u, v]) : YieldsIf Tryd.prog ops S op u a := by
  refine .inl ⟨hw, fun w _ => ?_⟩
  unfold execOp
  simp only [ho, hx]
  simp [go_sem]
theorem y_ext1 (hw : Region.wanted op (yielded ops a.tmps) = true) (x : Operand) (ho : op.op = .extract x 1) (u v : Value) (hx : a.eval x = .tuple #[u, v]) : YieldsIf Tryd.prog ops S op v a := by
  refine .inl ⟨hw, fun w _ => ?_⟩
  unfold execOp
  simp only [ho, hx]
  simp [go_sem]
-- fields of a chain at the beginning of its block
theorem y_chain0 (hw : Region.wanted op (yielded ops a.tmps) = true) (x : Operand) (ho : op.op = .fieldAddr 87 x 0) (g : Nat) (hx : a.eval x = .pointer (some ⟨g, 0, none⟩)) : YieldsIf Tryd.prog ops S op (.pointer (some ⟨g, 0, none⟩)) a := by
  refine .inl ⟨hw, fun w _ => ?_⟩
  unfold execOp
  simp only [ho, hx]
  simp [go_sem]
theorem y_chain1 (hw : Region.wanted op (yielded ops a.tmps) = true) (x : Operand) (ho : op.op = .fieldAddr 87 x 1) (g : Nat) (hx : a.eval x = .pointer (some ⟨g, 0, none⟩)) : YieldsIf Tryd.prog ops S op (.pointer (some ⟨g, 33, none⟩)) a := by
  refine .inl ⟨hw, fun w _ => ?_⟩
  unfold execOp
  simp only [ho, hx]
  simp [go_sem]
theorem y_chain2 (hw : Region.wanted op (yielded ops a.tmps) = true) (x : Operand) (ho : op.op = .fieldAddr 87 x 2) (g : Nat) (hx : a.eval x = .pointer (some ⟨g, 0, none⟩)) : YieldsIf Tryd.prog ops S op (.pointer (some ⟨g, 66, none⟩)) a := by
  refine .inl ⟨hw, fun w _ => ?_⟩
  unfold execOp
  simp only [ho, hx]
  simp [go_sem]
theorem y_chain3 (hw : Region.wanted op (yielded ops a.tmps) = true) (x : Operand) (ho : op.op = .fieldAddr 87 x 3) (g : Nat) (hx : a.eval x = .pointer (some ⟨g, 0, none⟩)) : YieldsIf Tryd.prog ops S op (.pointer (some ⟨g, 67, none⟩)) a := by
  refine .inl ⟨hw, fun w _ => ?_⟩
  unfold execOp
  simp only [ho, hx]
  simp [go_sem]
theorem y_link0 (hw : Region.wanted op (yielded ops a.tmps) = true) (x : Operand) (ho : op.op = .fieldAddr 85 x 0) (g o : Nat) (hx : a.eval x = .pointer (some ⟨g, o, none⟩)) : YieldsIf Tryd.prog ops S op (.pointer (some ⟨g, o, none⟩)) a := by
  refine .inl ⟨hw, fun w _ => ?_⟩
  unfold execOp
  simp only [ho, hx]
  simp [go_sem]
theorem y_link1 (hw : Region.wanted op (yielded ops a.tmps) = true) (x : Operand) (ho : op.op = .fieldAddr 85 x 1) (g o : Nat) (hx : a.eval x = .pointer (some ⟨g, o, none⟩)) : YieldsIf Tryd.prog ops S op (.pointer (some ⟨g, o + 1, none⟩)) a := by
  refine .inl ⟨hw, fun w _ => ?_⟩
  unfold execOp
  simp only [ho, hx]
  simp [go_sem]
theorem y_ev (k : Nat) (hk : k < 4) (hw : Region.wanted op (yielded ops a.tmps) = true) (x : Operand) (ho : op.op = .fieldAddr 55 x k) (g : Nat) (hx : a.eval x = .pointer (some ⟨g, 0, none⟩)) : YieldsIf Tryd.prog ops S op (.pointer (some ⟨g, k, none⟩)) a := by
  refine .inl ⟨hw, fun w _ => ?_⟩
  unfold execOp
  simp only [ho, hx]
  match k, hk with
  | 0, _ => simp [go_sem]
  | 1, _ => simp [go_sem]
  | 2, _ => simp [go_sem]
  | 3, _ => simp [go_sem]
-- loads of one cell
theorem y_loadI (hw : Region.wanted op (yielded ops a.tmps) = true) (x : Operand) (ho : op.op = .load 3 x) (g k : Nat) (n : Int) (hx : a.eval x = .pointer (some ⟨g, k, none⟩)) (hS : ∀ w, S w → w.cell? ⟨g, k, none⟩ = some (.int .i64 n)) : YieldsIf Tryd.prog ops S op (.int .i64 n) a := by
  refine .inl ⟨hw, fun w hw' => ?_⟩
  have h1 := hS w hw'
  unfold execOp
  simp only [ho, hx]
  simp [go_sem, h1]
theorem y_loadS (hw : Region.wanted op (yielded ops a.tmps) = true) (x : Operand) (ho : op.op = .load 9 x) (g k : Nat) (n : ByteArray) (hx : a.eval x = .pointer (some ⟨g, k, none⟩)) (hS : ∀ w, S w → w.cell? ⟨g, k, none⟩ = some (.string n)) : YieldsIf Tryd.prog ops S op (.string n) a := by
  refine .inl ⟨hw, fun w hw' => ?_⟩
  have h1 := hS w hw'
  unfold execOp
  simp only [ho, hx]
  simp [go_sem, h1]
theorem y_loadV (hw : Region.wanted op (yielded ops a.tmps) = true) (x : Operand) (ho : op.op = .load 63 x) (g k : Nat) (ad : Option Addr) (n c : Nat) (hx : a.eval x = .pointer (some ⟨g, k, none⟩)) (hS : ∀ w, S w → w.cell? ⟨g, k, none⟩ = some (.slice ad n c)) : YieldsIf Tryd.prog ops S op (.slice ad n c) a := by
  refine .inl ⟨hw, fun w hw' => ?_⟩
  have h1 := hS w hw'
  unfold execOp
  simp only [ho, hx]
  simp [go_sem, h1]
theorem y_loadP (hw : Region.wanted op (yielded ops a.tmps) = true) (x : Operand) (ho : op.op = .load 24 x) (g k : Nat) (p : Option Addr) (hx : a.eval x = .pointer (some ⟨g, k, none⟩)) (hS : ∀ w, S w → w.cell? ⟨g, k, none⟩ = some (.pointer p)) : YieldsIf Tryd.prog ops S op (.pointer p) a := by
  refine .inl ⟨hw, fun w hw' => ?_⟩
  have h1 := hS w hw'
  unfold execOp
  simp only [ho, hx]
  simp [go_sem, h1]
-- loads of rows
theorem y_loadH (hw : Region.wanted op (yielded ops a.tmps) = true) (x : Operand) (ho : op.op = .load 69 x) (g o : Nat) (l : List UInt8) (hl : l.length = 32) (hx : a.eval x = .pointer (some ⟨g, o, none⟩)) (hS : ∀ w, S w → w.rangeAt g o (cellsOf l)) : YieldsIf Tryd.prog ops S op (.agg (bvs l)) a :=
  yieldsIf_load_mid hw 69 x ho g o hx (cellsOf l) _ hS Tryd.underlying69 rfl (by rw [cellsOf_length, hl]; exact size_hash)
theorem size_link : (Tryd.prog.info? 85).map (·.size) = some 33 := by kernel_rfl
theorem size_ev : (Tryd.prog.info? 55).map (·.size) = some 4 := by kernel_rfl
theorem y_loadE (hw : Region.wanted op (yielded ops a.tmps) = true) (x : Operand) (ho : op.op = .load 55 x) (g o : Nat) (e : Ev) (hx : a.eval x = .pointer (some ⟨g, o, none⟩)) (hS : ∀ w, S w → w.rangeAt g o (eVals e)) : YieldsIf Tryd.prog ops S op (.agg (eVals e).toArray) a :=
  yieldsIf_load_mid hw 55 x ho g o hx (eVals e) _ hS Tryd.underlying55 rfl size_ev
theorem y_neqH (hw : Region.wanted op (yielded ops a.tmps) = true) (x y : Operand) (ho : op.op = .binOp .neq 69 x y 69) (l m : List UInt8) (hl : l.length = 32) (hm : m.length = 32) (hx : a.eval x = .agg (bvs l)) (hy : a.eval y = .agg (bvs m)) : YieldsIf Tryd.prog ops S op (.bool (!(l == m))) a := by
  refine .inl ⟨hw, fun w _ => ?_⟩
  have h := hash_eq (A := bvs l) (B := bvs m) ⟨rfl, hl⟩ ⟨rfl, hm⟩ w
  unfold execOp
  simp only [ho, hx, hy]
  simp [go_sem, h]
theorem y_eqlI (hw : Region.wanted op (yielded ops a.tmps) = true) (x y : Operand) (ho : op.op = .binOp .eql 3 x y 3) (p q : Int) (hx : a.eval x = .int .i64 p) (hy : a.eval y = .int .i64 q) : YieldsIf Tryd.prog ops S op (.bool (p == q)) a := by
  refine .inl ⟨hw, fun w _ => ?_⟩
  unfold execOp
  simp only [ho, hx, hy]
  simp [go_sem]
theorem y_pick (hw : Region.wanted op (yielded ops a.tmps) = true) (x y z : Operand) (ho : op.op = .pick x y z) (b : Bool) (u v : Value) (hx : a.eval x = .bool b) (hy : a.eval y = u) (hz : a.eval z = v) : YieldsIf Tryd.prog ops S op (if b then u else v) a := by
  refine .inl ⟨hw, fun w _ => ?_⟩
  unfold execOp
  simp only [ho, hx, hy, hz]
  cases b <;> simp [go_sem]
end
end Go.Proofs.YthfmpebgmojcaaaDoor
/- An event's bytes: audit.bytesOf by a contract. -/
namespace Go.Proofs.YthfmpebgmojcaaaDoor
open Go.RowKit
set_option linter.unusedVariables false
set_option maxRecDepth 20000
theorem TabAt.below {w w' : World} (h : TabAt w) (hb : Below w.heap.size w w') : TabAt w' := by
  unfold TabAt at h ⊢
  exact (hb.cell (World.block_lt_of_cell? _ _ h)).trans h
theorem texts_new {w : World} (p q r s : ByteArray) : Texts (w.alloc (.cells #[.string p, .string q, .string r, .string s] 9)) (some ⟨w.heap.size, 0, none⟩) [p, q, r, s] := fun i hi => by
  refine ⟨w.heap.size, 0, rfl, ?_⟩
  rw [Nat.zero_add, World.cell?_alloc_at _ _ _ _ rfl]
  simp only [List.length_cons, List.length_nil] at hi
  match i, hi with
  | 0, _ => rfl
  | 1, _ => rfl
  | 2, _ => rfl
  | 3, _ => rfl
theorem evB_bound (e : Ev) : (evB e).length ≤ 72 := by
  unfold evB rowRes
  split
  · rename_i h
    unfold rowErr at h
    split at h
    · cases h
    · split at h
      · cases h
      · split at h
        · cases h
        · omega
  · simp
def BPost (w : World) (l : List UInt8) (x : Ending) (w' : World) : Prop := ∃ a cap, x = .returned (.slice a l.length cap) ∧ Bytes w' a l ∧ Below w.heap.size w w' ∧ l.length ≤ cap
theorem wp_build4 {o : Oper} {a : Act} {w : World} {K : Act → World → Prop} {Q : Exit → Act → World → Prop} (x y z u : Operand) (ho : o.op = .buildSlice 73 4 #[(0, x), (1, y), (2, z), (3, u)]) (p q r s : ByteArray) (h0 : a.eval x = .string p) (h1 : a.eval y = .string q) (h2 : a.eval z = .string r) (h3 : a.eval u = .string s)
    (h : K (a.put o.dst (.slice (some ⟨w.heap.size, 0, none⟩) 4 4)) (w.alloc (.cells #[.string p, .string q, .string r, .string s] 9))) : o.wp Tryd.prog a w K Q := by
  unfold Oper.wp execOp
  simp only [ho, List.map_toArray, List.map_cons, List.map_nil, h0, h1, h2, h3]
  simp [go_sem]
  exact h
theorem hf_text : ∀ (args : Array Value) (w : World), (callFunc 42 args).run Tryd.prog w = .ok (.enter 42 args) w := fun args w => by simp [go_sem]
theorem hf_row : ∀ (args : Array Value) (w : World), (callFunc 88 args).run Tryd.prog w = .ok (.enter 88 args) w := fun args w => by simp [go_sem]
set_option maxHeartbeats 2000000 in
theorem bytesOf_any (w : World) (e : Ev) (hn : e.num ≤ 4611686018427387904) (ht : e.tim ≤ 4611686018427387904) (h1 : e.what.size ≤ 12) (h2 : e.who.size ≤ 30) (hT : TabAt w) :
    Calls Tryd.prog 61 #[.agg (eVals e).toArray] w (BPost w (evB e)) := by
  have HR := hid (fun (p q : ByteArray) (hp : p.size ≤ 100) (hq : q.size ≤ 100) (W : World) (ad : Option Addr) (h : Texts W ad [p, q, e.what, e.who]) => row_any [p, q, e.what, e.who] ad 4 W h (fun s hs => by simp at hs; rcases hs with rfl | rfl | rfl | rfl <;> omega) (by simp))
  have N1 : ∀ n, n ≤ 4611686018427387904 → (txt n).size ≤ 100 := fun n h => by
    show (numT n).toArray.size ≤ 100
    unfold numT
    split
    · decide
    · rw [List.size_toArray, List.length_cons, lo_length]
      have := (Nat.log2_lt (by omega)).2 (show n < 2 ^ 63 by omega)
      omega
  obtain ⟨pt, hpt⟩ : ∃ pt, pt = txt e.num := ⟨_, rfl⟩
  obtain ⟨qt, hqt⟩ : ∃ qt, qt = txt e.tim := ⟨_, rfl⟩
  have hl : Hid (rowRes [pt, qt, e.what, e.who] = evB e) := by
    show _ = _
    rw [hpt, hqt]; rfl
  have C1 := hid (fun W (hW : TabAt W) => text_any e.num hn W hW)
  have C2 := hid (fun W (hW : TabAt W) => text_any e.tim ht W hW)
  have s1 := N1 e.num hn
  have s2 := N1 e.tim ht
  rw [← hpt] at C1 s1
  rw [← hqt] at C2 s2
  have HR := hid (HR.out pt qt s1 s2)
  rw [hl.out] at HR
  clear hl N1 hpt hqt
  generalize evB e = l at *
  generalize ((rowErr [pt, qt, e.what, e.who] : Nat) : Int) = er at *
  unfold eVals
  generalize e.num = p at *
  generalize e.tim = q at *
  generalize e.what = r at *
  generalize e.who = s at *
  clear hn ht s1 s2 h1 h2
  obtain ⟨W, hW⟩ : ∃ W, W = w.alloc (.cells #[.int .i64 (p : Int), .int .i64 (q : Int), .string r, .string s] 55) := ⟨_, rfl⟩
  have hb1 : Below w.heap.size w W := by rw [hW]; exact (Below.refl _ w).alloc (Nat.le_refl _) _
  have t0 : W.heap[w.heap.size]? = some (.cells #[.int .i64 (p : Int), .int .i64 (q : Int), .string r, .string s] 55 (0, 0)) := by rw [hW]; exact heap_alloc_new w _
  have d0 := (Array.getElem?_eq_some_iff.1 t0).1
  have q0 : W.cell? ⟨w.heap.size, 0, none⟩ = some (.int .i64 (p : Int)) := cell_of_row _ _ 0 _ _ _ t0
  have q1 : W.cell? ⟨w.heap.size, 1, none⟩ = some (.int .i64 (q : Int)) := cell_of_row _ _ 1 _ _ _ t0
  have q2 : W.cell? ⟨w.heap.size, 2, none⟩ = some (.string r) := cell_of_row _ _ 2 _ _ _ t0
  have q3 : W.cell? ⟨w.heap.size, 3, none⟩ = some (.string s) := cell_of_row _ _ 3 _ _ _ t0
  have HT : Hid (TabAt W) := hT.below hb1
  have HW := hid hW
  have HB := hid hb1
  clear hT hb1 hW t0
  go_enter Tryd.func61, Tryd.ntmps61
  go_wp2
  rw [← HW.out]
  have hm : Tryd.prog.follows .mixedOrders = true := by kernel_rfl
  refine wp_act _ fun A hA => ?_
  have sz : A.tmps.size = 21 := by rw [hA]; rfl
  have e1 : A.eval (.tmp 1) = .pointer (some ⟨w.heap.size, 0, none⟩) := by rw [hA]; rfl
  have hs0 : Below W.heap.size W W.drew := (Below.refl _ W).drew
  refine wp_split (fun a V => ∃ (w2 : World) (aC : Option Addr) (cC : Nat), a = ⟨#[.agg #[.int .i64 (p : Int), .int .i64 (q : Int), .string r, .string s], .pointer (some ⟨w.heap.size, 0, none⟩), .slice none 0 0, .slice aC l.length cC, .int .i64 er, .tuple #[.slice aC l.length cC, .int .i64 er], .pointer (some ⟨w.heap.size, 0, none⟩), .int .i64 (p : Int), .string pt, .pointer (some ⟨w.heap.size, 1, none⟩), .int .i64 (q : Int), .string qt, .pointer (some ⟨w.heap.size, 2, none⟩), .string r, .pointer (some ⟨w.heap.size, 3, none⟩), .string s, .slice (some ⟨w2.heap.size, 0, none⟩) 4 4, .tuple #[.slice aC l.length cC, .int .i64 er], .slice aC l.length cC, .int .i64 er, undef], []⟩ ∧ Bytes V aC l ∧ Below w.heap.size w V ∧ l.length ≤ cC) ?_ ?_
  · refine wp_region_held (S := fun V => Below W.heap.size W V) hm ?_
    show wpAnyH _ _ _ _ _ _ _ A W.drew
    refine tkH (i := 0) (d := 6) (v := .pointer (some ⟨w.heap.size, 0, none⟩)) rfl rfl (y_ev 0 (by decide) (by simp [Region.wanted]) (.tmp 1) rfl w.heap.size e1) hs0 ?_
    refine tkH (i := 1) (d := 7) (v := .int .i64 (p : Int)) rfl rfl (y_loadI (by simp [Region.wanted]) (.tmp 6) rfl w.heap.size 0 _ (ev_eq _ _ (by simp [sz])) (fun V hV => (hV.cell (p := ⟨w.heap.size, 0, none⟩) d0).trans q0)) hs0 ?_
    refine tkH (i := 3) (d := 9) (v := .pointer (some ⟨w.heap.size, 1, none⟩)) rfl rfl (y_ev 1 (by decide) (by simp [Region.wanted]) (.tmp 1) rfl w.heap.size (evn (evn e1))) hs0 ?_
    refine tkH (i := 4) (d := 10) (v := .int .i64 (q : Int)) rfl rfl (y_loadI (by simp [Region.wanted]) (.tmp 9) rfl w.heap.size 1 _ (ev_eq _ _ (by simp [put_sz, sz])) (fun V hV => (hV.cell (p := ⟨w.heap.size, 1, none⟩) d0).trans q1)) hs0 ?_
    refine tkH (i := 6) (d := 12) (v := .pointer (some ⟨w.heap.size, 2, none⟩)) rfl rfl (y_ev 2 (by decide) (by simp [Region.wanted]) (.tmp 1) rfl w.heap.size (evn (evn (evn (evn e1))))) hs0 ?_
    refine tkH (i := 7) (d := 13) (v := .string r) rfl rfl (y_loadS (by simp [Region.wanted]) (.tmp 12) rfl w.heap.size 2 _ (ev_eq _ _ (by simp [put_sz, sz])) (fun V hV => (hV.cell (p := ⟨w.heap.size, 2, none⟩) d0).trans q2)) hs0 ?_
    refine tkH (i := 8) (d := 14) (v := .pointer (some ⟨w.heap.size, 3, none⟩)) rfl rfl (y_ev 3 (by decide) (by simp [Region.wanted]) (.tmp 1) rfl w.heap.size (evn (evn (evn (evn (evn (evn e1))))))) hs0 ?_
    refine tkH (i := 9) (d := 15) (v := .string s) rfl rfl (y_loadS (by simp [Region.wanted]) (.tmp 14) rfl w.heap.size 3 _ (ev_eq _ _ (by simp [put_sz, sz])) (fun V hV => (hV.cell (p := ⟨w.heap.size, 3, none⟩) d0).trans q3)) hs0 ?_
    refine wpAnyH_all (rs := [2]) (by kernel_rfl) (by simp) fun i1 hm1 => ?_
    obtain rfl : i1 = 2 := by simpa using hm1
    refine wpOp_own rfl rfl fun K1 hK1 => ?_
    refine wp_calls1 42 hf_text (.tmp 7) _ rfl (.int .i64 (p : Int)) (evn (evn (evn (evn (evn (evn (ev_eq _ _ (by simp [put_sz, sz])))))))) ?_
    refine (C1.out _ (HT.out.below hs0)).mono ?_
    rintro _ w1 ⟨rfl, hb1⟩
    have hs1 := hs0.trans (hb1.mono hs0.size)
    refine ⟨_, rfl, hK1 _ _ ⟨(hs1), ?_⟩⟩
    clear hK1 K1 hm1
    show wpAnyH _ _ _ _ _ _ _ (((((((((A.put (some 6) (.pointer (some ⟨w.heap.size, 0, none⟩))).put (some 7) (.int .i64 (p : Int))).put (some 9) (.pointer (some ⟨w.heap.size, 1, none⟩))).put (some 10) (.int .i64 (q : Int))).put (some 12) (.pointer (some ⟨w.heap.size, 2, none⟩))).put (some 13) (.string r)).put (some 14) (.pointer (some ⟨w.heap.size, 3, none⟩))).put (some 15) (.string s)).put (some 8) (.string pt)) _
    refine wpAnyH_all (rs := [5]) (by kernel_rfl) (by simp) fun i2 hm2 => ?_
    obtain rfl : i2 = 5 := by simpa using hm2
    refine wpOp_own rfl rfl fun K2 hK2 => ?_
    refine wp_calls1 42 hf_text (.tmp 10) _ rfl (.int .i64 (q : Int)) (evn (evn (evn (evn (evn (ev_eq _ _ (by simp [put_sz, sz]))))))) ?_
    refine (C2.out _ (HT.out.below hs1)).mono ?_
    rintro _ w2 ⟨rfl, hb2⟩
    have hs2 := hs1.trans (hb2.mono hs1.size)
    refine ⟨_, rfl, hK2 _ _ ⟨(hs2), ?_⟩⟩
    clear hK2 K2 hm2
    show wpAnyH _ _ _ _ _ _ _ ((((((((((A.put (some 6) (.pointer (some ⟨w.heap.size, 0, none⟩))).put (some 7) (.int .i64 (p : Int))).put (some 9) (.pointer (some ⟨w.heap.size, 1, none⟩))).put (some 10) (.int .i64 (q : Int))).put (some 12) (.pointer (some ⟨w.heap.size, 2, none⟩))).put (some 13) (.string r)).put (some 14) (.pointer (some ⟨w.heap.size, 3, none⟩))).put (some 15) (.string s)).put (some 8) (.string pt)).put (some 11) (.string qt)) _
    refine wpAnyH_all (rs := [10]) (by kernel_rfl) (by simp) fun i3 hm3 => ?_
    obtain rfl : i3 = 10 := by simpa using hm3
    refine wpOp_own rfl rfl fun K3 hK3 => ?_
    refine wp_build4 (.tmp 8) (.tmp 11) (.tmp 13) (.tmp 15) rfl pt qt r s (evn (ev_eq _ _ (by simp [put_sz, sz]))) (ev_eq _ _ (by simp [put_sz, sz])) (evn (evn (evn (evn (ev_eq _ _ (by simp [put_sz, sz])))))) (evn (evn (ev_eq _ _ (by simp [put_sz, sz])))) ?_
    have hs3 := hs2.alloc hs2.size (.cells #[.string pt, .string qt, .string r, .string s] 9)
    refine hK3 _ _ ⟨(hs3), ?_⟩
    clear hK3 K3 hm3
    show wpAnyH _ _ _ _ _ _ _ (((((((((((A.put (some 6) (.pointer (some ⟨w.heap.size, 0, none⟩))).put (some 7) (.int .i64 (p : Int))).put (some 9) (.pointer (some ⟨w.heap.size, 1, none⟩))).put (some 10) (.int .i64 (q : Int))).put (some 12) (.pointer (some ⟨w.heap.size, 2, none⟩))).put (some 13) (.string r)).put (some 14) (.pointer (some ⟨w.heap.size, 3, none⟩))).put (some 15) (.string s)).put (some 8) (.string pt)).put (some 11) (.string qt)).put (some 16) (.slice (some ⟨w2.heap.size, 0, none⟩) 4 4)) _
    refine wpAnyH_all (rs := [11]) (by kernel_rfl) (by simp) fun i4 hm4 => ?_
    obtain rfl : i4 = 11 := by simpa using hm4
    refine wpOp_own rfl rfl fun K4 hK4 => ?_
    refine wp_calls1 88 hf_row (.tmp 16) _ rfl (.slice (some ⟨w2.heap.size, 0, none⟩) 4 4) (ev_eq _ _ (by simp [put_sz, sz])) ?_
    refine (HR.out _ _ (texts_new _ _ _ _)).mono ?_
    rintro _ w4 ⟨aC, cC, rfl, hbyC, hbC, hcC⟩
    have hs4 := hs3.trans (hbC.mono hs3.size)
    refine ⟨_, rfl, hK4 _ _ ⟨(hs4), ?_⟩⟩
    clear hK4 K4 hm4
    show wpAnyH _ _ _ _ _ _ _ ((((((((((((A.put (some 6) (.pointer (some ⟨w.heap.size, 0, none⟩))).put (some 7) (.int .i64 (p : Int))).put (some 9) (.pointer (some ⟨w.heap.size, 1, none⟩))).put (some 10) (.int .i64 (q : Int))).put (some 12) (.pointer (some ⟨w.heap.size, 2, none⟩))).put (some 13) (.string r)).put (some 14) (.pointer (some ⟨w.heap.size, 3, none⟩))).put (some 15) (.string s)).put (some 8) (.string pt)).put (some 11) (.string qt)).put (some 16) (.slice (some ⟨w2.heap.size, 0, none⟩) 4 4)).put (some 17) (.tuple #[.slice aC l.length cC, .int .i64 er])) _
    refine tkH (i := 12) (d := 5) (v := .tuple #[.slice aC l.length cC, .int .i64 er]) rfl rfl (yields_move (by simp [Region.wanted]) (.tmp 17) rfl _ (ev_eq _ _ (by simp [put_sz, sz]))) (hs4) ?_
    refine tkH (i := 13) (d := 18) (v := .slice aC l.length cC) rfl rfl (y_ext0 (by simp [Region.wanted]) (.tmp 5) rfl _ _ (ev_eq _ _ (by simp [put_sz, sz]))) (hs4) ?_
    refine tkH (i := 14) (d := 19) (v := .int .i64 er) rfl rfl (y_ext1 (by simp [Region.wanted]) (.tmp 5) rfl _ _ (evn (ev_eq _ _ (by simp [put_sz, sz])))) (hs4) ?_
    refine tkH (i := 15) (d := 3) (v := .slice aC l.length cC) rfl rfl (y_assign (by simp [Region.wanted]) (.tmp 18) rfl _ (evn (ev_eq _ _ (by simp [put_sz, sz])))) (hs4) ?_
    refine tkH (i := 16) (d := 4) (v := .int .i64 er) rfl rfl (y_assign (by simp [Region.wanted]) (.tmp 19) rfl _ (evn (ev_eq _ _ (by simp [put_sz, sz])))) (hs4) ?_
    refine wpAnyH_done (by kernel_rfl) ⟨rfl, w2, aC, cC, ?_, hbyC, HB.out.trans (hs4.mono HB.out.size), hcC⟩ _
    rw [hA]
    simp [Act.put]
  · rintro _ V ⟨w2, aC, cC, rfl, hby, hb, hcc⟩
    have HBy := hid hby
    have HBb := hid hb
    clear hby hb e1 sz hA
    go_wp2
    go_ret
    exact ⟨aC, cC, rfl, HBy.out, HBb.out, hcc⟩
end Go.Proofs.YthfmpebgmojcaaaDoor
/- Add's append: the region of 'c.events = append(c.events, event)', over a frame that is a letter. -/
namespace Go.Proofs.YthfmpebgmojcaaaDoor
open Go.RowKit
set_option linter.unusedVariables false
set_option maxRecDepth 20000
theorem Tryd.infoE : (Tryd.prog.info? 55).map (fun i => (i.zero, i.size, i.bytes)) = some (some (.agg #[.int .i64 0, .int .i64 0, .string ⟨#[]⟩, .string ⟨#[]⟩]), 4, 48) := by kernel_rfl
theorem range_new (w : World) (e : Ev) : (w.alloc (.cells (eVals e).toArray 55)).rangeAt w.heap.size 0 (eVals e) := range_mid (A := []) (C := []) (heap_alloc_new w _) 0 rfl
theorem wp_buildE {o : Oper} {a : Act} {w : World} {K : Act → World → Prop} {Q : Exit → Act → World → Prop} (x : Operand) (ho : o.op = .buildSlice 63 1 #[(0, x)]) (e : Ev) (h0 : a.eval x = .agg (eVals e).toArray)
    (h : K (a.put o.dst (.slice (some ⟨w.heap.size, 0, none⟩) 1 1)) (w.alloc (.cells (eVals e).toArray 55))) : o.wp Tryd.prog a w K Q := by
  unfold Oper.wp execOp
  simp only [ho, List.map_toArray, List.map_cons, List.map_nil, h0, eVals]
  simp [go_sem]
  exact h
theorem wp_storeV {o : Oper} {a : Act} {w : World} {K : Act → World → Prop} {Q : Exit → Act → World → Prop} (x y : Operand) (ho : o.op = .store 63 x y) (g k : Nat) (ad : Option Addr) (n c : Nat) (u : Value) (hx : a.eval x = .pointer (some ⟨g, k, none⟩)) (hy : a.eval y = .slice ad n c) (h1 : w.cell? ⟨g, k, none⟩ = some u) (h2 : w.frozen? ⟨g, k, none⟩ = false)
    (h : K (a.put o.dst undef) (w.setCell ⟨g, k, none⟩ (.slice ad n c))) : o.wp Tryd.prog a w K Q := by
  unfold Oper.wp execOp
  simp only [ho, hx, hy]
  simp [go_sem, h1, h2]
  exact h
theorem wp_appE (w : World) {o : Oper} {a : Act} {K : Act → World → Prop} {Q : Exit → Act → World → Prop} (s x : Operand) (ho : o.op = .call { callee := .builtin .append, args := #[s, x], argTypes := #[63, 63] })
    (B : Nat) (v : Value) (l : List Ev) (hs : a.eval s = v) (hown : w.ownsRow B 55 4 v l.length (eCells l)) (e : Ev) (b : Nat) (hx : a.eval x = .slice (some ⟨b, 0, none⟩) 1 1) (hr : w.rangeAt b 0 (eVals e)) (hl : l.length ≤ 1000) (hB : B ≤ w.heap.size)
    (h : ∀ k cap w', w'.ownsRow B 55 4 (.slice (some ⟨k, 0, none⟩) (l ++ [e]).length cap) (l ++ [e]).length (eCells (l ++ [e])) → w.grownBy w' v.ownBlock → (v.ownBlock = some k ∨ k = w.heap.size) → K (a.put o.dst (.slice (some ⟨k, 0, none⟩) (l ++ [e]).length cap)) w') : o.wp Tryd.prog a w K Q := by
  obtain ⟨i0, hi, hz0, hz1, hz2⟩ := info_parts Tryd.infoE
  refine wp_append_lies w s x 63 ho B 55 i0 (.agg #[.int .i64 0, .int .i64 0, .string ⟨#[]⟩, .string ⟨#[]⟩]) 4 48 Tryd.underlying63 hi hz0 hz1 hz2 rfl (by decide) v l.length (eCells l) hs hown ⟨b, 0, none⟩ 1 1 (eVals e) hx rfl (fun j u hj => by rw [addr_add]; exact hr j u hj) (by rw [← eCells_one]; exact eCells_oneCell _) (by decide) (by unfold maxLen; omega) (by omega) hB w.heap.size rfl ?_
  intro k cap w' h1 h2 h3 _
  rw [show eCells l ++ eVals e = eCells (l ++ [e]) by rw [eCells_append, eCells_one], show l.length + 1 = (l ++ [e]).length by simp] at h1
  have := h k cap w' h1 h2 h3
  rw [show (l ++ [e]).length = l.length + 1 by simp] at this
  exact this
theorem cell_66 {w : World} {g : Nat} {c : Ch} {v : Value} (h : w.heap[g]? = some (.cells (ccells c v).toArray 87 (0, 0))) (ok : Lens c) : w.cell? ⟨g, 66, none⟩ = some v := by
  unfold ccells at h
  rw [← List.append_assoc] at h
  exact cell_mid h 66 (by simp [lnkC_length, ok.lb, ok.lan])
theorem added_row {w w' : World} {B g k cap : Nat} {v : Value} {c : Ch} {e : Ev} (h : ChAt w B g v c) (ok : Lens c) (hown : w'.ownsRow B 55 4 (.slice (some ⟨k, 0, none⟩) (c.ev ++ [e]).length cap) (c.ev ++ [e]).length (eCells (c.ev ++ [e]))) (hg : w.grownBy w' v.ownBlock) (hk : v.ownBlock = some k ∨ k = w.heap.size)
    (ho : w'.heap[g]? = some (.cells (ccells c v).toArray 87 (0, 0))) :
    ChAt (w'.setCell ⟨g, 66, none⟩ (.slice (some ⟨k, 0, none⟩) (c.ev ++ [e]).length cap)) B g (.slice (some ⟨k, 0, none⟩) (c.ev ++ [e]).length cap) { c with ev := c.ev ++ [e] } ∧ Out (CBlk g v) w (w'.setCell ⟨g, 66, none⟩ (.slice (some ⟨k, 0, none⟩) (c.ev ++ [e]).length cap)) := by
  have hkg : k ≠ g := by
    rcases hk with hk | hk
    · exact h.ne k hk
    · have := h.lt; omega
  refine ⟨⟨?_, ⟨hown.1, ?_⟩, h.bg⟩, (Out.of_grown hg (fun j hj => .inr hj)).setCell _ _ (.inl rfl)⟩
  · rw [heap_setCell_same w' g 66 _ _ _ ho, ccells_set66 ok]
    rfl
  · rcases hown.2 with h0 | ⟨j, cap', cur, hv, hb, hj, r⟩
    · exact .inl h0
    · refine .inr ⟨j, cap', cur, hv, hb, (heap_setCell_other _ _ _ _ (fun x => ?_)).trans hj, r⟩
      cases hv
      exact hkg x
noncomputable def codeAdd (n : Nat) : Code := ((Tryd.f20.body.bind (regionAt n)).getD .skip)
set_option maxHeartbeats 2000000 in
theorem add_region5 {V0 W5 : World} {B g E : Nat} {a0 : Option Addr} {n0 c0 : Nat} {c : Ch} {e : Ev} {A : Act} (sz : A.tmps.size = 53) (e0 : A.eval (.tmp 0) = .pointer (some ⟨g, 0, none⟩)) (e11 : A.eval (.tmp 11) = .pointer (some ⟨E, 0, none⟩))
    (hV0 : V0 = W5.drew) (H0 : ChAt V0 B g (.slice a0 n0 c0) c) (lens : Lens c) (hs0 : V0.heap[E]? = some (.cells (eVals e).toArray 55 (0, 0))) (hfew : c.ev.length ≤ 1000) (hB : B ≤ V0.heap.size) (hneE : (Value.slice a0 n0 c0).ownBlock ≠ some E) :
    (codeAdd 5).wp Tryd.prog (fun x a V => x = .normal ∧ ∃ k cap, a = ((((((((((A.put (some 28) (.pointer (some ⟨g, 0, none⟩))).put (some 29) (.pointer (some ⟨g, 0, none⟩))).put (some 30) (.pointer (some ⟨g, 0, none⟩))).put (some 31) (.pointer (some ⟨g, 66, none⟩))).put (some 33) (.agg (eVals e).toArray)).put (some 32) (.slice a0 n0 c0)).put (some 34) (.slice (some ⟨V0.heap.size, 0, none⟩) 1 1)).put (some 35) (.slice (some ⟨k, 0, none⟩) (c.ev ++ [e]).length cap)).put (some 36) (.pointer (some ⟨g, 0, none⟩))).put (some 37) (.pointer (some ⟨g, 66, none⟩))) ∧
      ChAt V B g (.slice (some ⟨k, 0, none⟩) (c.ev ++ [e]).length cap) { c with ev := c.ev ++ [e] } ∧ V.heap[E]? = some (.cells (eVals e).toArray 55 (0, 0)) ∧ Out (CBlk g (.slice a0 n0 c0)) V0 V ∧ ((Value.slice a0 n0 c0).ownBlock = some k ∨ V0.heap.size ≤ k)) A W5 := by
  have hm : Tryd.prog.follows .mixedOrders = true := by kernel_rfl
  have hEg : E ≠ g := fun x => by
    rw [x, H0.obj] at hs0
    injection hs0 with hs0
    injection hs0 with _ hs0
    exact absurd hs0 (by decide)
  have hA : A = A := rfl
  unfold codeAdd
  conv => arg 2; whnf
  refine wp_region_held (S := fun V => V.heap[E]? = some (.cells (eVals e).toArray 55 (0, 0))) hm ?_
  rw [show ({ W5 with drawn := W5.drawn + 1 } : World) = V0 from hV0.symm]
  have b01 : Below V0.heap.size V0 (V0.alloc (.cells (eVals e).toArray 55)) := (Below.refl _ V0).alloc (Nat.le_refl _) _
  have H1 := H0.below b01
  have hs1 := (b01.block E (heap_lt hs0)).trans hs0
  have hB1 : B ≤ (V0.alloc (.cells (eVals e).toArray 55)).heap.size := Nat.le_trans hB b01.size
  refine tkH (i := 0) (d := 28) (v := .pointer (some ⟨g, 0, none⟩)) rfl rfl (yields_move (by simp [Region.wanted]) (.tmp 0) rfl _ e0) hs0 ?_
  refine tkH (i := 1) (d := 29) (v := .pointer (some ⟨g, 0, none⟩)) rfl rfl (yields_move (by simp [Region.wanted]) (.tmp 0) rfl _ (evn e0)) hs0 ?_
  refine tkH (i := 2) (d := 30) (v := .pointer (some ⟨g, 0, none⟩)) rfl rfl (y_nil (by simp [Region.wanted]) (.tmp 29) rfl _ (ev_eq _ _ (by simp [put_sz, sz]))) hs0 ?_
  refine tkH (i := 3) (d := 31) (v := .pointer (some ⟨g, 66, none⟩)) rfl rfl (y_chain2 (by simp [Region.wanted]) (.tmp 30) rfl g (ev_eq _ _ (by simp [put_sz, sz]))) hs0 ?_
  refine tkH (i := 5) (d := 33) (v := .agg (eVals e).toArray) rfl rfl (y_loadE (by simp [Region.wanted]) (.tmp 11) rfl E 0 e (evn (evn (evn (evn e11)))) (fun V hV => range_mid (A := []) (C := []) hV 0 rfl)) hs0 ?_
  refine wpAnyH_all (rs := [4, 6]) (by kernel_rfl) (by simp) fun i1 hm1 => ?_
  have hn1 : i1 = 4 ∨ i1 = 6 := by simpa using hm1
  clear hm1
  rcases hn1 with rfl | rfl
  · refine YieldsIf.wpOp rfl (y_loadV (S := fun V => V.cell? ⟨g, 66, none⟩ = some (.slice a0 n0 c0)) (by simp [Region.wanted]) (.tmp 31) rfl g 66 a0 n0 c0 (evn (ev_eq _ _ (by simp [put_sz, sz]))) (fun V hV => hV)) (H0.c66 lens) ⟨hs0, ?_⟩
    show wpAnyH _ _ _ _ _ _ _ ((((((A.put (some 28) (.pointer (some ⟨g, 0, none⟩))).put (some 29) (.pointer (some ⟨g, 0, none⟩))).put (some 30) (.pointer (some ⟨g, 0, none⟩))).put (some 31) (.pointer (some ⟨g, 66, none⟩))).put (some 33) (.agg (eVals e).toArray)).put (some 32) (.slice a0 n0 c0)) _
    refine wpAnyH_all (rs := [6]) (by kernel_rfl) (by simp) fun i2 hm2 => ?_
    obtain rfl : i2 = 6 := by simpa using hm2
    refine wpOp_own rfl rfl fun K2 hK2 => ?_
    refine wp_buildE (.tmp 33) rfl e (evn (ev_eq _ _ (by simp [put_sz, sz]))) ?_
    refine hK2 _ _ ⟨hs1, ?_⟩
    clear hK2 K2 hm2
    show wpAnyH _ _ _ _ _ _ _ (((((((A.put (some 28) (.pointer (some ⟨g, 0, none⟩))).put (some 29) (.pointer (some ⟨g, 0, none⟩))).put (some 30) (.pointer (some ⟨g, 0, none⟩))).put (some 31) (.pointer (some ⟨g, 66, none⟩))).put (some 33) (.agg (eVals e).toArray)).put (some 32) (.slice a0 n0 c0)).put (some 34) (.slice (some ⟨V0.heap.size, 0, none⟩) 1 1)) _
    obtain ⟨A3, hA3⟩ : ∃ A3, A3 = (((((((A.put (some 28) (.pointer (some ⟨g, 0, none⟩))).put (some 29) (.pointer (some ⟨g, 0, none⟩))).put (some 30) (.pointer (some ⟨g, 0, none⟩))).put (some 31) (.pointer (some ⟨g, 66, none⟩))).put (some 33) (.agg (eVals e).toArray)).put (some 32) (.slice a0 n0 c0)).put (some 34) (.slice (some ⟨V0.heap.size, 0, none⟩) 1 1)) := ⟨_, rfl⟩
    have szA3 : A3.tmps.size = 53 := by rw [hA3]; simp [put_sz, sz]
    have eA328 : A3.eval (.tmp 28) = .pointer (some ⟨g, 0, none⟩) := by rw [hA3]; exact (evn (evn (evn (evn (evn (evn (ev_eq _ _ (by simp [sz]))))))))
    have eA332 : A3.eval (.tmp 32) = .slice a0 n0 c0 := by rw [hA3]; exact (evn (ev_eq _ _ (by simp [put_sz, sz])))
    have eA334 : A3.eval (.tmp 34) = .slice (some ⟨V0.heap.size, 0, none⟩) 1 1 := by rw [hA3]; exact (ev_eq _ _ (by simp [put_sz, sz]))
    rw [← hA3]
    refine wpAnyH_all (rs := [7]) (by kernel_rfl) (by simp) fun i3 hm3 => ?_
    obtain rfl : i3 = 7 := by simpa using hm3
    refine wpOp_own rfl rfl fun K3 hK3 => ?_
    refine wp_appE _ (.tmp 32) (.tmp 34) rfl B (.slice a0 n0 c0) c.ev eA332 H1.row e V0.heap.size eA334 (range_new V0 e) hfew hB1 ?_
    intro k cap V2 hown hgrow hk
    have hs2 : V2.heap[E]? = some (.cells (eVals e).toArray 55 (0, 0)) := (hgrow.block E (heap_lt hs1) (fun x => hneE x.symm)).trans hs1
    have o2 : V2.heap[g]? = some (.cells (ccells c (.slice a0 n0 c0)).toArray 87 (0, 0)) := (hgrow.block g H1.lt (fun x => H1.ne g x.symm rfl)).trans H1.obj
    refine hK3 _ _ ⟨hs2, ?_⟩
    clear hK3 K3 hm3
    show wpAnyH _ _ _ _ _ _ _ (A3.put (some 35) (.slice (some ⟨k, 0, none⟩) (c.ev ++ [e]).length cap)) _
    refine tkH (i := 8) (d := 36) (v := .pointer (some ⟨g, 0, none⟩)) rfl rfl (y_nil (by simp [Region.wanted]) (.tmp 28) rfl _ (evn eA328)) hs2 ?_
    refine tkH (i := 9) (d := 37) (v := .pointer (some ⟨g, 66, none⟩)) rfl rfl (y_chain2 (by simp [Region.wanted]) (.tmp 36) rfl g (ev_eq _ _ (by simp [put_sz, szA3]))) hs2 ?_
    refine wpAnyH_all (rs := [10]) (by kernel_rfl) (by simp) fun i4 hm4 => ?_
    obtain rfl : i4 = 10 := by simpa using hm4
    refine wpOp_own rfl rfl fun K4 hK4 => ?_
    refine wp_storeV (.tmp 37) (.tmp 35) rfl g 66 (some ⟨k, 0, none⟩) _ cap (.slice a0 n0 c0) (ev_eq _ _ (by simp [put_sz, szA3])) (evn (evn (ev_eq _ _ (by simp [szA3])))) (cell_66 o2 lens) (frozen_of_row _ _ _ _ _ o2) ?_
    have hfin := added_row H1 lens hown hgrow hk o2
    refine hK4 _ _ ⟨(heap_setCell_other _ _ _ _ (fun x => hEg x)).trans hs2, wpAnyH_done (by kernel_rfl) ⟨rfl, k, cap, ?_, hfin.1, (heap_setCell_other _ _ _ _ (fun x => hEg x)).trans hs2, (Out.of_below (P := CBlk g (.slice a0 n0 c0)) b01).trans hfin.2 (fun _ _ x => x), hk.imp id (fun x => by rw [x]; exact b01.size)⟩ _⟩
    show (((A3.put (some 35) (.slice (some ⟨k, 0, none⟩) (c.ev ++ [e]).length cap)).put (some 36) (.pointer (some ⟨g, 0, none⟩))).put (some 37) (.pointer (some ⟨g, 66, none⟩))) = _
    rw [hA3]
  · refine wpOp_own rfl rfl fun K2 hK2 => ?_
    refine wp_buildE (.tmp 33) rfl e (ev_eq _ _ (by simp [put_sz, sz])) ?_
    refine hK2 _ _ ⟨hs1, ?_⟩
    clear hK2 K2
    show wpAnyH _ _ _ _ _ _ _ ((((((A.put (some 28) (.pointer (some ⟨g, 0, none⟩))).put (some 29) (.pointer (some ⟨g, 0, none⟩))).put (some 30) (.pointer (some ⟨g, 0, none⟩))).put (some 31) (.pointer (some ⟨g, 66, none⟩))).put (some 33) (.agg (eVals e).toArray)).put (some 34) (.slice (some ⟨V0.heap.size, 0, none⟩) 1 1)) _
    refine wpAnyH_all (rs := [4]) (by kernel_rfl) (by simp) fun i3 hm3 => ?_
    obtain rfl : i3 = 4 := by simpa using hm3
    refine YieldsIf.wpOp rfl (y_loadV (S := fun V => V.cell? ⟨g, 66, none⟩ = some (.slice a0 n0 c0)) (by simp [Region.wanted]) (.tmp 31) rfl g 66 a0 n0 c0 (evn (evn (ev_eq _ _ (by simp [put_sz, sz])))) (fun V hV => hV)) (H1.c66 lens) ⟨hs1, ?_⟩
    show wpAnyH _ _ _ _ _ _ _ (((((((A.put (some 28) (.pointer (some ⟨g, 0, none⟩))).put (some 29) (.pointer (some ⟨g, 0, none⟩))).put (some 30) (.pointer (some ⟨g, 0, none⟩))).put (some 31) (.pointer (some ⟨g, 66, none⟩))).put (some 33) (.agg (eVals e).toArray)).put (some 34) (.slice (some ⟨V0.heap.size, 0, none⟩) 1 1)).put (some 32) (.slice a0 n0 c0)) _
    obtain ⟨A3, hA3⟩ : ∃ A3, A3 = (((((((A.put (some 28) (.pointer (some ⟨g, 0, none⟩))).put (some 29) (.pointer (some ⟨g, 0, none⟩))).put (some 30) (.pointer (some ⟨g, 0, none⟩))).put (some 31) (.pointer (some ⟨g, 66, none⟩))).put (some 33) (.agg (eVals e).toArray)).put (some 34) (.slice (some ⟨V0.heap.size, 0, none⟩) 1 1)).put (some 32) (.slice a0 n0 c0)) := ⟨_, rfl⟩
    have szA3 : A3.tmps.size = 53 := by rw [hA3]; simp [put_sz, sz]
    have eA328 : A3.eval (.tmp 28) = .pointer (some ⟨g, 0, none⟩) := by rw [hA3]; exact (evn (evn (evn (evn (evn (evn (ev_eq _ _ (by simp [sz]))))))))
    have eA332 : A3.eval (.tmp 32) = .slice a0 n0 c0 := by rw [hA3]; exact (ev_eq _ _ (by simp [put_sz, sz]))
    have eA334 : A3.eval (.tmp 34) = .slice (some ⟨V0.heap.size, 0, none⟩) 1 1 := by rw [hA3]; exact (evn (ev_eq _ _ (by simp [put_sz, sz])))
    rw [← hA3]
    refine wpAnyH_all (rs := [7]) (by kernel_rfl) (by simp) fun i4 hm4 => ?_
    obtain rfl : i4 = 7 := by simpa using hm4
    refine wpOp_own rfl rfl fun K4 hK4 => ?_
    refine wp_appE _ (.tmp 32) (.tmp 34) rfl B (.slice a0 n0 c0) c.ev eA332 H1.row e V0.heap.size eA334 (range_new V0 e) hfew hB1 ?_
    intro k cap V2 hown hgrow hk
    have hs2 : V2.heap[E]? = some (.cells (eVals e).toArray 55 (0, 0)) := (hgrow.block E (heap_lt hs1) (fun x => hneE x.symm)).trans hs1
    have o2 : V2.heap[g]? = some (.cells (ccells c (.slice a0 n0 c0)).toArray 87 (0, 0)) := (hgrow.block g H1.lt (fun x => H1.ne g x.symm rfl)).trans H1.obj
    refine hK4 _ _ ⟨hs2, ?_⟩
    clear hK4 K4 hm4
    show wpAnyH _ _ _ _ _ _ _ (A3.put (some 35) (.slice (some ⟨k, 0, none⟩) (c.ev ++ [e]).length cap)) _
    refine tkH (i := 8) (d := 36) (v := .pointer (some ⟨g, 0, none⟩)) rfl rfl (y_nil (by simp [Region.wanted]) (.tmp 28) rfl _ (evn eA328)) hs2 ?_
    refine tkH (i := 9) (d := 37) (v := .pointer (some ⟨g, 66, none⟩)) rfl rfl (y_chain2 (by simp [Region.wanted]) (.tmp 36) rfl g (ev_eq _ _ (by simp [put_sz, szA3]))) hs2 ?_
    refine wpAnyH_all (rs := [10]) (by kernel_rfl) (by simp) fun i5 hm5 => ?_
    obtain rfl : i5 = 10 := by simpa using hm5
    refine wpOp_own rfl rfl fun K5 hK5 => ?_
    refine wp_storeV (.tmp 37) (.tmp 35) rfl g 66 (some ⟨k, 0, none⟩) _ cap (.slice a0 n0 c0) (ev_eq _ _ (by simp [put_sz, szA3])) (evn (evn (ev_eq _ _ (by simp [szA3])))) (cell_66 o2 lens) (frozen_of_row _ _ _ _ _ o2) ?_
    have hfin := added_row H1 lens hown hgrow hk o2
    refine hK5 _ _ ⟨(heap_setCell_other _ _ _ _ (fun x => hEg x)).trans hs2, wpAnyH_done (by kernel_rfl) ⟨rfl, k, cap, ?_, hfin.1, (heap_setCell_other _ _ _ _ (fun x => hEg x)).trans hs2, (Out.of_below (P := CBlk g (.slice a0 n0 c0)) b01).trans hfin.2 (fun _ _ x => x), hk.imp id (fun x => by rw [x]; exact b01.size)⟩ _⟩
    show (((A3.put (some 35) (.slice (some ⟨k, 0, none⟩) (c.ev ++ [e]).length cap)).put (some 36) (.pointer (some ⟨g, 0, none⟩))).put (some 37) (.pointer (some ⟨g, 66, none⟩))) = _
    rw [hA3, put_swap (d := 34) (e := 32) _ (by decide)]
end Go.Proofs.YthfmpebgmojcaaaDoor
/- Add's hash: the region of 'c.head = hash.Chain(c.head, bytesOf(event))', over a frame that is a letter. -/
namespace Go.Proofs.YthfmpebgmojcaaaDoor
open Go.RowKit
set_option linter.unusedVariables false
set_option maxRecDepth 20000
theorem hf_bytesOf : ∀ (args : Array Value) (w : World), (callFunc 61 args).run Tryd.prog w = .ok (.enter 61 args) w := fun args w => by simp [go_sem]
theorem hf_chain : ∀ (args : Array Value) (w : World), (callFunc 60 args).run Tryd.prog w = .ok (.enter 60 args) w := fun args w => by simp [go_sem]
set_option maxHeartbeats 2000000 in
theorem add_region6 {V0 W5 : World} {B g E : Nat} {v : Value} {c : Ch} {e : Ev} {A : Act} (sz : A.tmps.size = 53) (e0 : A.eval (.tmp 0) = .pointer (some ⟨g, 0, none⟩)) (e11 : A.eval (.tmp 11) = .pointer (some ⟨E, 0, none⟩))
    (hV0 : V0 = W5.drew) (H0 : ChAt V0 B g v c) (lens : Lens c) (hs0 : V0.heap[E]? = some (.cells (eVals e).toArray 55 (0, 0))) (hn : e.num ≤ 4611686018427387904) (ht : e.tim ≤ 4611686018427387904) (h12 : e.what.size ≤ 12) (h30 : e.who.size ≤ 30) (hT : TabAt V0) (hK : KAt V0) :
    (codeAdd 6).wp Tryd.prog (fun x a V => x = .normal ∧ ∃ aC cC, a = ((((((((((A.put (some 38) (.pointer (some ⟨g, 0, none⟩))).put (some 39) (.pointer (some ⟨g, 0, none⟩))).put (some 40) (.pointer (some ⟨g, 0, none⟩))).put (some 41) (.pointer (some ⟨g, 67, none⟩))).put (some 43) (.agg (eVals e).toArray)).put (some 42) (.agg (bvs c.hd))).put (some 44) (.slice aC (evB e).length cC)).put (some 45) (.agg (bvs (nextH c.hd e)))).put (some 46) (.pointer (some ⟨g, 0, none⟩))).put (some 47) (.pointer (some ⟨g, 67, none⟩))) ∧
      ChAt V B g v { c with hd := nextH c.hd e } ∧ V.heap[E]? = some (.cells (eVals e).toArray 55 (0, 0)) ∧ Out (fun k => k = g) V0 V) A W5 := by
  have hm : Tryd.prog.follows .mixedOrders = true := by kernel_rfl
  have hEg : E ≠ g := fun x => by
    rw [x, H0.obj] at hs0
    injection hs0 with hs0
    injection hs0 with _ hs0
    exact absurd hs0 (by decide)
  unfold codeAdd
  conv => arg 2; whnf
  refine wp_region_held (S := fun V => V.heap[E]? = some (.cells (eVals e).toArray 55 (0, 0))) hm ?_
  rw [show ({ W5 with drawn := W5.drawn + 1 } : World) = V0 from hV0.symm]
  refine tkH (i := 0) (d := 38) (v := .pointer (some ⟨g, 0, none⟩)) rfl rfl (yields_move (by simp [Region.wanted]) (.tmp 0) rfl _ e0) hs0 ?_
  refine tkH (i := 1) (d := 39) (v := .pointer (some ⟨g, 0, none⟩)) rfl rfl (yields_move (by simp [Region.wanted]) (.tmp 0) rfl _ (evn e0)) hs0 ?_
  refine tkH (i := 2) (d := 40) (v := .pointer (some ⟨g, 0, none⟩)) rfl rfl (y_nil (by simp [Region.wanted]) (.tmp 39) rfl _ (ev_eq _ _ (by simp [put_sz, sz]))) hs0 ?_
  refine tkH (i := 3) (d := 41) (v := .pointer (some ⟨g, 67, none⟩)) rfl rfl (y_chain3 (by simp [Region.wanted]) (.tmp 40) rfl g (ev_eq _ _ (by simp [put_sz, sz]))) hs0 ?_
  refine tkH (i := 5) (d := 43) (v := .agg (eVals e).toArray) rfl rfl (y_loadE (by simp [Region.wanted]) (.tmp 11) rfl E 0 e (evn (evn (evn (evn e11)))) (fun V hV => range_mid (A := []) (C := []) hV 0 rfl)) hs0 ?_
  refine wpAnyH_all (rs := [4, 6]) (by kernel_rfl) (by simp) fun i1 hm1 => ?_
  have hn1 : i1 = 4 ∨ i1 = 6 := by simpa using hm1
  clear hm1
  rcases hn1 with rfl | rfl
  · refine YieldsIf.wpOp rfl (y_loadH (S := fun V => V.rangeAt g 67 (cellsOf c.hd)) (by simp [Region.wanted]) (.tmp 41) rfl g 67 c.hd lens.lh (evn (ev_eq _ _ (by simp [put_sz, sz]))) (fun V hV => hV)) (H0.rh lens) ⟨hs0, ?_⟩
    show wpAnyH _ _ _ _ _ _ _ ((((((A.put (some 38) (.pointer (some ⟨g, 0, none⟩))).put (some 39) (.pointer (some ⟨g, 0, none⟩))).put (some 40) (.pointer (some ⟨g, 0, none⟩))).put (some 41) (.pointer (some ⟨g, 67, none⟩))).put (some 43) (.agg (eVals e).toArray)).put (some 42) (.agg (bvs c.hd))) _
    refine wpAnyH_all (rs := [6]) (by kernel_rfl) (by simp) fun i2 hm2 => ?_
    obtain rfl : i2 = 6 := by simpa using hm2
    refine wpOp_own rfl rfl fun K2 hK2 => ?_
    refine wp_calls1 61 hf_bytesOf (.tmp 43) _ rfl (.agg (eVals e).toArray) (evn (ev_eq _ _ (by simp [put_sz, sz]))) ?_
    refine (bytesOf_any V0 e hn ht h12 h30 hT).mono ?_
    rintro _ V1 ⟨aC, cC, rfl, hby, hb1, hcC⟩
    have hs1 := (hb1.block E (heap_lt hs0)).trans hs0
    have H1 := H0.below hb1
    refine ⟨_, rfl, hK2 _ _ ⟨hs1, ?_⟩⟩
    clear hK2 K2 hm2
    show wpAnyH _ _ _ _ _ _ _ (((((((A.put (some 38) (.pointer (some ⟨g, 0, none⟩))).put (some 39) (.pointer (some ⟨g, 0, none⟩))).put (some 40) (.pointer (some ⟨g, 0, none⟩))).put (some 41) (.pointer (some ⟨g, 67, none⟩))).put (some 43) (.agg (eVals e).toArray)).put (some 42) (.agg (bvs c.hd))).put (some 44) (.slice aC (evB e).length cC)) _
    obtain ⟨A3, hA3⟩ : ∃ A3, A3 = (((((((A.put (some 38) (.pointer (some ⟨g, 0, none⟩))).put (some 39) (.pointer (some ⟨g, 0, none⟩))).put (some 40) (.pointer (some ⟨g, 0, none⟩))).put (some 41) (.pointer (some ⟨g, 67, none⟩))).put (some 43) (.agg (eVals e).toArray)).put (some 42) (.agg (bvs c.hd))).put (some 44) (.slice aC (evB e).length cC)) := ⟨_, rfl⟩
    have szA3 : A3.tmps.size = 53 := by rw [hA3]; simp [put_sz, sz]
    have eA338 : A3.eval (.tmp 38) = .pointer (some ⟨g, 0, none⟩) := by rw [hA3]; exact (evn (evn (evn (evn (evn (evn (ev_eq _ _ (by simp [sz]))))))))
    have eA342 : A3.eval (.tmp 42) = .agg (bvs c.hd) := by rw [hA3]; exact (evn (ev_eq _ _ (by simp [put_sz, sz])))
    have eA344 : A3.eval (.tmp 44) = .slice aC (evB e).length cC := by rw [hA3]; exact (ev_eq _ _ (by simp [put_sz, sz]))
    rw [← hA3]
    refine wpAnyH_all (rs := [7]) (by kernel_rfl) (by simp) fun i3 hm3 => ?_
    obtain rfl : i3 = 7 := by simpa using hm3
    refine wpOp_own rfl rfl fun K3 hK3 => ?_
    refine wp_calls2 60 hf_chain (.tmp 42) (.tmp 44) _ rfl (.agg (bvs c.hd)) (.slice aC (evB e).length cC) eA342 eA344 ?_
    refine (chain_any (w := V1) (h := c.hd) (H := bvs c.hd) ⟨rfl, lens.lh⟩ (evB e) aC (evB e).length cC rfl hby (by have := evB_bound e; omega) hcC (hK.below hb1)).mono ?_
    rintro _ V2 ⟨O, rfl, hO, hb2⟩
    obtain rfl : O = bvs (nextH c.hd e) := hO.out.eq
    have hs2 := (hb2.block E (heap_lt hs1)).trans hs1
    have H2 := H1.below hb2
    refine ⟨_, rfl, hK3 _ _ ⟨hs2, ?_⟩⟩
    clear hK3 K3 hm3
    show wpAnyH _ _ _ _ _ _ _ (A3.put (some 45) (.agg (bvs (nextH c.hd e)))) _
    refine tkH (i := 8) (d := 46) (v := .pointer (some ⟨g, 0, none⟩)) rfl rfl (y_nil (by simp [Region.wanted]) (.tmp 38) rfl _ (evn eA338)) hs2 ?_
    refine tkH (i := 9) (d := 47) (v := .pointer (some ⟨g, 67, none⟩)) rfl rfl (y_chain3 (by simp [Region.wanted]) (.tmp 46) rfl g (ev_eq _ _ (by simp [put_sz, szA3]))) hs2 ?_
    refine wpAnyH_all (rs := [10]) (by kernel_rfl) (by simp) fun i4 hm4 => ?_
    obtain rfl : i4 = 10 := by simpa using hm4
    refine wpOp_own rfl rfl fun K4 hK4 => ?_
    refine wp_store_mid 69 (.tmp 47) (.tmp 45) rfl g 67 (bvs (nextH c.hd e)) (ev_eq _ _ (by simp [put_sz, szA3])) (evn (evn (ev_eq _ _ (by simp [szA3])))) (by rw [bvs_size, nextH_length]; exact H2.there lens 67 32 (by omega)) (by rw [bvs_size, nextH_length]; exact size_hash) (bvs_one _) ?_
    rw [show (bvs (nextH c.hd e)).toList = cellsOf (nextH c.hd e) from rfl]
    have hs3 : (V2.setCells g 67 (cellsOf (nextH c.hd e))).heap[E]? = some (.cells (eVals e).toArray 55 (0, 0)) := (other_setCells g E hEg _ _ _).trans hs2
    refine hK4 _ _ ⟨hs3, wpAnyH_done (by kernel_rfl) ⟨rfl, aC, cC, ?_, H2.setHd lens _ (nextH_length _ _), hs3, Out.setCells (P := fun x => x = g) g rfl _ _ _ ((Out.of_below (P := fun x => x = g) hb1).on hb2)⟩ _⟩
    show (((A3.put (some 45) (.agg (bvs (nextH c.hd e)))).put (some 46) (.pointer (some ⟨g, 0, none⟩))).put (some 47) (.pointer (some ⟨g, 67, none⟩))) = _
    rw [hA3]
  · refine wpOp_own rfl rfl fun K2 hK2 => ?_
    refine wp_calls1 61 hf_bytesOf (.tmp 43) _ rfl (.agg (eVals e).toArray) (ev_eq _ _ (by simp [put_sz, sz])) ?_
    refine (bytesOf_any V0 e hn ht h12 h30 hT).mono ?_
    rintro _ V1 ⟨aC, cC, rfl, hby, hb1, hcC⟩
    have hs1 := (hb1.block E (heap_lt hs0)).trans hs0
    have H1 := H0.below hb1
    refine ⟨_, rfl, hK2 _ _ ⟨hs1, ?_⟩⟩
    clear hK2 K2
    show wpAnyH _ _ _ _ _ _ _ ((((((A.put (some 38) (.pointer (some ⟨g, 0, none⟩))).put (some 39) (.pointer (some ⟨g, 0, none⟩))).put (some 40) (.pointer (some ⟨g, 0, none⟩))).put (some 41) (.pointer (some ⟨g, 67, none⟩))).put (some 43) (.agg (eVals e).toArray)).put (some 44) (.slice aC (evB e).length cC)) _
    refine wpAnyH_all (rs := [4]) (by kernel_rfl) (by simp) fun i3 hm3 => ?_
    obtain rfl : i3 = 4 := by simpa using hm3
    refine YieldsIf.wpOp rfl (y_loadH (S := fun V => V.rangeAt g 67 (cellsOf c.hd)) (by simp [Region.wanted]) (.tmp 41) rfl g 67 c.hd lens.lh (evn (evn (ev_eq _ _ (by simp [put_sz, sz])))) (fun V hV => hV)) (H1.rh lens) ⟨hs1, ?_⟩
    show wpAnyH _ _ _ _ _ _ _ (((((((A.put (some 38) (.pointer (some ⟨g, 0, none⟩))).put (some 39) (.pointer (some ⟨g, 0, none⟩))).put (some 40) (.pointer (some ⟨g, 0, none⟩))).put (some 41) (.pointer (some ⟨g, 67, none⟩))).put (some 43) (.agg (eVals e).toArray)).put (some 44) (.slice aC (evB e).length cC)).put (some 42) (.agg (bvs c.hd))) _
    obtain ⟨A3, hA3⟩ : ∃ A3, A3 = (((((((A.put (some 38) (.pointer (some ⟨g, 0, none⟩))).put (some 39) (.pointer (some ⟨g, 0, none⟩))).put (some 40) (.pointer (some ⟨g, 0, none⟩))).put (some 41) (.pointer (some ⟨g, 67, none⟩))).put (some 43) (.agg (eVals e).toArray)).put (some 44) (.slice aC (evB e).length cC)).put (some 42) (.agg (bvs c.hd))) := ⟨_, rfl⟩
    have szA3 : A3.tmps.size = 53 := by rw [hA3]; simp [put_sz, sz]
    have eA338 : A3.eval (.tmp 38) = .pointer (some ⟨g, 0, none⟩) := by rw [hA3]; exact (evn (evn (evn (evn (evn (evn (ev_eq _ _ (by simp [sz]))))))))
    have eA342 : A3.eval (.tmp 42) = .agg (bvs c.hd) := by rw [hA3]; exact (ev_eq _ _ (by simp [put_sz, sz]))
    have eA344 : A3.eval (.tmp 44) = .slice aC (evB e).length cC := by rw [hA3]; exact (evn (ev_eq _ _ (by simp [put_sz, sz])))
    rw [← hA3]
    refine wpAnyH_all (rs := [7]) (by kernel_rfl) (by simp) fun i4 hm4 => ?_
    obtain rfl : i4 = 7 := by simpa using hm4
    refine wpOp_own rfl rfl fun K4 hK4 => ?_
    refine wp_calls2 60 hf_chain (.tmp 42) (.tmp 44) _ rfl (.agg (bvs c.hd)) (.slice aC (evB e).length cC) eA342 eA344 ?_
    refine (chain_any (w := V1) (h := c.hd) (H := bvs c.hd) ⟨rfl, lens.lh⟩ (evB e) aC (evB e).length cC rfl hby (by have := evB_bound e; omega) hcC (hK.below hb1)).mono ?_
    rintro _ V2 ⟨O, rfl, hO, hb2⟩
    obtain rfl : O = bvs (nextH c.hd e) := hO.out.eq
    have hs2 := (hb2.block E (heap_lt hs1)).trans hs1
    have H2 := H1.below hb2
    refine ⟨_, rfl, hK4 _ _ ⟨hs2, ?_⟩⟩
    clear hK4 K4 hm4
    show wpAnyH _ _ _ _ _ _ _ (A3.put (some 45) (.agg (bvs (nextH c.hd e)))) _
    refine tkH (i := 8) (d := 46) (v := .pointer (some ⟨g, 0, none⟩)) rfl rfl (y_nil (by simp [Region.wanted]) (.tmp 38) rfl _ (evn eA338)) hs2 ?_
    refine tkH (i := 9) (d := 47) (v := .pointer (some ⟨g, 67, none⟩)) rfl rfl (y_chain3 (by simp [Region.wanted]) (.tmp 46) rfl g (ev_eq _ _ (by simp [put_sz, szA3]))) hs2 ?_
    refine wpAnyH_all (rs := [10]) (by kernel_rfl) (by simp) fun i5 hm5 => ?_
    obtain rfl : i5 = 10 := by simpa using hm5
    refine wpOp_own rfl rfl fun K5 hK5 => ?_
    refine wp_store_mid 69 (.tmp 47) (.tmp 45) rfl g 67 (bvs (nextH c.hd e)) (ev_eq _ _ (by simp [put_sz, szA3])) (evn (evn (ev_eq _ _ (by simp [szA3])))) (by rw [bvs_size, nextH_length]; exact H2.there lens 67 32 (by omega)) (by rw [bvs_size, nextH_length]; exact size_hash) (bvs_one _) ?_
    rw [show (bvs (nextH c.hd e)).toList = cellsOf (nextH c.hd e) from rfl]
    have hs3 : (V2.setCells g 67 (cellsOf (nextH c.hd e))).heap[E]? = some (.cells (eVals e).toArray 55 (0, 0)) := (other_setCells g E hEg _ _ _).trans hs2
    refine hK5 _ _ ⟨hs3, wpAnyH_done (by kernel_rfl) ⟨rfl, aC, cC, ?_, H2.setHd lens _ (nextH_length _ _), hs3, Out.setCells (P := fun x => x = g) g rfl _ _ _ ((Out.of_below (P := fun x => x = g) hb1).on hb2)⟩ _⟩
    show (((A3.put (some 45) (.agg (bvs (nextH c.hd e)))).put (some 46) (.pointer (some ⟨g, 0, none⟩))).put (some 47) (.pointer (some ⟨g, 67, none⟩))) = _
    rw [hA3, put_swap (d := 44) (e := 42) _ (by decide)]
end Go.Proofs.YthfmpebgmojcaaaDoor
