/- YthnciogaibhmcaaDoorARCh + YthnciogaibhmcaaDoorARAt + YthnciogaibhmcaaDoorARAnc + YthnciogaibhmcaaDoorARVer + YthnciogaibhmcaaDoorARPrune + YthnciogaibhmcaaDoorARAdd6 + YthnciogaibhmcaaDoorARAddE + YthnciogaibhmcaaDoorARAdd -/
import Derived.Test.YthnciogaibhmcaaDoorARChain
import Derived.Test.YthnciogaibhmcaaDoorAPrune
import Derived.Test.YthnciogaibhmcaaDoorAVer
/- The reference's chain in memory: base, anchor, last, three hashes and the row of events. -/
namespace Go.Proofs.YthnciogaibhmcaaDoor
open Go.RowKit
set_option linter.unusedVariables false
set_option maxRecDepth 20000

def rfnums (c : Ch) : List Value := [.int .i64 (c.bn : Int), .int .i64 (c.an : Int), .int .i64 (c.la : Int)]
def rfcells (c : Ch) (v : Value) : List Value := rfnums c ++ (cellsOf c.bh ++ (cellsOf c.ah ++ (cellsOf c.hd ++ [v])))
structure RAt (w : World) (B g : Nat) (v : Value) (c : Ch) : Prop where
  obj : w.heap[g]? = some (.cells (rfcells c v).toArray 58 (0, 0))
  row : w.ownsRow B 60 4 v c.ev.length (eCells c.ev)
  bg : B ≤ g
section
variable {w w' : World} {B g : Nat} {v : Value} {c : Ch}
theorem RAt.lt (h : RAt w B g v c) : g < w.heap.size := (Array.getElem?_eq_some_iff.1 h.obj).1
theorem RAt.val (h : RAt w B g v c) : ∃ a cap, v = .slice a c.ev.length cap := by
  rcases h.row.2 with ⟨rfl, h0⟩ | ⟨k, cap, cur, rfl, _⟩
  · exact ⟨none, 0, by rw [h0]⟩
  · exact ⟨_, cap, rfl⟩
theorem RAt.lts (h : RAt w B g v c) : ∀ k, v.ownBlock = some k → B ≤ k ∧ k < w.heap.size := fun k hk => h.row.lt k hk
theorem RAt.ne (h : RAt w B g v c) : ∀ k, v.ownBlock = some k → k ≠ g := by
  rintro k hk rfl
  rcases h.row.2 with ⟨rfl, _⟩ | ⟨j, cap, cur, rfl, hb, hj, r⟩
  · cases hk
  · cases hk
    have := h.obj
    rw [hj] at this
    injection this with this
    injection this with _ this
    exact absurd this (by decide)
theorem RAt.c0 (h : RAt w B g v c) : w.cell? ⟨g, 0, none⟩ = some (.int .i64 (c.bn : Int)) := cell_mid (A := []) h.obj 0 rfl
theorem RAt.c1 (h : RAt w B g v c) : w.cell? ⟨g, 1, none⟩ = some (.int .i64 (c.an : Int)) := cell_mid (A := [.int .i64 (c.bn : Int)]) h.obj 1 rfl
theorem RAt.c2 (h : RAt w B g v c) : w.cell? ⟨g, 2, none⟩ = some (.int .i64 (c.la : Int)) := cell_mid (A := [.int .i64 (c.bn : Int), .int .i64 (c.an : Int)]) h.obj 2 rfl
theorem RAt.rb (h : RAt w B g v c) : w.rangeAt g 3 (cellsOf c.bh) := range_mid (A := rfnums c) h.obj 3 rfl
theorem rfcells_ah (c : Ch) (v : Value) : rfcells c v = (rfnums c ++ cellsOf c.bh) ++ (cellsOf c.ah ++ (cellsOf c.hd ++ [v])) := by simp [rfcells]
theorem rfcells_hd (c : Ch) (v : Value) : rfcells c v = (rfnums c ++ (cellsOf c.bh ++ cellsOf c.ah)) ++ (cellsOf c.hd ++ [v]) := by simp [rfcells]
theorem rfcells_v (c : Ch) (v : Value) : rfcells c v = (rfnums c ++ (cellsOf c.bh ++ (cellsOf c.ah ++ cellsOf c.hd))) ++ (v :: []) := by simp [rfcells]
theorem RAt.ra (h : RAt w B g v c) (ok : Lens c) : w.rangeAt g 35 (cellsOf c.ah) := by
  have h0 := h.obj
  rw [rfcells_ah] at h0
  exact range_mid h0 35 (by simp [rfnums, cellsOf_length, ok.lb])
theorem RAt.rh (h : RAt w B g v c) (ok : Lens c) : w.rangeAt g 67 (cellsOf c.hd) := by
  have h0 := h.obj
  rw [rfcells_hd] at h0
  exact range_mid h0 67 (by simp [rfnums, cellsOf_length, ok.lb, ok.lan])
theorem RAt.c99 (h : RAt w B g v c) (ok : Lens c) : w.cell? ⟨g, 99, none⟩ = some v := by
  have h0 := h.obj
  rw [rfcells_v] at h0
  exact cell_mid h0 99 (by simp [rfnums, cellsOf_length, ok.lb, ok.lan, ok.lh])
theorem rfcells_length (ok : Lens c) (v : Value) : (rfcells c v).length = 100 := by simp [rfcells, rfnums, cellsOf_length, ok.lb, ok.lan, ok.lh]
theorem RAt.there (h : RAt w B g v c) (ok : Lens c) (o n : Nat) (ho : o + n ≤ 100) : w.there g o n := there_row h.obj o n (by rw [rfcells_length ok]; exact ho)
theorem RAt.fz (h : RAt w B g v c) (o : Nat) : w.frozen? ⟨g, o, none⟩ = false := frozen_of_row _ _ _ _ _ h.obj
theorem RAt.keep (h : RAt w B g v c) (hg : w'.heap[g]? = w.heap[g]?) (hv : ∀ k, v.ownBlock = some k → w'.heap[k]? = w.heap[k]?) : RAt w' B g v c := by
  refine ⟨hg.trans h.obj, ⟨h.row.1, ?_⟩, h.bg⟩
  rcases h.row.2 with h0 | ⟨k, cap, cur, rfl, hb, hk, r⟩
  · exact .inl h0
  · exact .inr ⟨k, cap, cur, rfl, hb, (hv k rfl).trans hk, r⟩
theorem RAt.below (h : RAt w B g v c) (hb : Below w.heap.size w w') : RAt w' B g v c := h.keep (hb.block g h.lt) (fun k hk => hb.block k (h.lts k hk).2)
theorem RAt.out {P : Nat → Prop} (h : RAt w B g v c) (ho : Out P w w') (hg : ¬ P g) (hv : ∀ k, v.ownBlock = some k → ¬ P k) : RAt w' B g v c := h.keep (ho.block g h.lt hg) (fun k hk => ho.block k (h.lts k hk).2 (hv k hk))
theorem RAt.mono (h : RAt w B g v c) {B' : Nat} (hB : B' ≤ B) : RAt w B' g v c := by
  refine ⟨h.obj, ⟨h.row.1, ?_⟩, Nat.le_trans hB h.bg⟩
  rcases h.row.2 with h0 | ⟨k, cap, cur, rfl, hb, r⟩
  · exact .inl h0
  · exact .inr ⟨k, cap, cur, rfl, Nat.le_trans hB hb, r⟩
theorem RAt.row_set (h : RAt w B g v c) (o : Nat) (vs : List Value) : (w.setCells g o vs).ownsRow B 60 4 v c.ev.length (eCells c.ev) := by
  refine ⟨h.row.1, ?_⟩
  have hne := h.ne
  rcases h.row.2 with h0 | ⟨k, cap, cur, rfl, hb, hk, r⟩
  · exact .inl h0
  · exact .inr ⟨k, cap, cur, rfl, hb, (other_setCells g k (hne k rfl) vs o w).trans hk, r⟩
theorem RAt.setHd (h : RAt w B g v c) (ok : Lens c) (l : List UInt8) (hl : l.length = 32) : RAt (w.setCells g 67 (cellsOf l)) B g v { c with hd := l } := by
  refine ⟨?_, h.row_set _ _, h.bg⟩
  rw [heap_setCells_same g _ (cellsOf l) 67 w _ h.obj (by rw [rfcells_length ok, cellsOf_length, hl]; omega), rfcells_hd, rfcells_hd, splice_mid _ _ _ _ (by simp [cellsOf, hl, ok.lh]) 67 (by simp [rfnums, cellsOf_length, ok.lb, ok.lan])]
  rfl
theorem RAt.setAh (h : RAt w B g v c) (ok : Lens c) (l : List UInt8) (hl : l.length = 32) : RAt (w.setCells g 35 (cellsOf l)) B g v { c with ah := l } := by
  refine ⟨?_, h.row_set _ _, h.bg⟩
  rw [heap_setCells_same g _ (cellsOf l) 35 w _ h.obj (by rw [rfcells_length ok, cellsOf_length, hl]; omega), rfcells_ah, rfcells_ah, splice_mid _ _ _ _ (by simp [cellsOf, hl, ok.lan]) 35 (by simp [rfnums, cellsOf_length, ok.lb])]
  rfl
theorem RAt.setBh (h : RAt w B g v c) (ok : Lens c) (l : List UInt8) (hl : l.length = 32) : RAt (w.setCells g 3 (cellsOf l)) B g v { c with bh := l } := by
  refine ⟨?_, h.row_set _ _, h.bg⟩
  rw [heap_setCells_same g _ (cellsOf l) 3 w _ h.obj (by rw [rfcells_length ok, cellsOf_length, hl]; omega)]
  unfold rfcells
  rw [splice_mid _ _ _ _ (by simp [cellsOf, hl, ok.lb]) 3 (by simp [rfnums])]
  rfl
theorem RAt.setBn (h : RAt w B g v c) (n : Nat) : RAt (w.setCell ⟨g, 0, none⟩ (.int .i64 (n : Int))) B g v { c with bn := n } := by
  refine ⟨?_, h.row_set 0 [_], h.bg⟩
  rw [heap_setCell_same w g 0 _ _ _ h.obj, List.setIfInBounds_toArray]
  rfl
theorem RAt.setAn (h : RAt w B g v c) (n : Nat) : RAt (w.setCell ⟨g, 1, none⟩ (.int .i64 (n : Int))) B g v { c with an := n } := by
  refine ⟨?_, h.row_set 1 [_], h.bg⟩
  rw [heap_setCell_same w g 1 _ _ _ h.obj, List.setIfInBounds_toArray]
  rfl
theorem RAt.setLa (h : RAt w B g v c) (n : Nat) : RAt (w.setCell ⟨g, 2, none⟩ (.int .i64 (n : Int))) B g v { c with la := n } := by
  refine ⟨?_, h.row_set 2 [_], h.bg⟩
  rw [heap_setCell_same w g 2 _ _ _ h.obj, List.setIfInBounds_toArray]
  rfl
theorem rfcells_set99 (ok : Lens c) (v u : Value) : (rfcells c v).toArray.setIfInBounds 99 u = (rfcells c u).toArray := by
  rw [List.setIfInBounds_toArray, rfcells_v, rfcells_v, set_mid _ _ _ _ 99 (by simp [rfnums, cellsOf_length, ok.lb, ok.lan, ok.lh])]
/-- another row of events -/
theorem RAt.setV (h : RAt w B g v c) (ok : Lens c) (u : Value) (l : List Ev) (hu : w.ownsRow B 60 4 u l.length (eCells l)) (hne : ∀ k, u.ownBlock = some k → k ≠ g) : RAt (w.setCell ⟨g, 99, none⟩ u) B g u { c with ev := l } := by
  refine ⟨?_, ⟨hu.1, ?_⟩, h.bg⟩
  · rw [heap_setCell_same w g 99 _ _ _ h.obj, rfcells_set99 ok]
    rfl
  · rcases hu.2 with h0 | ⟨k, cap, cur, rfl, hb, hk, r⟩
    · exact .inl h0
    · exact .inr ⟨k, cap, cur, rfl, hb, (heap_setCell_other _ _ _ _ (hne k rfl)).trans hk, r⟩
end
theorem built_rchain : Tryd.prog.built 58 [] = some (rfcells ch0 (.slice none 0 0)).toArray := by kernel_rfl
set_option maxHeartbeats 400000 in
theorem rNew_any (w : World) : Calls Tryd.prog 7 #[] w fun e w' => ∃ g, e = .returned (.pointer (some ⟨g, 0, none⟩)) ∧ RAt w' w.heap.size g (.slice none 0 0) ch0 ∧ Below w.heap.size w w' := by
  have hb := built_rchain
  obtain ⟨Z, hZ⟩ : ∃ Z, Z = (rfcells ch0 (.slice none 0 0)).toArray := ⟨_, rfl⟩
  have HZ := hid hZ
  rw [← hZ] at hb
  clear hZ
  go_enter Tryd.func7, Tryd.ntmps7
  go_wp2_with (with_reducible show Go.wpList _ _ _ _ _ _; refine wpList_build_none rfl 58 rfl Z hb ?_)
  go_ret
  refine ⟨w.heap.size, rfl, ⟨?_, World.ownsRow_nil _ _ _ _, Nat.le_refl _⟩, (Below.refl _ w).alloc (Nat.le_refl _) _⟩
  rw [heap_alloc_new, HZ.out]
set_option maxHeartbeats 400000 in
theorem rCount_any {w : World} {B g : Nat} {v : Value} {c : Ch} (h : RAt w B g v c) (ok : ChOk c) (hc : c.cnt < 1152921504606846976) :
    Calls Tryd.prog 35 #[.pointer (some ⟨g, 0, none⟩)] w fun e w' => e = .returned (.int .i64 (c.cnt : Int)) ∧ Below w.heap.size w w' := by
  obtain ⟨a, cap, rfl⟩ := h.val
  have c0 := h.c0
  have c99 := h.c99 ok.l
  unfold Ch.cnt at hc ⊢
  clear h ok
  generalize c.ev.length = n at *
  generalize c.bn = m at *
  go_enter Tryd.func35, Tryd.ntmps35
  go_wp2
  go_region
  all_goals go_wp2
  all_goals go_ret
  all_goals exact ⟨ret_int (by go_num), (Below.refl _ _).drew⟩
end Go.Proofs.YthnciogaibhmcaaDoor

/- The reference's At: the hash behind the first k events, by a contract. -/
namespace Go.Proofs.YthnciogaibhmcaaDoor
open Go.RowKit
set_option linter.unusedVariables false
set_option maxRecDepth 20000
section
variable {ops : Array Oper} {S : World → Prop} {op : Oper} {a : Act}
theorem y_rf0 (hw : Region.wanted op (yielded ops a.tmps) = true) (x : Operand) (ho : op.op = .fieldAddr 58 x 0) (g : Nat) (hx : a.eval x = .pointer (some ⟨g, 0, none⟩)) : YieldsIf Tryd.prog ops S op (.pointer (some ⟨g, 0, none⟩)) a := by
  refine .inl ⟨hw, fun w _ => ?_⟩
  unfold execOp
  simp only [ho, hx]
  simp [go_sem]
theorem y_rf1 (hw : Region.wanted op (yielded ops a.tmps) = true) (x : Operand) (ho : op.op = .fieldAddr 58 x 1) (g : Nat) (hx : a.eval x = .pointer (some ⟨g, 0, none⟩)) : YieldsIf Tryd.prog ops S op (.pointer (some ⟨g, 1, none⟩)) a := by
  refine .inl ⟨hw, fun w _ => ?_⟩
  unfold execOp
  simp only [ho, hx]
  simp [go_sem]
theorem y_rf2 (hw : Region.wanted op (yielded ops a.tmps) = true) (x : Operand) (ho : op.op = .fieldAddr 58 x 2) (g : Nat) (hx : a.eval x = .pointer (some ⟨g, 0, none⟩)) : YieldsIf Tryd.prog ops S op (.pointer (some ⟨g, 2, none⟩)) a := by
  refine .inl ⟨hw, fun w _ => ?_⟩
  unfold execOp
  simp only [ho, hx]
  simp [go_sem]
theorem y_rf3 (hw : Region.wanted op (yielded ops a.tmps) = true) (x : Operand) (ho : op.op = .fieldAddr 58 x 3) (g : Nat) (hx : a.eval x = .pointer (some ⟨g, 0, none⟩)) : YieldsIf Tryd.prog ops S op (.pointer (some ⟨g, 3, none⟩)) a := by
  refine .inl ⟨hw, fun w _ => ?_⟩
  unfold execOp
  simp only [ho, hx]
  simp [go_sem]
theorem y_rf4 (hw : Region.wanted op (yielded ops a.tmps) = true) (x : Operand) (ho : op.op = .fieldAddr 58 x 4) (g : Nat) (hx : a.eval x = .pointer (some ⟨g, 0, none⟩)) : YieldsIf Tryd.prog ops S op (.pointer (some ⟨g, 35, none⟩)) a := by
  refine .inl ⟨hw, fun w _ => ?_⟩
  unfold execOp
  simp only [ho, hx]
  simp [go_sem]
theorem y_rf5 (hw : Region.wanted op (yielded ops a.tmps) = true) (x : Operand) (ho : op.op = .fieldAddr 58 x 5) (g : Nat) (hx : a.eval x = .pointer (some ⟨g, 0, none⟩)) : YieldsIf Tryd.prog ops S op (.pointer (some ⟨g, 67, none⟩)) a := by
  refine .inl ⟨hw, fun w _ => ?_⟩
  unfold execOp
  simp only [ho, hx]
  simp [go_sem]
theorem y_rf6 (hw : Region.wanted op (yielded ops a.tmps) = true) (x : Operand) (ho : op.op = .fieldAddr 58 x 6) (g : Nat) (hx : a.eval x = .pointer (some ⟨g, 0, none⟩)) : YieldsIf Tryd.prog ops S op (.pointer (some ⟨g, 99, none⟩)) a := by
  refine .inl ⟨hw, fun w _ => ?_⟩
  unfold execOp
  simp only [ho, hx]
  simp [go_sem]
theorem y_idxE (hw : Region.wanted op (yielded ops a.tmps) = true) (x y : Operand) (ho : op.op = .indexAddr 46 x y) (g n c k : Nat) (hx : a.eval x = .slice (some ⟨g, 0, none⟩) n c) (hy : a.eval y = .int .i64 (k : Int)) (hk : k < n) : YieldsIf Tryd.prog ops S op (.pointer (some ⟨g, k * 4, none⟩)) a := by
  refine .inl ⟨hw, fun w _ => ?_⟩
  have h1 : (k : Int) < (n : Int) := by omega
  have h0 : (0 : Int) ≤ (k : Int) := by omega
  unfold execOp
  simp only [ho, hx, hy]
  simp [go_sem, h0, h1]
end
theorem keep_S {V V' : World} {g b k n0 c0 : Nat} {e : Ev} (h : V.cell? ⟨g, 99, none⟩ = some (.slice (some ⟨b, 0, none⟩) n0 c0) ∧ V.rangeAt b (k * 4) (eVals e)) (hb : Below V.heap.size V V') (hg : g < V.heap.size) (hbl : b < V.heap.size) : V'.cell? ⟨g, 99, none⟩ = some (.slice (some ⟨b, 0, none⟩) n0 c0) ∧ V'.rangeAt b (k * 4) (eVals e) :=
  ⟨(hb.cell (p := ⟨g, 99, none⟩) hg).trans h.1, fun j u hj => (hb.cell (p := ⟨b, k * 4 + j, none⟩) hbl).trans (h.2 j u hj)⟩
theorem set_S {V : World} {g b k n0 c0 L : Nat} {e : Ev} {O : Array Value} (h : V.cell? ⟨g, 99, none⟩ = some (.slice (some ⟨b, 0, none⟩) n0 c0) ∧ V.rangeAt b (k * 4) (eVals e)) (hg : g ≠ L) (hbl : b ≠ L) : (V.setRow L O).cell? ⟨g, 99, none⟩ = some (.slice (some ⟨b, 0, none⟩) n0 c0) ∧ (V.setRow L O).rangeAt b (k * 4) (eVals e) :=
  ⟨(cell_setRow_other _ _ _ _ hg).trans h.1, fun j u hj => (cell_setRow_other _ _ _ _ hbl).trans (h.2 j u hj)⟩
theorem hf_rbytes : ∀ (args : Array Value) (w : World), (callFunc 51 args).run Tryd.prog w = .ok (.enter 51 args) w := fun args w => by simp [go_sem]
theorem hf_rchain : ∀ (args : Array Value) (w : World), (callFunc 50 args).run Tryd.prog w = .ok (.enter 50 args) w := fun args w => by simp [go_sem]
noncomputable def codeRAt (n : Nat) : Code := ((Tryd.f21.body.bind (regionAt n)).getD .skip)

set_option maxHeartbeats 2000000 in
theorem rAt_region5 {V0 W5 : World} {g b k n0 c0 L : Nat} {h : List UInt8} {e : Ev} {A : Act} (sz : A.tmps.size = 27) (e0 : A.eval (.tmp 0) = .pointer (some ⟨g, 0, none⟩)) (e5 : A.eval (.tmp 5) = .pointer (some ⟨L, 0, none⟩)) (e6 : A.eval (.tmp 6) = .int .i64 (k : Int))
    (hV0 : V0 = W5.drew) (hh : h.length = 32) (ha0 : V0.heap[L]? = some (.cells (bvs h) 49 (0, 0))) (hs0 : V0.cell? ⟨g, 99, none⟩ = some (.slice (some ⟨b, 0, none⟩) n0 c0) ∧ V0.rangeAt b (k * 4) (eVals e)) (hkn : k < n0) (hgl : g < V0.heap.size) (hbl : b < V0.heap.size) (hgL : g ≠ L) (hbL : b ≠ L)
    (hn : e.num ≤ 4611686018427387904) (ht : e.tim ≤ 4611686018427387904) (h12 : e.what.size ≤ 12) (h30 : e.who.size ≤ 30) :
    (codeRAt 5).wp Tryd.prog (fun x a V => x = .normal ∧ ∃ aC cC, a = ((((((((((A.put (some 17) (.pointer (some ⟨g, 0, none⟩))).put (some 18) (.pointer (some ⟨g, 0, none⟩))).put (some 19) (.pointer (some ⟨g, 99, none⟩))).put (some 20) (.slice (some ⟨b, 0, none⟩) n0 c0)).put (some 21) (.int .i64 (k : Int))).put (some 22) (.pointer (some ⟨b, k * 4, none⟩))).put (some 23) (.agg (eVals e).toArray)).put (some 16) (.agg (bvs h))).put (some 24) (.slice aC (evB e).length cC)).put (some 25) (.agg (bvs (nextH h e)))) ∧
      V.heap[L]? = some (.cells (bvs (nextH h e)) 49 (0, 0)) ∧ Out (fun k => k = L) V0 V) A W5 := by
  have hm : Tryd.prog.follows .mixedOrders = true := by kernel_rfl
  unfold codeRAt
  conv => arg 2; whnf
  refine wp_region_held (S := fun V => V.cell? ⟨g, 99, none⟩ = some (.slice (some ⟨b, 0, none⟩) n0 c0) ∧ V.rangeAt b (k * 4) (eVals e)) hm ?_
  rw [show ({ W5 with drawn := W5.drawn + 1 } : World) = V0 from hV0.symm]
  refine wpAnyH_take (i := 1) (v := .pointer (some ⟨g, 0, none⟩)) rfl (by kernel_rfl) (by kernel_rfl) (by kernel_rfl) (fun _ _ _ h => nomatch h.1) (yields_move (by simp [Region.wanted]) (.tmp 0) rfl _ e0) hs0 ?_
  show wpAnyH _ _ _ _ _ _ _ (A.put (some 17) (.pointer (some ⟨g, 0, none⟩))) _
  refine wpAnyH_take (i := 2) (v := .pointer (some ⟨g, 0, none⟩)) rfl (by kernel_rfl) (by kernel_rfl) (by kernel_rfl) (fun _ _ _ h => nomatch h.1) (y_nil (by simp [Region.wanted]) (.tmp 17) rfl _ (ev_eq _ _ (by simp [sz]))) hs0 ?_
  show wpAnyH _ _ _ _ _ _ _ ((A.put (some 17) (.pointer (some ⟨g, 0, none⟩))).put (some 18) (.pointer (some ⟨g, 0, none⟩))) _
  refine wpAnyH_take (i := 3) (v := .pointer (some ⟨g, 99, none⟩)) rfl (by kernel_rfl) (by kernel_rfl) (by kernel_rfl) (fun _ _ _ h => nomatch h.1) (y_rf6 (by simp [Region.wanted]) (.tmp 18) rfl g (ev_eq _ _ (by simp [put_sz, sz]))) hs0 ?_
  show wpAnyH _ _ _ _ _ _ _ (((A.put (some 17) (.pointer (some ⟨g, 0, none⟩))).put (some 18) (.pointer (some ⟨g, 0, none⟩))).put (some 19) (.pointer (some ⟨g, 99, none⟩))) _
  refine wpAnyH_take (i := 4) (v := .slice (some ⟨b, 0, none⟩) n0 c0) rfl (by kernel_rfl) (by kernel_rfl) (by kernel_rfl) (fun _ _ _ h => nomatch h.1) (y_loadV (by simp [Region.wanted]) (.tmp 19) rfl g 99 _ _ _ (ev_eq _ _ (by simp [put_sz, sz])) (fun V hV => hV.1)) hs0 ?_
  show wpAnyH _ _ _ _ _ _ _ ((((A.put (some 17) (.pointer (some ⟨g, 0, none⟩))).put (some 18) (.pointer (some ⟨g, 0, none⟩))).put (some 19) (.pointer (some ⟨g, 99, none⟩))).put (some 20) (.slice (some ⟨b, 0, none⟩) n0 c0)) _
  refine wpAnyH_take (i := 5) (v := .int .i64 (k : Int)) rfl (by kernel_rfl) (by kernel_rfl) (by kernel_rfl) (fun _ _ _ h => nomatch h.1) (yields_move (by simp [Region.wanted]) (.tmp 6) rfl _ ((ev_ne _ _ (by decide)).trans ((ev_ne _ _ (by decide)).trans ((ev_ne _ _ (by decide)).trans ((ev_ne _ _ (by decide)).trans e6))))) hs0 ?_
  show wpAnyH _ _ _ _ _ _ _ (((((A.put (some 17) (.pointer (some ⟨g, 0, none⟩))).put (some 18) (.pointer (some ⟨g, 0, none⟩))).put (some 19) (.pointer (some ⟨g, 99, none⟩))).put (some 20) (.slice (some ⟨b, 0, none⟩) n0 c0)).put (some 21) (.int .i64 (k : Int))) _
  refine wpAnyH_take (i := 6) (v := .pointer (some ⟨b, k * 4, none⟩)) rfl (by kernel_rfl) (by kernel_rfl) (by kernel_rfl) (fun _ _ _ h => nomatch h.1) (y_idxE (by simp [Region.wanted]) (.tmp 20) (.tmp 21) rfl b n0 c0 k ((ev_ne _ _ (by decide)).trans (ev_eq _ _ (by simp [put_sz, sz]))) (ev_eq _ _ (by simp [put_sz, sz])) hkn) hs0 ?_
  show wpAnyH _ _ _ _ _ _ _ ((((((A.put (some 17) (.pointer (some ⟨g, 0, none⟩))).put (some 18) (.pointer (some ⟨g, 0, none⟩))).put (some 19) (.pointer (some ⟨g, 99, none⟩))).put (some 20) (.slice (some ⟨b, 0, none⟩) n0 c0)).put (some 21) (.int .i64 (k : Int))).put (some 22) (.pointer (some ⟨b, k * 4, none⟩))) _
  refine wpAnyH_take (i := 7) (v := .agg (eVals e).toArray) rfl (by kernel_rfl) (by kernel_rfl) (by kernel_rfl) (fun _ _ _ h => nomatch h.1) (y_loadE (by simp [Region.wanted]) (.tmp 22) rfl b (k * 4) e (ev_eq _ _ (by simp [put_sz, sz])) (fun V hV => hV.2)) hs0 ?_
  show wpAnyH _ _ _ _ _ _ _ (((((((A.put (some 17) (.pointer (some ⟨g, 0, none⟩))).put (some 18) (.pointer (some ⟨g, 0, none⟩))).put (some 19) (.pointer (some ⟨g, 99, none⟩))).put (some 20) (.slice (some ⟨b, 0, none⟩) n0 c0)).put (some 21) (.int .i64 (k : Int))).put (some 22) (.pointer (some ⟨b, k * 4, none⟩))).put (some 23) (.agg (eVals e).toArray)) _
  refine wpAnyH_all (rs := [0, 8]) (by kernel_rfl) (by simp) fun i1 hm1 => ?_
  have hn1 : i1 = 0 ∨ i1 = 8 := by simpa using hm1
  clear hm1
  rcases hn1 with rfl | rfl
  · refine YieldsIf.wpOp rfl (y_loadH (S := fun V => V.rangeAt L 0 (cellsOf h)) (by simp [Region.wanted]) (.tmp 5) rfl L 0 h hh ((ev_ne _ _ (by decide)).trans ((ev_ne _ _ (by decide)).trans ((ev_ne _ _ (by decide)).trans ((ev_ne _ _ (by decide)).trans ((ev_ne _ _ (by decide)).trans ((ev_ne _ _ (by decide)).trans ((ev_ne _ _ (by decide)).trans e5))))))) (fun V hV => hV)) (range_whole ha0) ⟨hs0, ?_⟩
    show wpAnyH _ _ _ _ _ _ _ ((((((((A.put (some 17) (.pointer (some ⟨g, 0, none⟩))).put (some 18) (.pointer (some ⟨g, 0, none⟩))).put (some 19) (.pointer (some ⟨g, 99, none⟩))).put (some 20) (.slice (some ⟨b, 0, none⟩) n0 c0)).put (some 21) (.int .i64 (k : Int))).put (some 22) (.pointer (some ⟨b, k * 4, none⟩))).put (some 23) (.agg (eVals e).toArray)).put (some 16) (.agg (bvs h))) _
    refine wpAnyH_all (rs := [8]) (by kernel_rfl) (by simp) fun i2 hm2 => ?_
    obtain rfl : i2 = 8 := by simpa using hm2
    refine wpOp_own rfl rfl fun K2 hK2 => ?_
    refine wp_calls1 51 hf_rbytes (.tmp 23) _ rfl (.agg (eVals e).toArray) ((ev_ne _ _ (by decide)).trans (ev_eq _ _ (by simp [put_sz, sz]))) ?_
    refine (rBytes_any V0 e hn ht h12 h30).mono ?_
    rintro _ V1 ⟨aC, cC, rfl, hby, hb1, hcC, hnC⟩
    have hs1 := keep_S hs0 hb1 hgl hbl
    have ha1 := (hb1.block L (heap_lt ha0)).trans ha0
    refine ⟨_, rfl, hK2 _ _ ⟨hs1, ?_⟩⟩
    clear hK2 K2 hm2
    show wpAnyH _ _ _ _ _ _ _ (((((((((A.put (some 17) (.pointer (some ⟨g, 0, none⟩))).put (some 18) (.pointer (some ⟨g, 0, none⟩))).put (some 19) (.pointer (some ⟨g, 99, none⟩))).put (some 20) (.slice (some ⟨b, 0, none⟩) n0 c0)).put (some 21) (.int .i64 (k : Int))).put (some 22) (.pointer (some ⟨b, k * 4, none⟩))).put (some 23) (.agg (eVals e).toArray)).put (some 16) (.agg (bvs h))).put (some 24) (.slice aC (evB e).length cC)) _
    obtain ⟨A3, hA3⟩ : ∃ A3, A3 = (((((((((A.put (some 17) (.pointer (some ⟨g, 0, none⟩))).put (some 18) (.pointer (some ⟨g, 0, none⟩))).put (some 19) (.pointer (some ⟨g, 99, none⟩))).put (some 20) (.slice (some ⟨b, 0, none⟩) n0 c0)).put (some 21) (.int .i64 (k : Int))).put (some 22) (.pointer (some ⟨b, k * 4, none⟩))).put (some 23) (.agg (eVals e).toArray)).put (some 16) (.agg (bvs h))).put (some 24) (.slice aC (evB e).length cC)) := ⟨_, rfl⟩
    have szA3 : A3.tmps.size = 27 := by rw [hA3]; simp [put_sz, sz]
    have eA35 : A3.eval (.tmp 5) = .pointer (some ⟨L, 0, none⟩) := by rw [hA3]; exact ((ev_ne _ _ (by decide)).trans ((ev_ne _ _ (by decide)).trans ((ev_ne _ _ (by decide)).trans ((ev_ne _ _ (by decide)).trans ((ev_ne _ _ (by decide)).trans ((ev_ne _ _ (by decide)).trans ((ev_ne _ _ (by decide)).trans ((ev_ne _ _ (by decide)).trans ((ev_ne _ _ (by decide)).trans e5)))))))))
    have eA316 : A3.eval (.tmp 16) = .agg (bvs h) := by rw [hA3]; exact ((ev_ne _ _ (by decide)).trans (ev_eq _ _ (by simp [put_sz, sz])))
    have eA324 : A3.eval (.tmp 24) = .slice aC (evB e).length cC := by rw [hA3]; exact (ev_eq _ _ (by simp [put_sz, sz]))
    rw [← hA3]
    refine wpAnyH_all (rs := [9]) (by kernel_rfl) (by simp) fun i3 hm3 => ?_
    obtain rfl : i3 = 9 := by simpa using hm3
    refine wpOp_own rfl rfl fun K3 hK3 => ?_
    refine wp_calls2 50 hf_rchain (.tmp 16) (.tmp 24) _ rfl (.agg (bvs h)) (.slice aC (evB e).length cC) eA316 eA324 ?_
    refine (refChain_any (w := V1) (h := h) (H := bvs h) ⟨rfl, hh⟩ (evB e) aC (evB e).length cC rfl hby (by have := evB_bound e; omega) hnC).mono ?_
    rintro _ V2 ⟨O, rfl, hO, hb2⟩
    obtain rfl : O = bvs (nextH h e) := hO.out.eq
    have hs2 := keep_S hs1 hb2 (Nat.lt_of_lt_of_le hgl hb1.size) (Nat.lt_of_lt_of_le hbl hb1.size)
    have ha2 := (hb2.block L (heap_lt ha1)).trans ha1
    refine ⟨_, rfl, hK3 _ _ ⟨hs2, ?_⟩⟩
    clear hK3 K3 hm3
    show wpAnyH _ _ _ _ _ _ _ (A3.put (some 25) (.agg (bvs (nextH h e)))) _
    refine wpAnyH_all (rs := [10]) (by kernel_rfl) (by simp) fun i4 hm4 => ?_
    obtain rfl : i4 = 10 := by simpa using hm4
    refine wpOp_own rfl rfl fun K4 hK4 => ?_
    refine wp_store_hash (.tmp 5) (.tmp 25) rfl L (bvs (nextH h e)) (bvs h) (l := nextH h e) (m := h) ⟨rfl, nextH_length _ _⟩ ⟨rfl, hh⟩ ((ev_ne _ _ (by decide)).trans eA35) (ev_eq _ _ (by simp [szA3])) ha2 ?_
    have o2 : Out (fun k => k = L) V0 V2 := (Out.of_below hb1).on hb2
    refine hK4 _ _ ⟨set_S hs2 hgL hbL, wpAnyH_done (by kernel_rfl) ⟨rfl, aC, cC, ?_, setRow_heap _ _ _ _ _ _ ha2, ⟨o2.os, o2.tape, o2.output, by rw [size_setRow]; exact o2.size, fun j hj hp => (setRow_other _ _ _ _ hp).trans (o2.block j hj hp)⟩⟩ _⟩
    show (A3.put (some 25) (.agg (bvs (nextH h e)))) = _
    rw [hA3]
  · refine wpOp_own rfl rfl fun K2 hK2 => ?_
    refine wp_calls1 51 hf_rbytes (.tmp 23) _ rfl (.agg (eVals e).toArray) (ev_eq _ _ (by simp [put_sz, sz])) ?_
    refine (rBytes_any V0 e hn ht h12 h30).mono ?_
    rintro _ V1 ⟨aC, cC, rfl, hby, hb1, hcC, hnC⟩
    have hs1 := keep_S hs0 hb1 hgl hbl
    have ha1 := (hb1.block L (heap_lt ha0)).trans ha0
    refine ⟨_, rfl, hK2 _ _ ⟨hs1, ?_⟩⟩
    clear hK2 K2
    show wpAnyH _ _ _ _ _ _ _ ((((((((A.put (some 17) (.pointer (some ⟨g, 0, none⟩))).put (some 18) (.pointer (some ⟨g, 0, none⟩))).put (some 19) (.pointer (some ⟨g, 99, none⟩))).put (some 20) (.slice (some ⟨b, 0, none⟩) n0 c0)).put (some 21) (.int .i64 (k : Int))).put (some 22) (.pointer (some ⟨b, k * 4, none⟩))).put (some 23) (.agg (eVals e).toArray)).put (some 24) (.slice aC (evB e).length cC)) _
    refine wpAnyH_all (rs := [0]) (by kernel_rfl) (by simp) fun i3 hm3 => ?_
    obtain rfl : i3 = 0 := by simpa using hm3
    refine YieldsIf.wpOp rfl (y_loadH (S := fun V => V.rangeAt L 0 (cellsOf h)) (by simp [Region.wanted]) (.tmp 5) rfl L 0 h hh ((ev_ne _ _ (by decide)).trans ((ev_ne _ _ (by decide)).trans ((ev_ne _ _ (by decide)).trans ((ev_ne _ _ (by decide)).trans ((ev_ne _ _ (by decide)).trans ((ev_ne _ _ (by decide)).trans ((ev_ne _ _ (by decide)).trans ((ev_ne _ _ (by decide)).trans e5)))))))) (fun V hV => hV)) (range_whole ha1) ⟨hs1, ?_⟩
    show wpAnyH _ _ _ _ _ _ _ (((((((((A.put (some 17) (.pointer (some ⟨g, 0, none⟩))).put (some 18) (.pointer (some ⟨g, 0, none⟩))).put (some 19) (.pointer (some ⟨g, 99, none⟩))).put (some 20) (.slice (some ⟨b, 0, none⟩) n0 c0)).put (some 21) (.int .i64 (k : Int))).put (some 22) (.pointer (some ⟨b, k * 4, none⟩))).put (some 23) (.agg (eVals e).toArray)).put (some 24) (.slice aC (evB e).length cC)).put (some 16) (.agg (bvs h))) _
    obtain ⟨A3, hA3⟩ : ∃ A3, A3 = (((((((((A.put (some 17) (.pointer (some ⟨g, 0, none⟩))).put (some 18) (.pointer (some ⟨g, 0, none⟩))).put (some 19) (.pointer (some ⟨g, 99, none⟩))).put (some 20) (.slice (some ⟨b, 0, none⟩) n0 c0)).put (some 21) (.int .i64 (k : Int))).put (some 22) (.pointer (some ⟨b, k * 4, none⟩))).put (some 23) (.agg (eVals e).toArray)).put (some 24) (.slice aC (evB e).length cC)).put (some 16) (.agg (bvs h))) := ⟨_, rfl⟩
    have szA3 : A3.tmps.size = 27 := by rw [hA3]; simp [put_sz, sz]
    have eA35 : A3.eval (.tmp 5) = .pointer (some ⟨L, 0, none⟩) := by rw [hA3]; exact ((ev_ne _ _ (by decide)).trans ((ev_ne _ _ (by decide)).trans ((ev_ne _ _ (by decide)).trans ((ev_ne _ _ (by decide)).trans ((ev_ne _ _ (by decide)).trans ((ev_ne _ _ (by decide)).trans ((ev_ne _ _ (by decide)).trans ((ev_ne _ _ (by decide)).trans ((ev_ne _ _ (by decide)).trans e5)))))))))
    have eA316 : A3.eval (.tmp 16) = .agg (bvs h) := by rw [hA3]; exact (ev_eq _ _ (by simp [put_sz, sz]))
    have eA324 : A3.eval (.tmp 24) = .slice aC (evB e).length cC := by rw [hA3]; exact ((ev_ne _ _ (by decide)).trans (ev_eq _ _ (by simp [put_sz, sz])))
    rw [← hA3]
    refine wpAnyH_all (rs := [9]) (by kernel_rfl) (by simp) fun i4 hm4 => ?_
    obtain rfl : i4 = 9 := by simpa using hm4
    refine wpOp_own rfl rfl fun K4 hK4 => ?_
    refine wp_calls2 50 hf_rchain (.tmp 16) (.tmp 24) _ rfl (.agg (bvs h)) (.slice aC (evB e).length cC) eA316 eA324 ?_
    refine (refChain_any (w := V1) (h := h) (H := bvs h) ⟨rfl, hh⟩ (evB e) aC (evB e).length cC rfl hby (by have := evB_bound e; omega) hnC).mono ?_
    rintro _ V2 ⟨O, rfl, hO, hb2⟩
    obtain rfl : O = bvs (nextH h e) := hO.out.eq
    have hs2 := keep_S hs1 hb2 (Nat.lt_of_lt_of_le hgl hb1.size) (Nat.lt_of_lt_of_le hbl hb1.size)
    have ha2 := (hb2.block L (heap_lt ha1)).trans ha1
    refine ⟨_, rfl, hK4 _ _ ⟨hs2, ?_⟩⟩
    clear hK4 K4 hm4
    show wpAnyH _ _ _ _ _ _ _ (A3.put (some 25) (.agg (bvs (nextH h e)))) _
    refine wpAnyH_all (rs := [10]) (by kernel_rfl) (by simp) fun i5 hm5 => ?_
    obtain rfl : i5 = 10 := by simpa using hm5
    refine wpOp_own rfl rfl fun K5 hK5 => ?_
    refine wp_store_hash (.tmp 5) (.tmp 25) rfl L (bvs (nextH h e)) (bvs h) (l := nextH h e) (m := h) ⟨rfl, nextH_length _ _⟩ ⟨rfl, hh⟩ ((ev_ne _ _ (by decide)).trans eA35) (ev_eq _ _ (by simp [szA3])) ha2 ?_
    have o2 : Out (fun k => k = L) V0 V2 := (Out.of_below hb1).on hb2
    refine hK5 _ _ ⟨set_S hs2 hgL hbL, wpAnyH_done (by kernel_rfl) ⟨rfl, aC, cC, ?_, setRow_heap _ _ _ _ _ _ ha2, ⟨o2.os, o2.tape, o2.output, by rw [size_setRow]; exact o2.size, fun j hj hp => (setRow_other _ _ _ _ hp).trans (o2.block j hj hp)⟩⟩ _⟩
    show (A3.put (some 25) (.agg (bvs (nextH h e)))) = _
    rw [hA3, put_swap (d := 24) (e := 16) _ (by decide)]

theorem RAt.row_at {w : World} {B g : Nat} {a0 : Option Addr} {cap : Nat} {c : Ch} (h : RAt w B g (.slice a0 c.ev.length cap) c) (k : Nat) (hk : k < c.ev.length) : ∃ b, a0 = some ⟨b, 0, none⟩ ∧ b < w.heap.size ∧ w.rangeAt b (k * 4) (eVals c.ev[k]) := by
  rcases h.row.2 with ⟨_, h0⟩ | ⟨b, cap', cur, hv, _, hg, _, _, _, ht⟩
  · omega
  · cases hv
    refine ⟨b, rfl, heap_lt hg, fun j u hj => ?_⟩
    have hj4 : j < 4 := (List.getElem?_eq_some_iff.1 hj).1
    rw [cell_of_row _ _ _ _ _ _ hg, ← Array.getElem?_toList]
    have h1 : (cur.toList.take (c.ev.length * 4))[k * 4 + j]? = some u := by rw [ht, eCells_get _ _ hk _ hj4]; exact hj
    rw [List.getElem?_take_of_lt (by omega)] at h1
    exact h1
/-- events that can be told -/
def EvOk (l : List Ev) : Prop := ∀ e ∈ l, e.num ≤ 4611686018427387904 ∧ e.tim ≤ 4611686018427387904 ∧ e.what.size ≤ 12 ∧ e.who.size ≤ 30

set_option maxHeartbeats 2000000 in
theorem rAt_any {w : World} {B g : Nat} {v : Value} {c : Ch} (h : RAt w B g v c) (ok : Lens c) (hev : EvOk c.ev) (hfew : c.ev.length ≤ 1000) (k : Nat) (hk : k ≤ c.ev.length) :
    Calls Tryd.prog 21 #[.pointer (some ⟨g, 0, none⟩), .int .i64 (k : Int)] w fun e w' => e = .returned (.agg (bvs (c.at k))) ∧ Below w.heap.size w w' := by
  obtain ⟨Z, hZ⟩ : ∃ Z, Z = bvs (List.replicate 32 0) := ⟨_, rfl⟩
  have zh := (zero_of_info zero_hash).1
  rw [← hZ] at zh
  have hz : Hid (HV Z zero32) := by
    show HV _ _
    rw [hZ]; exact hv_zero
  have zh := hid zh
  obtain ⟨a0, cap, rfl⟩ := h.val
  have b0 : Below w.heap.size w (w.alloc (.cells Z 49)) := (Below.refl _ w).alloc (Nat.le_refl _) _
  have rb := hid ((h.below b0).rb)
  have H := hid h
  have OK := hid ok
  have hgl : Hid (g < w.heap.size) := h.lt
  have sh := hid (size_hashs c.bh ok.lb)
  have sl := hid (size_hashl c.bh ok.lb)
  have one := hid (bvs_one c.bh)
  have bv : Hid ((cellsOf c.bh).toArray = bvs c.bh) := rfl
  have y0 : Hid (((w.alloc (.cells Z 49)).alloc (.cells Z 49)).heap[w.heap.size]? = some (.cells Z 49 (0, 0))) := heap_alloc2_old w _ _
  have y1 : Hid (((w.alloc (.cells Z 49)).alloc (.cells Z 49)).heap[w.heap.size + 1]? = some (.cells Z 49 (0, 0))) := heap_alloc2_new w _ _
  have y2 : Hid (((w.alloc (.cells Z 49)).alloc (.cells Z 49)).heap[(w.alloc (.cells Z 49)).heap.size]? = some (.cells Z 49 (0, 0))) := heap_alloc_new _ _
  have zs : Hid (Z.size = (bvs c.bh).size) := hz.out.size.trans (HV.size (l := c.bh) ⟨rfl, ok.lb⟩).symm
  have Hat0 : Hid (bvs c.bh = bvs (c.at 0)) := by show _ = _; rw [Ch.at_zero]
  have HEv := hid hev
  have Hb0 : Hid (Below w.heap.size w ((w.alloc (.cells Z 49)).alloc (.cells Z 49))) := ((Below.refl _ w).alloc (Nat.le_refl _) _).alloc (by simp) _
  clear hZ h ok b0 hev
  generalize cellsOf c.bh = Lc at *
  generalize bvs c.bh = O at *
  go_enter Tryd.func21, Tryd.ntmps21
  go_wp2_with (first
    | (with_reducible show Go.wpList _ _ _ _ _ _; refine wpList_alloc_row rfl 49 rfl Z zh.out ?_)
    | (with_reducible show Go.wpList _ _ _ _ _ _; refine wpList_load_mid rfl 49 _ rfl g 3 rfl Lc _ rb.out Tryd.underlying49 rfl sl.out ?_; rw [bv.out])
    | (with_reducible show Go.wpList _ _ _ _ _ _; refine wpList_store_row rfl 49 _ _ rfl (w.alloc (.cells Z 49)).heap.size O rfl rfl 49 Z y2.out sh.out zs.out one.out ?_))
  have x1 := hid (setRow_heap _ _ _ O _ _ y1.out)
  have x0 : Hid ((((w.alloc (.cells Z 49)).alloc (.cells Z 49)).setRow (w.heap.size + 1) O).heap[w.heap.size]? = some (.cells Z 49 (0, 0))) := (setRow_other _ _ _ _ (by omega)).trans y0.out
  have Hb1 := hid (Hb0.out.setRow (g := w.heap.size + 1) (by omega) O)
  clear y0 y1 y2 Hb0 rb sl one bv zs sh
  go_loopw [6] (fun i wr => ∃ j : Nat, j ≤ k ∧ i = .int .i64 (j : Int) ∧ wr.heap[w.heap.size + 1]? = some (.cells (bvs (c.at j)) 49 (0, 0)) ∧ wr.heap[w.heap.size]? = some (.cells Z 49 (0, 0)) ∧ Below w.heap.size w wr) (fun i _ => k - (intOf i).toNat)
  case atStart => exact ⟨0, Nat.zero_le _, rfl, by rw [← Hat0.out]; exact x1.out, x0.out, Hb1.out⟩
  case round =>
    clear x0 x1 Hb1 Hat0
    obtain ⟨j, hj, rfl, hx1, hx0, hbel⟩ := hrel
    have X1 := hid hx1
    have X0 := hid hx0
    have Hbel := hid hbel
    clear hx1 hx0 hbel
    by_cases hlt : j < k
    · have hlt' : (j : Int) < (k : Int) := by omega
      go_wp2_with fail
      obtain ⟨V0, hV0⟩ : ∃ V0, V0 = wr.drew := ⟨_, rfl⟩
      have b1 : Below wr.heap.size wr V0 := by rw [hV0]; exact (Below.refl _ wr).drew
      have bV : Below w.heap.size w V0 := Hbel.out.trans (b1.mono Hbel.out.size)
      have HV := H.out.below bV
      obtain ⟨b, rfl, hbl, hrow⟩ := HV.row_at j (by omega)
      have hbw : b < w.heap.size := (H.out.lts b rfl).2
      have hgw := hgl.out
      have he := HEv.out c.ev[j] (List.getElem_mem _)
      refine wp_act _ fun A hA => ?_
      have sz : A.tmps.size = 27 := by rw [hA]; rfl
      have e0 : A.eval (.tmp 0) = .pointer (some ⟨g, 0, none⟩) := by rw [hA]; rfl
      have e5 : A.eval (.tmp 5) = .pointer (some ⟨w.heap.size + 1, 0, none⟩) := by rw [hA]; simp [Act.eval]
      have e6 : A.eval (.tmp 6) = .int .i64 (j : Int) := by rw [hA]; rfl
      refine wp_split _ (rAt_region5 sz e0 e5 e6 hV0 (endH_length _ _ OK.out.lb) ((b1.block _ (heap_lt X1.out)).trans X1.out) ⟨HV.c99 OK.out, hrow⟩ (by omega) HV.lt hbl (by omega) (by omega) he.1 he.2.1 he.2.2.1 he.2.2.2) ?_
      rintro _ V1 ⟨aC, cC, rfl, hl1, ho1⟩
      rw [hA]
      simp only [Act.put, List.setIfInBounds_toArray, List.set_cons_succ, List.set_cons_zero]
      have hat : Hid (nextH (c.at j) c.ev[j] = c.at (j + 1)) := (Ch.at_succ c j (by omega)).symm
      have L1 : Hid (V1.heap[w.heap.size + 1]? = some (.cells (bvs (c.at (j + 1))) 49 (0, 0))) := by
        show _ = _
        rw [← hat.out]; exact hl1
      have Z1 : Hid (V1.heap[w.heap.size]? = some (.cells Z 49 (0, 0))) := (ho1.block _ (Nat.lt_of_lt_of_le (heap_lt X0.out) b1.size) (by omega)).trans ((b1.block _ (heap_lt X0.out)).trans X0.out)
      have B1 : Hid (Below w.heap.size w V1) := bV.trans (ho1.below bV.size (fun i hi => by omega))
      clear sz e0 e5 e6 hA A hl1 ho1 hat he hrow HV b1 bV hV0 X1 X0 Hbel
      go_wp2_with fail
      go_roundw
      case rel => exact ⟨j + 1, by omega, by go_num, L1.out, Z1.out, B1.out⟩
      case measure => simp [intOf]; omega
    · have hjk : j = k := by omega
      subst hjk
      have hlt' : ¬ (j : Int) < (j : Int) := by omega
      have ll := endH_length c.bh (c.ev.take j) OK.out.lb
      have sh := hid (size_hashs (c.at j) ll)
      have sl := hid (size_hashl (c.at j) ll)
      have zs : Hid (Z.size = (bvs (c.at j)).size) := hz.out.size.trans (HV.size (l := c.at j) ⟨rfl, ll⟩).symm
      have one := hid (bvs_one (c.at j))
      obtain ⟨P, hP⟩ : ∃ P, P = bvs (c.at j) := ⟨_, rfl⟩
      have HP := hid hP
      rw [← hP] at X1 sh zs one
      clear hP
      clear hlt hk
      go_wp2_with (first
        | (with_reducible show Go.wpList _ _ _ _ _ _; refine wpList_load_row rfl 49 _ rfl (w.heap.size + 1) rfl _ _ _ _ X1.out Tryd.underlying49 rfl sh.out ?_)
        | (with_reducible show Go.wpList _ _ _ _ _ _; refine wpList_store_row rfl 49 _ _ rfl w.heap.size P rfl rfl 49 Z X0.out sh.out zs.out one.out ?_))
      refine bodyPost_ret (results_cell_row rfl _ _ w.heap.size 49 P (0, 0) _ rfl (setRow_heap _ _ _ _ _ _ X0.out) Tryd.underlying49 rfl sh.out) rfl ?_
      exact ⟨by rw [HP.out], Hbel.out.setRow (Nat.le_refl _) _⟩
end Go.Proofs.YthnciogaibhmcaaDoor

/- The reference's Anchor, by a contract. -/
namespace Go.Proofs.YthnciogaibhmcaaDoor
open Go.RowKit
set_option linter.unusedVariables false
set_option maxRecDepth 20000
theorem wp_storeN {o : Oper} {a : Act} {w : World} {K : Act → World → Prop} {Q : Exit → Act → World → Prop} (x y : Operand) (ho : o.op = .store 3 x y) (g k : Nat) (n : Int) (u : Value) (hx : a.eval x = .pointer (some ⟨g, k, none⟩)) (hy : a.eval y = .int .i64 n) (h1 : w.cell? ⟨g, k, none⟩ = some u) (h2 : w.frozen? ⟨g, k, none⟩ = false)
    (h : K (a.put o.dst undef) (w.setCell ⟨g, k, none⟩ (.int .i64 n))) : o.wp Tryd.prog a w K Q := by
  unfold Oper.wp execOp
  simp only [ho, hx, hy]
  simp [go_sem, h1, h2]
  exact h
theorem hf_rcount : ∀ (args : Array Value) (w : World), (callFunc 35 args).run Tryd.prog w = .ok (.enter 35 args) w := fun args w => by simp [go_sem]
noncomputable def codeRAnc (n : Nat) : Code := ((Tryd.f29.body.bind (regionAt n)).getD .skip)
set_option maxHeartbeats 2000000 in
theorem rAnchor_region {V0 W5 : World} {B g : Nat} {v : Value} {c : Ch} {A : Act} (sz : A.tmps.size = 27) (e0 : A.eval (.tmp 0) = .pointer (some ⟨g, 0, none⟩))
    (hV0 : V0 = W5.drew) (H0 : RAt V0 B g v c) (ok : ChOk c) (hc : c.cnt < 1152921504606846976) :
    (codeRAnc 3).wp Tryd.prog (fun x a V => x = .normal ∧ a = ((((((((((((A.put (some 7) (.pointer (some ⟨g, 0, none⟩))).put (some 8) (.pointer (some ⟨g, 0, none⟩))).put (some 9) (.pointer (some ⟨g, 0, none⟩))).put (some 11) (.pointer (some ⟨g, 0, none⟩))).put (some 12) (.pointer (some ⟨g, 0, none⟩))).put (some 13) (.pointer (some ⟨g, 67, none⟩))).put (some 14) (.agg (bvs c.hd))).put (some 10) (.int .i64 (c.cnt : Int))).put (some 15) (.pointer (some ⟨g, 0, none⟩))).put (some 16) (.pointer (some ⟨g, 1, none⟩))).put (some 17) (.pointer (some ⟨g, 0, none⟩))).put (some 18) (.pointer (some ⟨g, 35, none⟩))) ∧ RAt V B g v (ancC c) ∧ Out (fun k => k = g) V0 V) A W5 := by
  have hm : Tryd.prog.follows .mixedOrders = true := by kernel_rfl
  unfold codeRAnc
  conv => arg 2; whnf
  refine wp_region_held (S := fun V => V.rangeAt g 67 (cellsOf c.hd)) hm ?_
  rw [show ({ W5 with drawn := W5.drawn + 1 } : World) = V0 from hV0.symm]
  have hs0 : V0.rangeAt g 67 (cellsOf c.hd) := H0.rh ok.l
  refine wpAnyH_take (i := 0) (v := .pointer (some ⟨g, 0, none⟩)) rfl (by kernel_rfl) (by kernel_rfl) (by kernel_rfl) (fun _ _ _ h => nomatch h.1) (yields_move (by simp [Region.wanted]) (.tmp 0) rfl _ e0) hs0 ?_
  show wpAnyH _ _ _ _ _ _ _ (A.put (some 7) (.pointer (some ⟨g, 0, none⟩))) _
  refine wpAnyH_take (i := 1) (v := .pointer (some ⟨g, 0, none⟩)) rfl (by kernel_rfl) (by kernel_rfl) (by kernel_rfl) (fun _ _ _ h => nomatch h.1) (yields_move (by simp [Region.wanted]) (.tmp 0) rfl _ ((ev_ne _ _ (by decide)).trans e0)) hs0 ?_
  show wpAnyH _ _ _ _ _ _ _ ((A.put (some 7) (.pointer (some ⟨g, 0, none⟩))).put (some 8) (.pointer (some ⟨g, 0, none⟩))) _
  refine wpAnyH_take (i := 2) (v := .pointer (some ⟨g, 0, none⟩)) rfl (by kernel_rfl) (by kernel_rfl) (by kernel_rfl) (fun _ _ _ h => nomatch h.1) (yields_move (by simp [Region.wanted]) (.tmp 0) rfl _ ((ev_ne _ _ (by decide)).trans ((ev_ne _ _ (by decide)).trans e0))) hs0 ?_
  show wpAnyH _ _ _ _ _ _ _ (((A.put (some 7) (.pointer (some ⟨g, 0, none⟩))).put (some 8) (.pointer (some ⟨g, 0, none⟩))).put (some 9) (.pointer (some ⟨g, 0, none⟩))) _
  refine wpAnyH_take (i := 4) (v := .pointer (some ⟨g, 0, none⟩)) rfl (by kernel_rfl) (by kernel_rfl) (by kernel_rfl) (fun _ _ _ h => nomatch h.1) (yields_move (by simp [Region.wanted]) (.tmp 0) rfl _ ((ev_ne _ _ (by decide)).trans ((ev_ne _ _ (by decide)).trans ((ev_ne _ _ (by decide)).trans e0)))) hs0 ?_
  show wpAnyH _ _ _ _ _ _ _ ((((A.put (some 7) (.pointer (some ⟨g, 0, none⟩))).put (some 8) (.pointer (some ⟨g, 0, none⟩))).put (some 9) (.pointer (some ⟨g, 0, none⟩))).put (some 11) (.pointer (some ⟨g, 0, none⟩))) _
  refine wpAnyH_take (i := 5) (v := .pointer (some ⟨g, 0, none⟩)) rfl (by kernel_rfl) (by kernel_rfl) (by kernel_rfl) (fun _ _ _ h => nomatch h.1) (y_nil (by simp [Region.wanted]) (.tmp 11) rfl _ (ev_eq _ _ (by simp [put_sz, sz]))) hs0 ?_
  show wpAnyH _ _ _ _ _ _ _ (((((A.put (some 7) (.pointer (some ⟨g, 0, none⟩))).put (some 8) (.pointer (some ⟨g, 0, none⟩))).put (some 9) (.pointer (some ⟨g, 0, none⟩))).put (some 11) (.pointer (some ⟨g, 0, none⟩))).put (some 12) (.pointer (some ⟨g, 0, none⟩))) _
  refine wpAnyH_take (i := 6) (v := .pointer (some ⟨g, 67, none⟩)) rfl (by kernel_rfl) (by kernel_rfl) (by kernel_rfl) (fun _ _ _ h => nomatch h.1) (y_rf5 (by simp [Region.wanted]) (.tmp 12) rfl g (ev_eq _ _ (by simp [put_sz, sz]))) hs0 ?_
  show wpAnyH _ _ _ _ _ _ _ ((((((A.put (some 7) (.pointer (some ⟨g, 0, none⟩))).put (some 8) (.pointer (some ⟨g, 0, none⟩))).put (some 9) (.pointer (some ⟨g, 0, none⟩))).put (some 11) (.pointer (some ⟨g, 0, none⟩))).put (some 12) (.pointer (some ⟨g, 0, none⟩))).put (some 13) (.pointer (some ⟨g, 67, none⟩))) _
  refine wpAnyH_take (i := 7) (v := .agg (bvs c.hd)) rfl (by kernel_rfl) (by kernel_rfl) (by kernel_rfl) (fun _ _ _ h => nomatch h.1) (y_loadH (by simp [Region.wanted]) (.tmp 13) rfl g 67 c.hd ok.lh (ev_eq _ _ (by simp [put_sz, sz])) (fun V hV => hV)) hs0 ?_
  show wpAnyH _ _ _ _ _ _ _ (((((((A.put (some 7) (.pointer (some ⟨g, 0, none⟩))).put (some 8) (.pointer (some ⟨g, 0, none⟩))).put (some 9) (.pointer (some ⟨g, 0, none⟩))).put (some 11) (.pointer (some ⟨g, 0, none⟩))).put (some 12) (.pointer (some ⟨g, 0, none⟩))).put (some 13) (.pointer (some ⟨g, 67, none⟩))).put (some 14) (.agg (bvs c.hd))) _
  refine wpAnyH_all (rs := [3]) (by kernel_rfl) (by simp) fun i1 hm1 => ?_
  obtain rfl : i1 = 3 := by simpa using hm1
  refine wpOp_own rfl rfl fun K1 hK1 => ?_
  refine wp_calls1 35 hf_rcount (.tmp 9) _ rfl (.pointer (some ⟨g, 0, none⟩)) ((ev_ne _ _ (by decide)).trans ((ev_ne _ _ (by decide)).trans ((ev_ne _ _ (by decide)).trans ((ev_ne _ _ (by decide)).trans (ev_eq _ _ (by simp [put_sz, sz])))))) ?_
  refine (rCount_any H0 ok hc).mono ?_
  rintro _ V1 ⟨rfl, hb1⟩
  have H1 := H0.below hb1
  have hs1 := H1.rh ok.l
  refine ⟨_, rfl, hK1 _ _ ⟨hs1, ?_⟩⟩
  clear hK1 K1 hm1
  show wpAnyH _ _ _ _ _ _ _ ((((((((A.put (some 7) (.pointer (some ⟨g, 0, none⟩))).put (some 8) (.pointer (some ⟨g, 0, none⟩))).put (some 9) (.pointer (some ⟨g, 0, none⟩))).put (some 11) (.pointer (some ⟨g, 0, none⟩))).put (some 12) (.pointer (some ⟨g, 0, none⟩))).put (some 13) (.pointer (some ⟨g, 67, none⟩))).put (some 14) (.agg (bvs c.hd))).put (some 10) (.int .i64 (c.cnt : Int))) _
  refine wpAnyH_take (i := 8) (v := .pointer (some ⟨g, 0, none⟩)) rfl (by kernel_rfl) (by kernel_rfl) (by kernel_rfl) (fun _ _ _ h => nomatch h.1) (y_nil (by simp [Region.wanted]) (.tmp 7) rfl _ ((ev_ne _ _ (by decide)).trans ((ev_ne _ _ (by decide)).trans ((ev_ne _ _ (by decide)).trans ((ev_ne _ _ (by decide)).trans ((ev_ne _ _ (by decide)).trans ((ev_ne _ _ (by decide)).trans ((ev_ne _ _ (by decide)).trans (ev_eq _ _ (by simp [sz])))))))))) hs1 ?_
  show wpAnyH _ _ _ _ _ _ _ (((((((((A.put (some 7) (.pointer (some ⟨g, 0, none⟩))).put (some 8) (.pointer (some ⟨g, 0, none⟩))).put (some 9) (.pointer (some ⟨g, 0, none⟩))).put (some 11) (.pointer (some ⟨g, 0, none⟩))).put (some 12) (.pointer (some ⟨g, 0, none⟩))).put (some 13) (.pointer (some ⟨g, 67, none⟩))).put (some 14) (.agg (bvs c.hd))).put (some 10) (.int .i64 (c.cnt : Int))).put (some 15) (.pointer (some ⟨g, 0, none⟩))) _
  refine wpAnyH_take (i := 9) (v := .pointer (some ⟨g, 1, none⟩)) rfl (by kernel_rfl) (by kernel_rfl) (by kernel_rfl) (fun _ _ _ h => nomatch h.1) (y_rf1 (by simp [Region.wanted]) (.tmp 15) rfl g (ev_eq _ _ (by simp [put_sz, sz]))) hs1 ?_
  show wpAnyH _ _ _ _ _ _ _ ((((((((((A.put (some 7) (.pointer (some ⟨g, 0, none⟩))).put (some 8) (.pointer (some ⟨g, 0, none⟩))).put (some 9) (.pointer (some ⟨g, 0, none⟩))).put (some 11) (.pointer (some ⟨g, 0, none⟩))).put (some 12) (.pointer (some ⟨g, 0, none⟩))).put (some 13) (.pointer (some ⟨g, 67, none⟩))).put (some 14) (.agg (bvs c.hd))).put (some 10) (.int .i64 (c.cnt : Int))).put (some 15) (.pointer (some ⟨g, 0, none⟩))).put (some 16) (.pointer (some ⟨g, 1, none⟩))) _
  obtain ⟨A3, hA3⟩ : ∃ A3, A3 = ((((((((((A.put (some 7) (.pointer (some ⟨g, 0, none⟩))).put (some 8) (.pointer (some ⟨g, 0, none⟩))).put (some 9) (.pointer (some ⟨g, 0, none⟩))).put (some 11) (.pointer (some ⟨g, 0, none⟩))).put (some 12) (.pointer (some ⟨g, 0, none⟩))).put (some 13) (.pointer (some ⟨g, 67, none⟩))).put (some 14) (.agg (bvs c.hd))).put (some 10) (.int .i64 (c.cnt : Int))).put (some 15) (.pointer (some ⟨g, 0, none⟩))).put (some 16) (.pointer (some ⟨g, 1, none⟩))) := ⟨_, rfl⟩
  have szA3 : A3.tmps.size = 27 := by rw [hA3]; simp [put_sz, sz]
  have eA38 : A3.eval (.tmp 8) = .pointer (some ⟨g, 0, none⟩) := by rw [hA3]; exact ((ev_ne _ _ (by decide)).trans ((ev_ne _ _ (by decide)).trans ((ev_ne _ _ (by decide)).trans ((ev_ne _ _ (by decide)).trans ((ev_ne _ _ (by decide)).trans ((ev_ne _ _ (by decide)).trans ((ev_ne _ _ (by decide)).trans ((ev_ne _ _ (by decide)).trans (ev_eq _ _ (by simp [put_sz, sz]))))))))))
  have eA310 : A3.eval (.tmp 10) = .int .i64 (c.cnt : Int) := by rw [hA3]; exact ((ev_ne _ _ (by decide)).trans ((ev_ne _ _ (by decide)).trans (ev_eq _ _ (by simp [put_sz, sz]))))
  have eA314 : A3.eval (.tmp 14) = .agg (bvs c.hd) := by rw [hA3]; exact ((ev_ne _ _ (by decide)).trans ((ev_ne _ _ (by decide)).trans ((ev_ne _ _ (by decide)).trans (ev_eq _ _ (by simp [put_sz, sz])))))
  have eA316 : A3.eval (.tmp 16) = .pointer (some ⟨g, 1, none⟩) := by rw [hA3]; exact (ev_eq _ _ (by simp [put_sz, sz]))
  rw [← hA3]
  refine wpAnyH_all (rs := [10]) (by kernel_rfl) (by simp) fun i2 hm2 => ?_
  obtain rfl : i2 = 10 := by simpa using hm2
  refine wpOp_own rfl rfl fun K2 hK2 => ?_
  refine wp_storeN (.tmp 16) (.tmp 10) rfl g 1 (c.cnt : Int) _ eA316 eA310 H1.c1 (H1.fz 1) ?_
  have H2 := H1.setAn c.cnt
  have hs2 := H2.rh (c := { c with an := c.cnt }) ⟨ok.lb, ok.lan, ok.lh⟩
  refine hK2 _ _ ⟨hs2, ?_⟩
  clear hK2 K2 hm2
  show wpAnyH _ _ _ _ _ _ _ A3 _
  refine wpAnyH_take (i := 11) (v := .pointer (some ⟨g, 0, none⟩)) rfl (by kernel_rfl) (by kernel_rfl) (by kernel_rfl) (fun _ _ _ h => nomatch h.1) (y_nil (by simp [Region.wanted]) (.tmp 8) rfl _ eA38) hs2 ?_
  show wpAnyH _ _ _ _ _ _ _ (A3.put (some 17) (.pointer (some ⟨g, 0, none⟩))) _
  refine wpAnyH_take (i := 12) (v := .pointer (some ⟨g, 35, none⟩)) rfl (by kernel_rfl) (by kernel_rfl) (by kernel_rfl) (fun _ _ _ h => nomatch h.1) (y_rf4 (by simp [Region.wanted]) (.tmp 17) rfl g (ev_eq _ _ (by simp [szA3]))) hs2 ?_
  show wpAnyH _ _ _ _ _ _ _ ((A3.put (some 17) (.pointer (some ⟨g, 0, none⟩))).put (some 18) (.pointer (some ⟨g, 35, none⟩))) _
  refine wpAnyH_all (rs := [13]) (by kernel_rfl) (by simp) fun i3 hm3 => ?_
  obtain rfl : i3 = 13 := by simpa using hm3
  refine wpOp_own rfl rfl fun K3 hK3 => ?_
  refine wp_store_mid 49 (.tmp 18) (.tmp 14) rfl g 35 (bvs c.hd) (ev_eq _ _ (by simp [put_sz, szA3])) ((ev_ne _ _ (by decide)).trans ((ev_ne _ _ (by decide)).trans eA314)) (by rw [bvs_size, ok.lh]; exact H2.there (c := { c with an := c.cnt }) ⟨ok.lb, ok.lan, ok.lh⟩ 35 32 (by omega)) (by rw [bvs_size, ok.lh]; exact size_hash) (bvs_one _) ?_
  rw [show (bvs c.hd).toList = cellsOf c.hd from rfl]
  have H3 := H2.setAh (c := { c with an := c.cnt }) ⟨ok.lb, ok.lan, ok.lh⟩ c.hd ok.lh
  refine hK3 _ _ ⟨H3.rh (c := ancC c) ⟨ok.lb, ok.lh, ok.lh⟩, wpAnyH_done (by kernel_rfl) ⟨rfl, ?_, H3, Out.setCells (P := fun x => x = g) g rfl _ _ _ ((Out.of_below (P := fun x => x = g) hb1).setCell ⟨g, 1, none⟩ _ rfl)⟩ _⟩
  show ((A3.put (some 17) (.pointer (some ⟨g, 0, none⟩))).put (some 18) (.pointer (some ⟨g, 35, none⟩))) = _
  rw [hA3]
set_option maxHeartbeats 2000000 in
theorem rAnchor_region4 {V0 W5 : World} {B g R : Nat} {v : Value} {c : Ch} {Z : Array Value} {A : Act} (sz : A.tmps.size = 27) (e0 : A.eval (.tmp 0) = .pointer (some ⟨g, 0, none⟩)) (e3 : A.eval (.tmp 3) = .pointer (some ⟨R, 0, none⟩))
    (hV0 : V0 = W5.drew) (H0 : RAt V0 B g v c) (lens : Lens c) (hZ : HV Z zero32) (hgR : g ≠ R) (r0 : V0.heap[R]? = some (.cells Z 49 (0, 0))) :
    (codeRAnc 4).wp Tryd.prog (fun x a V => x = .normal ∧ a = (((((((((A.put (some 19) (.pointer (some ⟨g, 0, none⟩))).put (some 20) (.pointer (some ⟨g, 0, none⟩))).put (some 21) (.pointer (some ⟨g, 1, none⟩))).put (some 22) (.int .i64 (c.an : Int))).put (some 23) (.pointer (some ⟨g, 0, none⟩))).put (some 24) (.pointer (some ⟨g, 0, none⟩))).put (some 25) (.pointer (some ⟨g, 35, none⟩))).put (some 26) (.agg (bvs c.ah))).put (some 2) (.int .i64 (c.an : Int))) ∧ V = V0.setRow R (bvs c.ah)) A W5 := by
  have hm : Tryd.prog.follows .mixedOrders = true := by kernel_rfl
  unfold codeRAnc
  conv => arg 2; whnf
  refine wp_region_held (S := fun V => V.cell? ⟨g, 1, none⟩ = some (.int .i64 (c.an : Int)) ∧ V.rangeAt g 35 (cellsOf c.ah)) hm ?_
  rw [show ({ W5 with drawn := W5.drawn + 1 } : World) = V0 from hV0.symm]
  have hs0 : V0.cell? ⟨g, 1, none⟩ = some (.int .i64 (c.an : Int)) ∧ V0.rangeAt g 35 (cellsOf c.ah) := ⟨H0.c1, H0.ra lens⟩
  refine wpAnyH_take (i := 0) (v := .pointer (some ⟨g, 0, none⟩)) rfl (by kernel_rfl) (by kernel_rfl) (by kernel_rfl) (fun _ _ _ h => nomatch h.1) (yields_move (by simp [Region.wanted]) (.tmp 0) rfl _ e0) hs0 ?_
  show wpAnyH _ _ _ _ _ _ _ (A.put (some 19) (.pointer (some ⟨g, 0, none⟩))) _
  refine wpAnyH_take (i := 1) (v := .pointer (some ⟨g, 0, none⟩)) rfl (by kernel_rfl) (by kernel_rfl) (by kernel_rfl) (fun _ _ _ h => nomatch h.1) (y_nil (by simp [Region.wanted]) (.tmp 19) rfl _ (ev_eq _ _ (by simp [sz]))) hs0 ?_
  show wpAnyH _ _ _ _ _ _ _ ((A.put (some 19) (.pointer (some ⟨g, 0, none⟩))).put (some 20) (.pointer (some ⟨g, 0, none⟩))) _
  refine wpAnyH_take (i := 2) (v := .pointer (some ⟨g, 1, none⟩)) rfl (by kernel_rfl) (by kernel_rfl) (by kernel_rfl) (fun _ _ _ h => nomatch h.1) (y_rf1 (by simp [Region.wanted]) (.tmp 20) rfl g (ev_eq _ _ (by simp [put_sz, sz]))) hs0 ?_
  show wpAnyH _ _ _ _ _ _ _ (((A.put (some 19) (.pointer (some ⟨g, 0, none⟩))).put (some 20) (.pointer (some ⟨g, 0, none⟩))).put (some 21) (.pointer (some ⟨g, 1, none⟩))) _
  refine wpAnyH_take (i := 3) (v := .int .i64 (c.an : Int)) rfl (by kernel_rfl) (by kernel_rfl) (by kernel_rfl) (fun _ _ _ h => nomatch h.1) (y_loadI (by simp [Region.wanted]) (.tmp 21) rfl g 1 _ (ev_eq _ _ (by simp [put_sz, sz])) (fun V hV => hV.1)) hs0 ?_
  show wpAnyH _ _ _ _ _ _ _ ((((A.put (some 19) (.pointer (some ⟨g, 0, none⟩))).put (some 20) (.pointer (some ⟨g, 0, none⟩))).put (some 21) (.pointer (some ⟨g, 1, none⟩))).put (some 22) (.int .i64 (c.an : Int))) _
  refine wpAnyH_take (i := 4) (v := .pointer (some ⟨g, 0, none⟩)) rfl (by kernel_rfl) (by kernel_rfl) (by kernel_rfl) (fun _ _ _ h => nomatch h.1) (yields_move (by simp [Region.wanted]) (.tmp 0) rfl _ ((ev_ne _ _ (by decide)).trans ((ev_ne _ _ (by decide)).trans ((ev_ne _ _ (by decide)).trans ((ev_ne _ _ (by decide)).trans e0))))) hs0 ?_
  show wpAnyH _ _ _ _ _ _ _ (((((A.put (some 19) (.pointer (some ⟨g, 0, none⟩))).put (some 20) (.pointer (some ⟨g, 0, none⟩))).put (some 21) (.pointer (some ⟨g, 1, none⟩))).put (some 22) (.int .i64 (c.an : Int))).put (some 23) (.pointer (some ⟨g, 0, none⟩))) _
  refine wpAnyH_take (i := 5) (v := .pointer (some ⟨g, 0, none⟩)) rfl (by kernel_rfl) (by kernel_rfl) (by kernel_rfl) (fun _ _ _ h => nomatch h.1) (y_nil (by simp [Region.wanted]) (.tmp 23) rfl _ (ev_eq _ _ (by simp [put_sz, sz]))) hs0 ?_
  show wpAnyH _ _ _ _ _ _ _ ((((((A.put (some 19) (.pointer (some ⟨g, 0, none⟩))).put (some 20) (.pointer (some ⟨g, 0, none⟩))).put (some 21) (.pointer (some ⟨g, 1, none⟩))).put (some 22) (.int .i64 (c.an : Int))).put (some 23) (.pointer (some ⟨g, 0, none⟩))).put (some 24) (.pointer (some ⟨g, 0, none⟩))) _
  refine wpAnyH_take (i := 6) (v := .pointer (some ⟨g, 35, none⟩)) rfl (by kernel_rfl) (by kernel_rfl) (by kernel_rfl) (fun _ _ _ h => nomatch h.1) (y_rf4 (by simp [Region.wanted]) (.tmp 24) rfl g (ev_eq _ _ (by simp [put_sz, sz]))) hs0 ?_
  show wpAnyH _ _ _ _ _ _ _ (((((((A.put (some 19) (.pointer (some ⟨g, 0, none⟩))).put (some 20) (.pointer (some ⟨g, 0, none⟩))).put (some 21) (.pointer (some ⟨g, 1, none⟩))).put (some 22) (.int .i64 (c.an : Int))).put (some 23) (.pointer (some ⟨g, 0, none⟩))).put (some 24) (.pointer (some ⟨g, 0, none⟩))).put (some 25) (.pointer (some ⟨g, 35, none⟩))) _
  refine wpAnyH_take (i := 7) (v := .agg (bvs c.ah)) rfl (by kernel_rfl) (by kernel_rfl) (by kernel_rfl) (fun _ _ _ h => nomatch h.1) (y_loadH (by simp [Region.wanted]) (.tmp 25) rfl g 35 c.ah lens.lan (ev_eq _ _ (by simp [put_sz, sz])) (fun V hV => hV.2)) hs0 ?_
  show wpAnyH _ _ _ _ _ _ _ ((((((((A.put (some 19) (.pointer (some ⟨g, 0, none⟩))).put (some 20) (.pointer (some ⟨g, 0, none⟩))).put (some 21) (.pointer (some ⟨g, 1, none⟩))).put (some 22) (.int .i64 (c.an : Int))).put (some 23) (.pointer (some ⟨g, 0, none⟩))).put (some 24) (.pointer (some ⟨g, 0, none⟩))).put (some 25) (.pointer (some ⟨g, 35, none⟩))).put (some 26) (.agg (bvs c.ah))) _
  refine wpAnyH_take (i := 8) (v := .int .i64 (c.an : Int)) rfl (by kernel_rfl) (by kernel_rfl) (by kernel_rfl) (fun _ _ _ h => nomatch h.1) (y_assign (by simp [Region.wanted]) (.tmp 22) rfl _ ((ev_ne _ _ (by decide)).trans ((ev_ne _ _ (by decide)).trans ((ev_ne _ _ (by decide)).trans ((ev_ne _ _ (by decide)).trans (ev_eq _ _ (by simp [put_sz, sz]))))))) hs0 ?_
  show wpAnyH _ _ _ _ _ _ _ (((((((((A.put (some 19) (.pointer (some ⟨g, 0, none⟩))).put (some 20) (.pointer (some ⟨g, 0, none⟩))).put (some 21) (.pointer (some ⟨g, 1, none⟩))).put (some 22) (.int .i64 (c.an : Int))).put (some 23) (.pointer (some ⟨g, 0, none⟩))).put (some 24) (.pointer (some ⟨g, 0, none⟩))).put (some 25) (.pointer (some ⟨g, 35, none⟩))).put (some 26) (.agg (bvs c.ah))).put (some 2) (.int .i64 (c.an : Int))) _
  obtain ⟨A3, hA3⟩ : ∃ A3, A3 = (((((((((A.put (some 19) (.pointer (some ⟨g, 0, none⟩))).put (some 20) (.pointer (some ⟨g, 0, none⟩))).put (some 21) (.pointer (some ⟨g, 1, none⟩))).put (some 22) (.int .i64 (c.an : Int))).put (some 23) (.pointer (some ⟨g, 0, none⟩))).put (some 24) (.pointer (some ⟨g, 0, none⟩))).put (some 25) (.pointer (some ⟨g, 35, none⟩))).put (some 26) (.agg (bvs c.ah))).put (some 2) (.int .i64 (c.an : Int))) := ⟨_, rfl⟩
  have szA3 : A3.tmps.size = 27 := by rw [hA3]; simp [put_sz, sz]
  have eA33 : A3.eval (.tmp 3) = .pointer (some ⟨R, 0, none⟩) := by rw [hA3]; exact ((ev_ne _ _ (by decide)).trans ((ev_ne _ _ (by decide)).trans ((ev_ne _ _ (by decide)).trans ((ev_ne _ _ (by decide)).trans ((ev_ne _ _ (by decide)).trans ((ev_ne _ _ (by decide)).trans ((ev_ne _ _ (by decide)).trans ((ev_ne _ _ (by decide)).trans ((ev_ne _ _ (by decide)).trans e3)))))))))
  have eA326 : A3.eval (.tmp 26) = .agg (bvs c.ah) := by rw [hA3]; exact ((ev_ne _ _ (by decide)).trans (ev_eq _ _ (by simp [put_sz, sz])))
  rw [← hA3]
  refine wpAnyH_all (rs := [9]) (by kernel_rfl) (by simp) fun i1 hm1 => ?_
  obtain rfl : i1 = 9 := by simpa using hm1
  refine wpOp_own rfl rfl fun K1 hK1 => ?_
  refine wp_store_hash (.tmp 3) (.tmp 26) rfl R (bvs c.ah) Z (l := c.ah) (m := zero32) ⟨rfl, lens.lan⟩ hZ eA33 eA326 r0 ?_
  refine hK1 _ _ ⟨⟨(cell_setRow_other _ _ _ _ hgR).trans hs0.1, fun j v hj => (cell_setRow_other _ _ _ _ hgR).trans (hs0.2 j v hj)⟩, wpAnyH_done (by kernel_rfl) ⟨rfl, ?_, rfl⟩ _⟩
  show A3 = _
  rw [hA3]

set_option maxHeartbeats 1000000 in
theorem rAnchor_any {w : World} {B g : Nat} {v : Value} {c : Ch} (h : RAt w B g v c) (ok : ChOk c) (hc : c.cnt < 1152921504606846976) :
    Calls Tryd.prog 29 #[.pointer (some ⟨g, 0, none⟩)] w fun e w' => e = .returned (.tuple #[.int .i64 (c.cnt : Int), .agg (bvs c.hd)]) ∧ RAt w' B g v (ancC c) ∧ Out (fun k => k = g) w w' := by
  obtain ⟨Z, hZ⟩ : ∃ Z, Z = bvs (List.replicate 32 0) := ⟨_, rfl⟩
  have zh := (zero_of_info zero_hash).1
  rw [← hZ] at zh
  have hz : Hid (HV Z zero32) := by
    show HV _ _
    rw [hZ]; exact hv_zero
  have zh := hid zh
  have H := hid h
  have OK := hid ok
  have sh := hid (size_hashs c.hd ok.lh)
  have lts := hid h.lts
  have lt := hid h.lt
  clear hZ h ok
  go_enter Tryd.func29, Tryd.ntmps29
  go_wp2_with (with_reducible show Go.wpList _ _ _ _ _ _; refine wpList_alloc_row rfl 49 rfl Z zh.out ?_)
  obtain ⟨V0, hV0⟩ : ∃ V0, V0 = (w.alloc (.cells Z 49)).drew := ⟨_, rfl⟩
  have b0 : Below w.heap.size w V0 := by rw [hV0]; exact ((Below.refl _ w).alloc (Nat.le_refl _) _).drew
  have r0 : V0.heap[w.heap.size]? = some (.cells Z 49 (0, 0)) := by rw [hV0]; exact heap_alloc_new w _
  refine wp_act _ fun A hA => ?_
  have sz : A.tmps.size = 27 := by rw [hA]; rfl
  have e0 : A.eval (.tmp 0) = .pointer (some ⟨g, 0, none⟩) := by rw [hA]; rfl
  refine wp_split _ (rAnchor_region sz e0 hV0 (H.out.below b0) OK.out hc) ?_
  rintro _ V1 ⟨rfl, H1, o1⟩
  rw [hA]
  simp only [Act.put, List.setIfInBounds_toArray, List.set_cons_succ, List.set_cons_zero]
  clear sz e0 hA A hV0
  have r1 := (o1.block _ (heap_lt r0) (by have := lt.out; omega)).trans r0
  have O1 : Hid (Out (fun k => k = g) w V1) := (Out.of_below b0).trans o1 (fun _ _ x => x)
  have H1' := hid H1
  have R1 := hid r1
  clear r0 r1 b0 zh H1 o1 H
  go_wp2_with fail
  obtain ⟨V2, hV2⟩ : ∃ V2, V2 = V1.drew := ⟨_, rfl⟩
  have b2 : Below V1.heap.size V1 V2 := by rw [hV2]; exact (Below.refl _ V1).drew
  have r2 := (b2.block _ (heap_lt R1.out)).trans R1.out
  refine wp_act _ fun A hA => ?_
  have sz : A.tmps.size = 27 := by rw [hA]; rfl
  have e0 : A.eval (.tmp 0) = .pointer (some ⟨g, 0, none⟩) := by rw [hA]; rfl
  have e3 : A.eval (.tmp 3) = .pointer (some ⟨w.heap.size, 0, none⟩) := by rw [hA]; rfl
  refine wp_split _ (rAnchor_region4 sz e0 e3 hV2 (H1'.out.below b2) (ancC_ok OK.out).l hz.out (by have := lt.out; omega) r2) ?_
  rintro _ _ ⟨rfl, rfl⟩
  rw [hA]
  simp only [Act.put, List.setIfInBounds_toArray, List.set_cons_succ, List.set_cons_zero]
  clear sz e0 e3 hA A hV2
  have R2 := hid r2
  have B2 := hid b2
  have hn : (ancC c).an = c.cnt := rfl
  have hh : (ancC c).ah = c.hd := rfl
  rw [hn, hh]
  clear r2 b2 hn hh
  go_wp2_with fail
  refine bodyPost_ret (results_tmp_row rfl _ _ w.heap.size 49 (bvs c.hd) (0, 0) _ rfl (setRow_heap _ _ _ _ _ _ R2.out) Tryd.underlying49 rfl sh.out) rfl ?_
  have hlt := lt.out
  refine ⟨rfl, (H1'.out.below B2.out).keep (setRow_other _ _ _ _ (by omega)) (fun k hk => setRow_other _ _ _ _ (by have := (lts.out k hk).2; omega)), ?_⟩
  have o2 := O1.out.on B2.out
  exact ⟨o2.os, o2.tape, o2.output, by rw [size_setRow]; exact o2.size, fun j hj hp => (setRow_other _ _ _ _ (by omega)).trans (o2.block j hj hp)⟩
end Go.Proofs.YthnciogaibhmcaaDoor

/- The reference's Verify, by a contract (a chain whose anchor is not behind its base). -/
namespace Go.Proofs.YthnciogaibhmcaaDoor
open Go.RowKit
set_option linter.unusedVariables false
set_option maxRecDepth 20000
theorem hf_rat : ∀ (args : Array Value) (w : World), (callFunc 21 args).run Tryd.prog w = .ok (.enter 21 args) w := fun args w => by simp [go_sem]
section
variable {ops : Array Oper} {S : World → Prop} {op : Oper} {a : Act}
theorem y_lenE (hw : Region.wanted op (yielded ops a.tmps) = true) (t : Nat) (ho : op.op = .call { callee := .builtin .len, args := #[.tmp t], argTypes := #[46] }) (ht : op.type = 3) (ad : Option Addr) (n c : Nat) (hx : a.eval (.tmp t) = .slice ad n c) : YieldsIf Tryd.prog ops S op (.int .i64 (n : Int)) a := by
  refine .inl ⟨hw, fun w _ => ?_⟩
  have hx' : a.tmps[t]?.getD undef = .slice ad n c := by simpa [Act.eval] using hx
  unfold execOp
  simp only [ho, ht]
  simp [go_sem, hx']
theorem y_geqT (hw : Region.wanted op (yielded ops a.tmps) = true) (x y : Operand) (ho : op.op = .binOp .geq 3 x y 3) (p q : Nat) (hpq : q ≤ p) (hx : a.eval x = .int .i64 (p : Int)) (hy : a.eval y = .int .i64 (q : Int)) : YieldsIf Tryd.prog ops S op (.bool true) a := by
  refine .inl ⟨hw, fun w _ => ?_⟩
  have h1 : (q : Int) ≤ (p : Int) := by omega
  unfold execOp
  simp only [ho, hx, hy]
  simp [go_sem, h1]
theorem y_subN (hw : Region.wanted op (yielded ops a.tmps) = true) (x y : Operand) (ho : op.op = .binOp .sub 3 x y 3) (p q : Nat) (hpq : q ≤ p) (hp : p < 1152921504606846976) (hx : a.eval x = .int .i64 (p : Int)) (hy : a.eval y = .int .i64 (q : Int)) : YieldsIf Tryd.prog ops S op (.int .i64 ((p - q : Nat) : Int)) a := by
  refine .inl ⟨hw, fun w _ => ?_⟩
  have h1 : IntKind.i64.wrap ((p : Int) - (q : Int)) = ((p - q : Nat) : Int) := by rw [show ((p - q : Nat) : Int) = (p : Int) - (q : Int) by omega, IntKind.wrap_i64]; omega
  unfold execOp
  simp only [ho, hx, hy]
  simp [go_sem, h1]
theorem wpOp_own' {Q : Exit → Act → World → Prop} {i : Nat} {o : Oper} {K : Act → World → Prop} {w : World} (hi : ops[i]? = some o) (hw : Region.wanted o (yielded ops a.tmps) = true) (h : ∀ K' : Act → World → Prop, (∀ a w, K a w → K' a w) → o.wp Tryd.prog a w K' Q) : wpOp Tryd.prog ops Q i K a w :=
  wpOp_step hi fun K' hK' => by
    rw [if_pos hw]
    exact h K' hK'
end
noncomputable def codeRVer (n : Nat) : Code := ((Tryd.f18.body.bind (regionAt n)).getD .skip)
set_option maxHeartbeats 2000000 in
theorem rVerify_region3 {V0 W5 : World} {B g cap : Nat} {a0 : Option Addr} {c : Ch} {A : Act} (sz : A.tmps.size = 47) (e0 : A.eval (.tmp 0) = .pointer (some ⟨g, 0, none⟩))
    (hV0 : V0 = W5.drew) (hs0 : RAt V0 B g (.slice a0 c.ev.length cap) c) (ok : Lens c) (hev : EvOk c.ev) (hfew : c.ev.length ≤ 1000) :
    (codeRVer 3).wp Tryd.prog (fun x a V => x = .normal ∧ a = (((((((((((((A.put (some 7) (.pointer (some ⟨g, 0, none⟩))).put (some 8) (.pointer (some ⟨g, 0, none⟩))).put (some 9) (.pointer (some ⟨g, 0, none⟩))).put (some 10) (.pointer (some ⟨g, 99, none⟩))).put (some 11) (.slice a0 c.ev.length cap)).put (some 12) (.int .i64 (c.ev.length : Int))).put (some 14) (.pointer (some ⟨g, 0, none⟩))).put (some 15) (.pointer (some ⟨g, 0, none⟩))).put (some 16) (.pointer (some ⟨g, 67, none⟩))).put (some 17) (.agg (bvs c.hd))).put (some 13) (.agg (bvs (c.at c.ev.length)))).put (some 18) (.bool (!(c.at c.ev.length == c.hd)))).put (some 6) (.bool (!(c.at c.ev.length == c.hd)))) ∧ Below V0.heap.size V0 V) A W5 := by
  have hm : Tryd.prog.follows .mixedOrders = true := by kernel_rfl
  unfold codeRVer
  conv => arg 2; whnf
  refine wp_region_held (S := fun V => RAt V B g (.slice a0 c.ev.length cap) c) hm ?_
  rw [show ({ W5 with drawn := W5.drawn + 1 } : World) = V0 from hV0.symm]
  refine wpAnyH_take (i := 0) (v := .pointer (some ⟨g, 0, none⟩)) rfl (by kernel_rfl) (by kernel_rfl) (by kernel_rfl) (fun _ _ _ h => nomatch h.1) (yields_move (by simp [Region.wanted]) (.tmp 0) rfl _ e0) hs0 ?_
  show wpAnyH _ _ _ _ _ _ _ (A.put (some 7) (.pointer (some ⟨g, 0, none⟩))) _
  refine wpAnyH_take (i := 1) (v := .pointer (some ⟨g, 0, none⟩)) rfl (by kernel_rfl) (by kernel_rfl) (by kernel_rfl) (fun _ _ _ h => nomatch h.1) (yields_move (by simp [Region.wanted]) (.tmp 0) rfl _ ((ev_ne _ _ (by decide)).trans e0)) hs0 ?_
  show wpAnyH _ _ _ _ _ _ _ ((A.put (some 7) (.pointer (some ⟨g, 0, none⟩))).put (some 8) (.pointer (some ⟨g, 0, none⟩))) _
  refine wpAnyH_take (i := 2) (v := .pointer (some ⟨g, 0, none⟩)) rfl (by kernel_rfl) (by kernel_rfl) (by kernel_rfl) (fun _ _ _ h => nomatch h.1) (y_nil (by simp [Region.wanted]) (.tmp 8) rfl _ (ev_eq _ _ (by simp [put_sz, sz]))) hs0 ?_
  show wpAnyH _ _ _ _ _ _ _ (((A.put (some 7) (.pointer (some ⟨g, 0, none⟩))).put (some 8) (.pointer (some ⟨g, 0, none⟩))).put (some 9) (.pointer (some ⟨g, 0, none⟩))) _
  refine wpAnyH_take (i := 3) (v := .pointer (some ⟨g, 99, none⟩)) rfl (by kernel_rfl) (by kernel_rfl) (by kernel_rfl) (fun _ _ _ h => nomatch h.1) (y_rf6 (by simp [Region.wanted]) (.tmp 9) rfl g (ev_eq _ _ (by simp [put_sz, sz]))) hs0 ?_
  show wpAnyH _ _ _ _ _ _ _ ((((A.put (some 7) (.pointer (some ⟨g, 0, none⟩))).put (some 8) (.pointer (some ⟨g, 0, none⟩))).put (some 9) (.pointer (some ⟨g, 0, none⟩))).put (some 10) (.pointer (some ⟨g, 99, none⟩))) _
  refine wpAnyH_take (i := 4) (v := .slice a0 c.ev.length cap) rfl (by kernel_rfl) (by kernel_rfl) (by kernel_rfl) (fun _ _ _ h => nomatch h.1) (y_loadV (by simp [Region.wanted]) (.tmp 10) rfl g 99 _ _ _ (ev_eq _ _ (by simp [put_sz, sz])) (fun V hV => hV.c99 ok)) hs0 ?_
  show wpAnyH _ _ _ _ _ _ _ (((((A.put (some 7) (.pointer (some ⟨g, 0, none⟩))).put (some 8) (.pointer (some ⟨g, 0, none⟩))).put (some 9) (.pointer (some ⟨g, 0, none⟩))).put (some 10) (.pointer (some ⟨g, 99, none⟩))).put (some 11) (.slice a0 c.ev.length cap)) _
  refine wpAnyH_take (i := 5) (v := .int .i64 (c.ev.length : Int)) rfl (by kernel_rfl) (by kernel_rfl) (by kernel_rfl) (fun _ _ _ h => nomatch h.1) (y_lenE (by simp [Region.wanted]) 11 rfl rfl _ _ _ (ev_eq _ _ (by simp [put_sz, sz]))) hs0 ?_
  show wpAnyH _ _ _ _ _ _ _ ((((((A.put (some 7) (.pointer (some ⟨g, 0, none⟩))).put (some 8) (.pointer (some ⟨g, 0, none⟩))).put (some 9) (.pointer (some ⟨g, 0, none⟩))).put (some 10) (.pointer (some ⟨g, 99, none⟩))).put (some 11) (.slice a0 c.ev.length cap)).put (some 12) (.int .i64 (c.ev.length : Int))) _
  refine wpAnyH_take (i := 7) (v := .pointer (some ⟨g, 0, none⟩)) rfl (by kernel_rfl) (by kernel_rfl) (by kernel_rfl) (fun _ _ _ h => nomatch h.1) (yields_move (by simp [Region.wanted]) (.tmp 0) rfl _ ((ev_ne _ _ (by decide)).trans ((ev_ne _ _ (by decide)).trans ((ev_ne _ _ (by decide)).trans ((ev_ne _ _ (by decide)).trans ((ev_ne _ _ (by decide)).trans ((ev_ne _ _ (by decide)).trans e0))))))) hs0 ?_
  show wpAnyH _ _ _ _ _ _ _ (((((((A.put (some 7) (.pointer (some ⟨g, 0, none⟩))).put (some 8) (.pointer (some ⟨g, 0, none⟩))).put (some 9) (.pointer (some ⟨g, 0, none⟩))).put (some 10) (.pointer (some ⟨g, 99, none⟩))).put (some 11) (.slice a0 c.ev.length cap)).put (some 12) (.int .i64 (c.ev.length : Int))).put (some 14) (.pointer (some ⟨g, 0, none⟩))) _
  refine wpAnyH_take (i := 8) (v := .pointer (some ⟨g, 0, none⟩)) rfl (by kernel_rfl) (by kernel_rfl) (by kernel_rfl) (fun _ _ _ h => nomatch h.1) (y_nil (by simp [Region.wanted]) (.tmp 14) rfl _ (ev_eq _ _ (by simp [put_sz, sz]))) hs0 ?_
  show wpAnyH _ _ _ _ _ _ _ ((((((((A.put (some 7) (.pointer (some ⟨g, 0, none⟩))).put (some 8) (.pointer (some ⟨g, 0, none⟩))).put (some 9) (.pointer (some ⟨g, 0, none⟩))).put (some 10) (.pointer (some ⟨g, 99, none⟩))).put (some 11) (.slice a0 c.ev.length cap)).put (some 12) (.int .i64 (c.ev.length : Int))).put (some 14) (.pointer (some ⟨g, 0, none⟩))).put (some 15) (.pointer (some ⟨g, 0, none⟩))) _
  refine wpAnyH_take (i := 9) (v := .pointer (some ⟨g, 67, none⟩)) rfl (by kernel_rfl) (by kernel_rfl) (by kernel_rfl) (fun _ _ _ h => nomatch h.1) (y_rf5 (by simp [Region.wanted]) (.tmp 15) rfl g (ev_eq _ _ (by simp [put_sz, sz]))) hs0 ?_
  show wpAnyH _ _ _ _ _ _ _ (((((((((A.put (some 7) (.pointer (some ⟨g, 0, none⟩))).put (some 8) (.pointer (some ⟨g, 0, none⟩))).put (some 9) (.pointer (some ⟨g, 0, none⟩))).put (some 10) (.pointer (some ⟨g, 99, none⟩))).put (some 11) (.slice a0 c.ev.length cap)).put (some 12) (.int .i64 (c.ev.length : Int))).put (some 14) (.pointer (some ⟨g, 0, none⟩))).put (some 15) (.pointer (some ⟨g, 0, none⟩))).put (some 16) (.pointer (some ⟨g, 67, none⟩))) _
  refine wpAnyH_take (i := 10) (v := .agg (bvs c.hd)) rfl (by kernel_rfl) (by kernel_rfl) (by kernel_rfl) (fun _ _ _ h => nomatch h.1) (y_loadH (by simp [Region.wanted]) (.tmp 16) rfl g 67 c.hd ok.lh (ev_eq _ _ (by simp [put_sz, sz])) (fun V hV => hV.rh ok)) hs0 ?_
  show wpAnyH _ _ _ _ _ _ _ ((((((((((A.put (some 7) (.pointer (some ⟨g, 0, none⟩))).put (some 8) (.pointer (some ⟨g, 0, none⟩))).put (some 9) (.pointer (some ⟨g, 0, none⟩))).put (some 10) (.pointer (some ⟨g, 99, none⟩))).put (some 11) (.slice a0 c.ev.length cap)).put (some 12) (.int .i64 (c.ev.length : Int))).put (some 14) (.pointer (some ⟨g, 0, none⟩))).put (some 15) (.pointer (some ⟨g, 0, none⟩))).put (some 16) (.pointer (some ⟨g, 67, none⟩))).put (some 17) (.agg (bvs c.hd))) _
  refine wpAnyH_all (rs := [6]) (by kernel_rfl) (by simp) fun i1 hm1 => ?_
  obtain rfl : i1 = 6 := by simpa using hm1
  refine wpOp_own rfl rfl fun K1 hK1 => ?_
  refine wp_calls2 21 hf_rat (.tmp 7) (.tmp 12) _ rfl (.pointer (some ⟨g, 0, none⟩)) (.int .i64 (c.ev.length : Int)) ((ev_ne _ _ (by decide)).trans ((ev_ne _ _ (by decide)).trans ((ev_ne _ _ (by decide)).trans ((ev_ne _ _ (by decide)).trans ((ev_ne _ _ (by decide)).trans ((ev_ne _ _ (by decide)).trans ((ev_ne _ _ (by decide)).trans ((ev_ne _ _ (by decide)).trans ((ev_ne _ _ (by decide)).trans (ev_eq _ _ (by simp [sz]))))))))))) ((ev_ne _ _ (by decide)).trans ((ev_ne _ _ (by decide)).trans ((ev_ne _ _ (by decide)).trans ((ev_ne _ _ (by decide)).trans (ev_eq _ _ (by simp [put_sz, sz])))))) ?_
  refine (rAt_any hs0 ok hev hfew c.ev.length (Nat.le_refl _)).mono ?_
  rintro _ V1 ⟨rfl, hb1⟩
  have hs1 := hs0.below hb1
  refine ⟨_, rfl, hK1 _ _ ⟨hs1, ?_⟩⟩
  clear hK1 K1 hm1
  show wpAnyH _ _ _ _ _ _ _ (((((((((((A.put (some 7) (.pointer (some ⟨g, 0, none⟩))).put (some 8) (.pointer (some ⟨g, 0, none⟩))).put (some 9) (.pointer (some ⟨g, 0, none⟩))).put (some 10) (.pointer (some ⟨g, 99, none⟩))).put (some 11) (.slice a0 c.ev.length cap)).put (some 12) (.int .i64 (c.ev.length : Int))).put (some 14) (.pointer (some ⟨g, 0, none⟩))).put (some 15) (.pointer (some ⟨g, 0, none⟩))).put (some 16) (.pointer (some ⟨g, 67, none⟩))).put (some 17) (.agg (bvs c.hd))).put (some 13) (.agg (bvs (c.at c.ev.length)))) _
  refine wpAnyH_take (i := 11) (v := .bool (!(c.at c.ev.length == c.hd))) rfl (by kernel_rfl) (by kernel_rfl) (by kernel_rfl) (fun _ _ _ h => nomatch h.1) (y_neqH (by simp [Region.wanted]) (.tmp 13) (.tmp 17) rfl _ _ (endH_length _ _ ok.lb) ok.lh (ev_eq _ _ (by simp [put_sz, sz])) ((ev_ne _ _ (by decide)).trans (ev_eq _ _ (by simp [put_sz, sz])))) hs1 ?_
  show wpAnyH _ _ _ _ _ _ _ ((((((((((((A.put (some 7) (.pointer (some ⟨g, 0, none⟩))).put (some 8) (.pointer (some ⟨g, 0, none⟩))).put (some 9) (.pointer (some ⟨g, 0, none⟩))).put (some 10) (.pointer (some ⟨g, 99, none⟩))).put (some 11) (.slice a0 c.ev.length cap)).put (some 12) (.int .i64 (c.ev.length : Int))).put (some 14) (.pointer (some ⟨g, 0, none⟩))).put (some 15) (.pointer (some ⟨g, 0, none⟩))).put (some 16) (.pointer (some ⟨g, 67, none⟩))).put (some 17) (.agg (bvs c.hd))).put (some 13) (.agg (bvs (c.at c.ev.length)))).put (some 18) (.bool (!(c.at c.ev.length == c.hd)))) _
  refine wpAnyH_take (i := 12) (v := .bool (!(c.at c.ev.length == c.hd))) rfl (by kernel_rfl) (by kernel_rfl) (by kernel_rfl) (fun _ _ _ h => nomatch h.1) (y_assign (by simp [Region.wanted]) (.tmp 18) rfl _ (ev_eq _ _ (by simp [put_sz, sz]))) hs1 ?_
  show wpAnyH _ _ _ _ _ _ _ (((((((((((((A.put (some 7) (.pointer (some ⟨g, 0, none⟩))).put (some 8) (.pointer (some ⟨g, 0, none⟩))).put (some 9) (.pointer (some ⟨g, 0, none⟩))).put (some 10) (.pointer (some ⟨g, 99, none⟩))).put (some 11) (.slice a0 c.ev.length cap)).put (some 12) (.int .i64 (c.ev.length : Int))).put (some 14) (.pointer (some ⟨g, 0, none⟩))).put (some 15) (.pointer (some ⟨g, 0, none⟩))).put (some 16) (.pointer (some ⟨g, 67, none⟩))).put (some 17) (.agg (bvs c.hd))).put (some 13) (.agg (bvs (c.at c.ev.length)))).put (some 18) (.bool (!(c.at c.ev.length == c.hd)))).put (some 6) (.bool (!(c.at c.ev.length == c.hd)))) _
  exact wpAnyH_done (by kernel_rfl) ⟨rfl, rfl, hb1⟩ _
set_option maxHeartbeats 4000000 in
theorem rVerify_region5 {V0 W5 : World} {B g cap : Nat} {a0 : Option Addr} {c : Ch} {A : Act} (sz : A.tmps.size = 47) (e0 : A.eval (.tmp 0) = .pointer (some ⟨g, 0, none⟩))
    (hV0 : V0 = W5.drew) (hs0 : RAt V0 B g (.slice a0 c.ev.length cap) c) (ok : Lens c) (hev : EvOk c.ev) (hfew : c.ev.length ≤ 1000) (hba : c.bn ≤ c.an) (hsm : c.an < 1152921504606846976) (hle : c.an - c.bn ≤ c.ev.length) :
    (codeRVer 5).wp Tryd.prog (fun x a V => x = .normal ∧ a = ((((((((((((((((((((((((((((A.put (some 20) (.pointer (some ⟨g, 0, none⟩))).put (some 21) (.pointer (some ⟨g, 0, none⟩))).put (some 22) (.pointer (some ⟨g, 1, none⟩))).put (some 23) (.int .i64 (c.an : Int))).put (some 24) (.pointer (some ⟨g, 0, none⟩))).put (some 25) (.pointer (some ⟨g, 0, none⟩))).put (some 26) (.pointer (some ⟨g, 0, none⟩))).put (some 27) (.int .i64 (c.bn : Int))).put (some 28) (.bool true)).put (some 29) (.bool true)).put (some 30) (.pointer (some ⟨g, 0, none⟩))).put (some 31) (.pointer (some ⟨g, 0, none⟩))).put (some 32) (.pointer (some ⟨g, 0, none⟩))).put (some 33) (.pointer (some ⟨g, 1, none⟩))).put (some 34) (.int .i64 (c.an : Int))).put (some 35) (.pointer (some ⟨g, 0, none⟩))).put (some 36) (.pointer (some ⟨g, 0, none⟩))).put (some 37) (.pointer (some ⟨g, 0, none⟩))).put (some 38) (.int .i64 (c.bn : Int))).put (some 39) (.int .i64 ((c.an - c.bn : Nat) : Int))).put (some 41) (.pointer (some ⟨g, 0, none⟩))).put (some 42) (.pointer (some ⟨g, 0, none⟩))).put (some 43) (.pointer (some ⟨g, 35, none⟩))).put (some 44) (.agg (bvs c.ah))).put (some 40) (.agg (bvs (c.at (c.an - c.bn))))).put (some 45) (.bool (!(c.at (c.an - c.bn) == c.ah)))).put (some 46) (.bool (!(c.at (c.an - c.bn) == c.ah)))).put (some 19) (.bool (!(c.at (c.an - c.bn) == c.ah)))) ∧ Below V0.heap.size V0 V) A W5 := by
  have hm : Tryd.prog.follows .mixedOrders = true := by kernel_rfl
  unfold codeRVer
  conv => arg 2; whnf
  refine wp_region_held (S := fun V => RAt V B g (.slice a0 c.ev.length cap) c) hm ?_
  rw [show ({ W5 with drawn := W5.drawn + 1 } : World) = V0 from hV0.symm]
  refine wpAnyH_take (i := 0) (v := .pointer (some ⟨g, 0, none⟩)) rfl (by kernel_rfl) (by kernel_rfl) (by kernel_rfl) (fun _ _ _ h => nomatch h.1) (yields_move (by simp [Region.wanted]) (.tmp 0) rfl _ e0) hs0 ?_
  show wpAnyH _ _ _ _ _ _ _ (A.put (some 20) (.pointer (some ⟨g, 0, none⟩))) _
  refine wpAnyH_take (i := 1) (v := .pointer (some ⟨g, 0, none⟩)) rfl (by kernel_rfl) (by kernel_rfl) (by kernel_rfl) (fun _ _ _ h => nomatch h.1) (y_nil (by simp [Region.wanted]) (.tmp 20) rfl _ (ev_eq _ _ (by simp [sz]))) hs0 ?_
  show wpAnyH _ _ _ _ _ _ _ ((A.put (some 20) (.pointer (some ⟨g, 0, none⟩))).put (some 21) (.pointer (some ⟨g, 0, none⟩))) _
  refine wpAnyH_take (i := 2) (v := .pointer (some ⟨g, 1, none⟩)) rfl (by kernel_rfl) (by kernel_rfl) (by kernel_rfl) (fun _ _ _ h => nomatch h.1) (y_rf1 (by simp [Region.wanted]) (.tmp 21) rfl g (ev_eq _ _ (by simp [put_sz, sz]))) hs0 ?_
  show wpAnyH _ _ _ _ _ _ _ (((A.put (some 20) (.pointer (some ⟨g, 0, none⟩))).put (some 21) (.pointer (some ⟨g, 0, none⟩))).put (some 22) (.pointer (some ⟨g, 1, none⟩))) _
  refine wpAnyH_take (i := 3) (v := .int .i64 (c.an : Int)) rfl (by kernel_rfl) (by kernel_rfl) (by kernel_rfl) (fun _ _ _ h => nomatch h.1) (y_loadI (by simp [Region.wanted]) (.tmp 22) rfl g 1 _ (ev_eq _ _ (by simp [put_sz, sz])) (fun V hV => hV.c1)) hs0 ?_
  show wpAnyH _ _ _ _ _ _ _ ((((A.put (some 20) (.pointer (some ⟨g, 0, none⟩))).put (some 21) (.pointer (some ⟨g, 0, none⟩))).put (some 22) (.pointer (some ⟨g, 1, none⟩))).put (some 23) (.int .i64 (c.an : Int))) _
  refine wpAnyH_take (i := 4) (v := .pointer (some ⟨g, 0, none⟩)) rfl (by kernel_rfl) (by kernel_rfl) (by kernel_rfl) (fun _ _ _ h => nomatch h.1) (yields_move (by simp [Region.wanted]) (.tmp 0) rfl _ ((ev_ne _ _ (by decide)).trans ((ev_ne _ _ (by decide)).trans ((ev_ne _ _ (by decide)).trans ((ev_ne _ _ (by decide)).trans e0))))) hs0 ?_
  show wpAnyH _ _ _ _ _ _ _ (((((A.put (some 20) (.pointer (some ⟨g, 0, none⟩))).put (some 21) (.pointer (some ⟨g, 0, none⟩))).put (some 22) (.pointer (some ⟨g, 1, none⟩))).put (some 23) (.int .i64 (c.an : Int))).put (some 24) (.pointer (some ⟨g, 0, none⟩))) _
  refine wpAnyH_take (i := 5) (v := .pointer (some ⟨g, 0, none⟩)) rfl (by kernel_rfl) (by kernel_rfl) (by kernel_rfl) (fun _ _ _ h => nomatch h.1) (y_nil (by simp [Region.wanted]) (.tmp 24) rfl _ (ev_eq _ _ (by simp [put_sz, sz]))) hs0 ?_
  show wpAnyH _ _ _ _ _ _ _ ((((((A.put (some 20) (.pointer (some ⟨g, 0, none⟩))).put (some 21) (.pointer (some ⟨g, 0, none⟩))).put (some 22) (.pointer (some ⟨g, 1, none⟩))).put (some 23) (.int .i64 (c.an : Int))).put (some 24) (.pointer (some ⟨g, 0, none⟩))).put (some 25) (.pointer (some ⟨g, 0, none⟩))) _
  refine wpAnyH_take (i := 6) (v := .pointer (some ⟨g, 0, none⟩)) rfl (by kernel_rfl) (by kernel_rfl) (by kernel_rfl) (fun _ _ _ h => nomatch h.1) (y_rf0 (by simp [Region.wanted]) (.tmp 25) rfl g (ev_eq _ _ (by simp [put_sz, sz]))) hs0 ?_
  show wpAnyH _ _ _ _ _ _ _ (((((((A.put (some 20) (.pointer (some ⟨g, 0, none⟩))).put (some 21) (.pointer (some ⟨g, 0, none⟩))).put (some 22) (.pointer (some ⟨g, 1, none⟩))).put (some 23) (.int .i64 (c.an : Int))).put (some 24) (.pointer (some ⟨g, 0, none⟩))).put (some 25) (.pointer (some ⟨g, 0, none⟩))).put (some 26) (.pointer (some ⟨g, 0, none⟩))) _
  refine wpAnyH_take (i := 7) (v := .int .i64 (c.bn : Int)) rfl (by kernel_rfl) (by kernel_rfl) (by kernel_rfl) (fun _ _ _ h => nomatch h.1) (y_loadI (by simp [Region.wanted]) (.tmp 26) rfl g 0 _ (ev_eq _ _ (by simp [put_sz, sz])) (fun V hV => hV.c0)) hs0 ?_
  show wpAnyH _ _ _ _ _ _ _ ((((((((A.put (some 20) (.pointer (some ⟨g, 0, none⟩))).put (some 21) (.pointer (some ⟨g, 0, none⟩))).put (some 22) (.pointer (some ⟨g, 1, none⟩))).put (some 23) (.int .i64 (c.an : Int))).put (some 24) (.pointer (some ⟨g, 0, none⟩))).put (some 25) (.pointer (some ⟨g, 0, none⟩))).put (some 26) (.pointer (some ⟨g, 0, none⟩))).put (some 27) (.int .i64 (c.bn : Int))) _
  refine wpAnyH_take (i := 8) (v := .bool true) rfl (by kernel_rfl) (by kernel_rfl) (by kernel_rfl) (fun _ _ _ h => nomatch h.1) (y_geqT (by simp [Region.wanted]) (.tmp 23) (.tmp 27) rfl _ _ hba ((ev_ne _ _ (by decide)).trans ((ev_ne _ _ (by decide)).trans ((ev_ne _ _ (by decide)).trans ((ev_ne _ _ (by decide)).trans (ev_eq _ _ (by simp [put_sz, sz])))))) (ev_eq _ _ (by simp [put_sz, sz]))) hs0 ?_
  show wpAnyH _ _ _ _ _ _ _ (((((((((A.put (some 20) (.pointer (some ⟨g, 0, none⟩))).put (some 21) (.pointer (some ⟨g, 0, none⟩))).put (some 22) (.pointer (some ⟨g, 1, none⟩))).put (some 23) (.int .i64 (c.an : Int))).put (some 24) (.pointer (some ⟨g, 0, none⟩))).put (some 25) (.pointer (some ⟨g, 0, none⟩))).put (some 26) (.pointer (some ⟨g, 0, none⟩))).put (some 27) (.int .i64 (c.bn : Int))).put (some 28) (.bool true)) _
  refine wpAnyH_take (i := 9) (v := .bool true) rfl (by kernel_rfl) (by kernel_rfl) (by kernel_rfl) (fun _ _ _ h => nomatch h.1) (yields_move (by simp [Region.wanted]) (.tmp 28) rfl _ (ev_eq _ _ (by simp [put_sz, sz]))) hs0 ?_
  show wpAnyH _ _ _ _ _ _ _ ((((((((((A.put (some 20) (.pointer (some ⟨g, 0, none⟩))).put (some 21) (.pointer (some ⟨g, 0, none⟩))).put (some 22) (.pointer (some ⟨g, 1, none⟩))).put (some 23) (.int .i64 (c.an : Int))).put (some 24) (.pointer (some ⟨g, 0, none⟩))).put (some 25) (.pointer (some ⟨g, 0, none⟩))).put (some 26) (.pointer (some ⟨g, 0, none⟩))).put (some 27) (.int .i64 (c.bn : Int))).put (some 28) (.bool true)).put (some 29) (.bool true)) _
  obtain ⟨A2, hA2⟩ : ∃ A2, A2 = ((((((((((A.put (some 20) (.pointer (some ⟨g, 0, none⟩))).put (some 21) (.pointer (some ⟨g, 0, none⟩))).put (some 22) (.pointer (some ⟨g, 1, none⟩))).put (some 23) (.int .i64 (c.an : Int))).put (some 24) (.pointer (some ⟨g, 0, none⟩))).put (some 25) (.pointer (some ⟨g, 0, none⟩))).put (some 26) (.pointer (some ⟨g, 0, none⟩))).put (some 27) (.int .i64 (c.bn : Int))).put (some 28) (.bool true)).put (some 29) (.bool true)) := ⟨_, rfl⟩
  have szA2 : A2.tmps.size = 47 := by rw [hA2]; simp [put_sz, sz]
  have eA20 : A2.eval (.tmp 0) = .pointer (some ⟨g, 0, none⟩) := by rw [hA2]; exact ((ev_ne _ _ (by decide)).trans ((ev_ne _ _ (by decide)).trans ((ev_ne _ _ (by decide)).trans ((ev_ne _ _ (by decide)).trans ((ev_ne _ _ (by decide)).trans ((ev_ne _ _ (by decide)).trans ((ev_ne _ _ (by decide)).trans ((ev_ne _ _ (by decide)).trans ((ev_ne _ _ (by decide)).trans ((ev_ne _ _ (by decide)).trans e0))))))))))
  have eA229 : A2.eval (.tmp 29) = .bool true := by rw [hA2]; exact (ev_eq _ _ (by simp [put_sz, sz]))
  rw [← hA2]
  refine wpAnyH_take (i := 10) (v := .pointer (some ⟨g, 0, none⟩)) rfl (by kernel_rfl) (by kernel_rfl) (by kernel_rfl) (fun _ _ _ h => nomatch h.1) (yields_move (wanted_g (i := 9) (d := 29) rfl rfl (by simp [szA2]) eA229) (.tmp 0) rfl _ eA20) hs0 ?_
  show wpAnyH _ _ _ _ _ _ _ (A2.put (some 30) (.pointer (some ⟨g, 0, none⟩))) _
  refine wpAnyH_take (i := 11) (v := .pointer (some ⟨g, 0, none⟩)) rfl (by kernel_rfl) (by kernel_rfl) (by kernel_rfl) (fun _ _ _ h => nomatch h.1) (yields_move (wanted_g (i := 9) (d := 29) rfl rfl (by simp [put_sz, szA2]) ((ev_ne _ _ (by decide)).trans eA229)) (.tmp 0) rfl _ ((ev_ne _ _ (by decide)).trans eA20)) hs0 ?_
  show wpAnyH _ _ _ _ _ _ _ ((A2.put (some 30) (.pointer (some ⟨g, 0, none⟩))).put (some 31) (.pointer (some ⟨g, 0, none⟩))) _
  refine wpAnyH_take (i := 12) (v := .pointer (some ⟨g, 0, none⟩)) rfl (by kernel_rfl) (by kernel_rfl) (by kernel_rfl) (fun _ _ _ h => nomatch h.1) (y_nil (wanted_g (i := 9) (d := 29) rfl rfl (by simp [put_sz, szA2]) ((ev_ne _ _ (by decide)).trans ((ev_ne _ _ (by decide)).trans eA229))) (.tmp 31) rfl _ (ev_eq _ _ (by simp [put_sz, szA2]))) hs0 ?_
  show wpAnyH _ _ _ _ _ _ _ (((A2.put (some 30) (.pointer (some ⟨g, 0, none⟩))).put (some 31) (.pointer (some ⟨g, 0, none⟩))).put (some 32) (.pointer (some ⟨g, 0, none⟩))) _
  refine wpAnyH_take (i := 13) (v := .pointer (some ⟨g, 1, none⟩)) rfl (by kernel_rfl) (by kernel_rfl) (by kernel_rfl) (fun _ _ _ h => nomatch h.1) (y_rf1 (wanted_g (i := 9) (d := 29) rfl rfl (by simp [put_sz, szA2]) ((ev_ne _ _ (by decide)).trans ((ev_ne _ _ (by decide)).trans ((ev_ne _ _ (by decide)).trans eA229)))) (.tmp 32) rfl g (ev_eq _ _ (by simp [put_sz, szA2]))) hs0 ?_
  show wpAnyH _ _ _ _ _ _ _ ((((A2.put (some 30) (.pointer (some ⟨g, 0, none⟩))).put (some 31) (.pointer (some ⟨g, 0, none⟩))).put (some 32) (.pointer (some ⟨g, 0, none⟩))).put (some 33) (.pointer (some ⟨g, 1, none⟩))) _
  refine wpAnyH_take (i := 14) (v := .int .i64 (c.an : Int)) rfl (by kernel_rfl) (by kernel_rfl) (by kernel_rfl) (fun _ _ _ h => nomatch h.1) (y_loadI (wanted_g (i := 9) (d := 29) rfl rfl (by simp [put_sz, szA2]) ((ev_ne _ _ (by decide)).trans ((ev_ne _ _ (by decide)).trans ((ev_ne _ _ (by decide)).trans ((ev_ne _ _ (by decide)).trans eA229))))) (.tmp 33) rfl g 1 _ (ev_eq _ _ (by simp [put_sz, szA2])) (fun V hV => hV.c1)) hs0 ?_
  show wpAnyH _ _ _ _ _ _ _ (((((A2.put (some 30) (.pointer (some ⟨g, 0, none⟩))).put (some 31) (.pointer (some ⟨g, 0, none⟩))).put (some 32) (.pointer (some ⟨g, 0, none⟩))).put (some 33) (.pointer (some ⟨g, 1, none⟩))).put (some 34) (.int .i64 (c.an : Int))) _
  refine wpAnyH_take (i := 15) (v := .pointer (some ⟨g, 0, none⟩)) rfl (by kernel_rfl) (by kernel_rfl) (by kernel_rfl) (fun _ _ _ h => nomatch h.1) (yields_move (wanted_g (i := 9) (d := 29) rfl rfl (by simp [put_sz, szA2]) ((ev_ne _ _ (by decide)).trans ((ev_ne _ _ (by decide)).trans ((ev_ne _ _ (by decide)).trans ((ev_ne _ _ (by decide)).trans ((ev_ne _ _ (by decide)).trans eA229)))))) (.tmp 0) rfl _ ((ev_ne _ _ (by decide)).trans ((ev_ne _ _ (by decide)).trans ((ev_ne _ _ (by decide)).trans ((ev_ne _ _ (by decide)).trans ((ev_ne _ _ (by decide)).trans eA20)))))) hs0 ?_
  show wpAnyH _ _ _ _ _ _ _ ((((((A2.put (some 30) (.pointer (some ⟨g, 0, none⟩))).put (some 31) (.pointer (some ⟨g, 0, none⟩))).put (some 32) (.pointer (some ⟨g, 0, none⟩))).put (some 33) (.pointer (some ⟨g, 1, none⟩))).put (some 34) (.int .i64 (c.an : Int))).put (some 35) (.pointer (some ⟨g, 0, none⟩))) _
  refine wpAnyH_take (i := 16) (v := .pointer (some ⟨g, 0, none⟩)) rfl (by kernel_rfl) (by kernel_rfl) (by kernel_rfl) (fun _ _ _ h => nomatch h.1) (y_nil (wanted_g (i := 9) (d := 29) rfl rfl (by simp [put_sz, szA2]) ((ev_ne _ _ (by decide)).trans ((ev_ne _ _ (by decide)).trans ((ev_ne _ _ (by decide)).trans ((ev_ne _ _ (by decide)).trans ((ev_ne _ _ (by decide)).trans ((ev_ne _ _ (by decide)).trans eA229))))))) (.tmp 35) rfl _ (ev_eq _ _ (by simp [put_sz, szA2]))) hs0 ?_
  show wpAnyH _ _ _ _ _ _ _ (((((((A2.put (some 30) (.pointer (some ⟨g, 0, none⟩))).put (some 31) (.pointer (some ⟨g, 0, none⟩))).put (some 32) (.pointer (some ⟨g, 0, none⟩))).put (some 33) (.pointer (some ⟨g, 1, none⟩))).put (some 34) (.int .i64 (c.an : Int))).put (some 35) (.pointer (some ⟨g, 0, none⟩))).put (some 36) (.pointer (some ⟨g, 0, none⟩))) _
  refine wpAnyH_take (i := 17) (v := .pointer (some ⟨g, 0, none⟩)) rfl (by kernel_rfl) (by kernel_rfl) (by kernel_rfl) (fun _ _ _ h => nomatch h.1) (y_rf0 (wanted_g (i := 9) (d := 29) rfl rfl (by simp [put_sz, szA2]) ((ev_ne _ _ (by decide)).trans ((ev_ne _ _ (by decide)).trans ((ev_ne _ _ (by decide)).trans ((ev_ne _ _ (by decide)).trans ((ev_ne _ _ (by decide)).trans ((ev_ne _ _ (by decide)).trans ((ev_ne _ _ (by decide)).trans eA229)))))))) (.tmp 36) rfl g (ev_eq _ _ (by simp [put_sz, szA2]))) hs0 ?_
  show wpAnyH _ _ _ _ _ _ _ ((((((((A2.put (some 30) (.pointer (some ⟨g, 0, none⟩))).put (some 31) (.pointer (some ⟨g, 0, none⟩))).put (some 32) (.pointer (some ⟨g, 0, none⟩))).put (some 33) (.pointer (some ⟨g, 1, none⟩))).put (some 34) (.int .i64 (c.an : Int))).put (some 35) (.pointer (some ⟨g, 0, none⟩))).put (some 36) (.pointer (some ⟨g, 0, none⟩))).put (some 37) (.pointer (some ⟨g, 0, none⟩))) _
  refine wpAnyH_take (i := 18) (v := .int .i64 (c.bn : Int)) rfl (by kernel_rfl) (by kernel_rfl) (by kernel_rfl) (fun _ _ _ h => nomatch h.1) (y_loadI (wanted_g (i := 9) (d := 29) rfl rfl (by simp [put_sz, szA2]) ((ev_ne _ _ (by decide)).trans ((ev_ne _ _ (by decide)).trans ((ev_ne _ _ (by decide)).trans ((ev_ne _ _ (by decide)).trans ((ev_ne _ _ (by decide)).trans ((ev_ne _ _ (by decide)).trans ((ev_ne _ _ (by decide)).trans ((ev_ne _ _ (by decide)).trans eA229))))))))) (.tmp 37) rfl g 0 _ (ev_eq _ _ (by simp [put_sz, szA2])) (fun V hV => hV.c0)) hs0 ?_
  show wpAnyH _ _ _ _ _ _ _ (((((((((A2.put (some 30) (.pointer (some ⟨g, 0, none⟩))).put (some 31) (.pointer (some ⟨g, 0, none⟩))).put (some 32) (.pointer (some ⟨g, 0, none⟩))).put (some 33) (.pointer (some ⟨g, 1, none⟩))).put (some 34) (.int .i64 (c.an : Int))).put (some 35) (.pointer (some ⟨g, 0, none⟩))).put (some 36) (.pointer (some ⟨g, 0, none⟩))).put (some 37) (.pointer (some ⟨g, 0, none⟩))).put (some 38) (.int .i64 (c.bn : Int))) _
  refine wpAnyH_take (i := 19) (v := .int .i64 ((c.an - c.bn : Nat) : Int)) rfl (by kernel_rfl) (by kernel_rfl) (by kernel_rfl) (fun _ _ _ h => nomatch h.1) (y_subN (wanted_g (i := 9) (d := 29) rfl rfl (by simp [put_sz, szA2]) ((ev_ne _ _ (by decide)).trans ((ev_ne _ _ (by decide)).trans ((ev_ne _ _ (by decide)).trans ((ev_ne _ _ (by decide)).trans ((ev_ne _ _ (by decide)).trans ((ev_ne _ _ (by decide)).trans ((ev_ne _ _ (by decide)).trans ((ev_ne _ _ (by decide)).trans ((ev_ne _ _ (by decide)).trans eA229)))))))))) (.tmp 34) (.tmp 38) rfl _ _ hba hsm ((ev_ne _ _ (by decide)).trans ((ev_ne _ _ (by decide)).trans ((ev_ne _ _ (by decide)).trans ((ev_ne _ _ (by decide)).trans (ev_eq _ _ (by simp [put_sz, szA2])))))) (ev_eq _ _ (by simp [put_sz, szA2]))) hs0 ?_
  show wpAnyH _ _ _ _ _ _ _ ((((((((((A2.put (some 30) (.pointer (some ⟨g, 0, none⟩))).put (some 31) (.pointer (some ⟨g, 0, none⟩))).put (some 32) (.pointer (some ⟨g, 0, none⟩))).put (some 33) (.pointer (some ⟨g, 1, none⟩))).put (some 34) (.int .i64 (c.an : Int))).put (some 35) (.pointer (some ⟨g, 0, none⟩))).put (some 36) (.pointer (some ⟨g, 0, none⟩))).put (some 37) (.pointer (some ⟨g, 0, none⟩))).put (some 38) (.int .i64 (c.bn : Int))).put (some 39) (.int .i64 ((c.an - c.bn : Nat) : Int))) _
  refine wpAnyH_take (i := 21) (v := .pointer (some ⟨g, 0, none⟩)) rfl (by kernel_rfl) (by kernel_rfl) (by kernel_rfl) (fun _ _ _ h => nomatch h.1) (yields_move (wanted_g (i := 9) (d := 29) rfl rfl (by simp [put_sz, szA2]) ((ev_ne _ _ (by decide)).trans ((ev_ne _ _ (by decide)).trans ((ev_ne _ _ (by decide)).trans ((ev_ne _ _ (by decide)).trans ((ev_ne _ _ (by decide)).trans ((ev_ne _ _ (by decide)).trans ((ev_ne _ _ (by decide)).trans ((ev_ne _ _ (by decide)).trans ((ev_ne _ _ (by decide)).trans ((ev_ne _ _ (by decide)).trans eA229))))))))))) (.tmp 0) rfl _ ((ev_ne _ _ (by decide)).trans ((ev_ne _ _ (by decide)).trans ((ev_ne _ _ (by decide)).trans ((ev_ne _ _ (by decide)).trans ((ev_ne _ _ (by decide)).trans ((ev_ne _ _ (by decide)).trans ((ev_ne _ _ (by decide)).trans ((ev_ne _ _ (by decide)).trans ((ev_ne _ _ (by decide)).trans ((ev_ne _ _ (by decide)).trans eA20))))))))))) hs0 ?_
  show wpAnyH _ _ _ _ _ _ _ (((((((((((A2.put (some 30) (.pointer (some ⟨g, 0, none⟩))).put (some 31) (.pointer (some ⟨g, 0, none⟩))).put (some 32) (.pointer (some ⟨g, 0, none⟩))).put (some 33) (.pointer (some ⟨g, 1, none⟩))).put (some 34) (.int .i64 (c.an : Int))).put (some 35) (.pointer (some ⟨g, 0, none⟩))).put (some 36) (.pointer (some ⟨g, 0, none⟩))).put (some 37) (.pointer (some ⟨g, 0, none⟩))).put (some 38) (.int .i64 (c.bn : Int))).put (some 39) (.int .i64 ((c.an - c.bn : Nat) : Int))).put (some 41) (.pointer (some ⟨g, 0, none⟩))) _
  refine wpAnyH_take (i := 22) (v := .pointer (some ⟨g, 0, none⟩)) rfl (by kernel_rfl) (by kernel_rfl) (by kernel_rfl) (fun _ _ _ h => nomatch h.1) (y_nil (wanted_g (i := 9) (d := 29) rfl rfl (by simp [put_sz, szA2]) ((ev_ne _ _ (by decide)).trans ((ev_ne _ _ (by decide)).trans ((ev_ne _ _ (by decide)).trans ((ev_ne _ _ (by decide)).trans ((ev_ne _ _ (by decide)).trans ((ev_ne _ _ (by decide)).trans ((ev_ne _ _ (by decide)).trans ((ev_ne _ _ (by decide)).trans ((ev_ne _ _ (by decide)).trans ((ev_ne _ _ (by decide)).trans ((ev_ne _ _ (by decide)).trans eA229)))))))))))) (.tmp 41) rfl _ (ev_eq _ _ (by simp [put_sz, szA2]))) hs0 ?_
  show wpAnyH _ _ _ _ _ _ _ ((((((((((((A2.put (some 30) (.pointer (some ⟨g, 0, none⟩))).put (some 31) (.pointer (some ⟨g, 0, none⟩))).put (some 32) (.pointer (some ⟨g, 0, none⟩))).put (some 33) (.pointer (some ⟨g, 1, none⟩))).put (some 34) (.int .i64 (c.an : Int))).put (some 35) (.pointer (some ⟨g, 0, none⟩))).put (some 36) (.pointer (some ⟨g, 0, none⟩))).put (some 37) (.pointer (some ⟨g, 0, none⟩))).put (some 38) (.int .i64 (c.bn : Int))).put (some 39) (.int .i64 ((c.an - c.bn : Nat) : Int))).put (some 41) (.pointer (some ⟨g, 0, none⟩))).put (some 42) (.pointer (some ⟨g, 0, none⟩))) _
  refine wpAnyH_take (i := 23) (v := .pointer (some ⟨g, 35, none⟩)) rfl (by kernel_rfl) (by kernel_rfl) (by kernel_rfl) (fun _ _ _ h => nomatch h.1) (y_rf4 (wanted_g (i := 9) (d := 29) rfl rfl (by simp [put_sz, szA2]) ((ev_ne _ _ (by decide)).trans ((ev_ne _ _ (by decide)).trans ((ev_ne _ _ (by decide)).trans ((ev_ne _ _ (by decide)).trans ((ev_ne _ _ (by decide)).trans ((ev_ne _ _ (by decide)).trans ((ev_ne _ _ (by decide)).trans ((ev_ne _ _ (by decide)).trans ((ev_ne _ _ (by decide)).trans ((ev_ne _ _ (by decide)).trans ((ev_ne _ _ (by decide)).trans ((ev_ne _ _ (by decide)).trans eA229))))))))))))) (.tmp 42) rfl g (ev_eq _ _ (by simp [put_sz, szA2]))) hs0 ?_
  show wpAnyH _ _ _ _ _ _ _ (((((((((((((A2.put (some 30) (.pointer (some ⟨g, 0, none⟩))).put (some 31) (.pointer (some ⟨g, 0, none⟩))).put (some 32) (.pointer (some ⟨g, 0, none⟩))).put (some 33) (.pointer (some ⟨g, 1, none⟩))).put (some 34) (.int .i64 (c.an : Int))).put (some 35) (.pointer (some ⟨g, 0, none⟩))).put (some 36) (.pointer (some ⟨g, 0, none⟩))).put (some 37) (.pointer (some ⟨g, 0, none⟩))).put (some 38) (.int .i64 (c.bn : Int))).put (some 39) (.int .i64 ((c.an - c.bn : Nat) : Int))).put (some 41) (.pointer (some ⟨g, 0, none⟩))).put (some 42) (.pointer (some ⟨g, 0, none⟩))).put (some 43) (.pointer (some ⟨g, 35, none⟩))) _
  refine wpAnyH_take (i := 24) (v := .agg (bvs c.ah)) rfl (by kernel_rfl) (by kernel_rfl) (by kernel_rfl) (fun _ _ _ h => nomatch h.1) (y_loadH (wanted_g (i := 9) (d := 29) rfl rfl (by simp [put_sz, szA2]) ((ev_ne _ _ (by decide)).trans ((ev_ne _ _ (by decide)).trans ((ev_ne _ _ (by decide)).trans ((ev_ne _ _ (by decide)).trans ((ev_ne _ _ (by decide)).trans ((ev_ne _ _ (by decide)).trans ((ev_ne _ _ (by decide)).trans ((ev_ne _ _ (by decide)).trans ((ev_ne _ _ (by decide)).trans ((ev_ne _ _ (by decide)).trans ((ev_ne _ _ (by decide)).trans ((ev_ne _ _ (by decide)).trans ((ev_ne _ _ (by decide)).trans eA229)))))))))))))) (.tmp 43) rfl g 35 c.ah ok.lan (ev_eq _ _ (by simp [put_sz, szA2])) (fun V hV => hV.ra ok)) hs0 ?_
  show wpAnyH _ _ _ _ _ _ _ ((((((((((((((A2.put (some 30) (.pointer (some ⟨g, 0, none⟩))).put (some 31) (.pointer (some ⟨g, 0, none⟩))).put (some 32) (.pointer (some ⟨g, 0, none⟩))).put (some 33) (.pointer (some ⟨g, 1, none⟩))).put (some 34) (.int .i64 (c.an : Int))).put (some 35) (.pointer (some ⟨g, 0, none⟩))).put (some 36) (.pointer (some ⟨g, 0, none⟩))).put (some 37) (.pointer (some ⟨g, 0, none⟩))).put (some 38) (.int .i64 (c.bn : Int))).put (some 39) (.int .i64 ((c.an - c.bn : Nat) : Int))).put (some 41) (.pointer (some ⟨g, 0, none⟩))).put (some 42) (.pointer (some ⟨g, 0, none⟩))).put (some 43) (.pointer (some ⟨g, 35, none⟩))).put (some 44) (.agg (bvs c.ah))) _
  obtain ⟨A3, hA3⟩ : ∃ A3, A3 = ((((((((((((((A2.put (some 30) (.pointer (some ⟨g, 0, none⟩))).put (some 31) (.pointer (some ⟨g, 0, none⟩))).put (some 32) (.pointer (some ⟨g, 0, none⟩))).put (some 33) (.pointer (some ⟨g, 1, none⟩))).put (some 34) (.int .i64 (c.an : Int))).put (some 35) (.pointer (some ⟨g, 0, none⟩))).put (some 36) (.pointer (some ⟨g, 0, none⟩))).put (some 37) (.pointer (some ⟨g, 0, none⟩))).put (some 38) (.int .i64 (c.bn : Int))).put (some 39) (.int .i64 ((c.an - c.bn : Nat) : Int))).put (some 41) (.pointer (some ⟨g, 0, none⟩))).put (some 42) (.pointer (some ⟨g, 0, none⟩))).put (some 43) (.pointer (some ⟨g, 35, none⟩))).put (some 44) (.agg (bvs c.ah))) := ⟨_, rfl⟩
  have szA3 : A3.tmps.size = 47 := by rw [hA3]; simp [put_sz, szA2]
  have eA329 : A3.eval (.tmp 29) = .bool true := by rw [hA3]; exact ((ev_ne _ _ (by decide)).trans ((ev_ne _ _ (by decide)).trans ((ev_ne _ _ (by decide)).trans ((ev_ne _ _ (by decide)).trans ((ev_ne _ _ (by decide)).trans ((ev_ne _ _ (by decide)).trans ((ev_ne _ _ (by decide)).trans ((ev_ne _ _ (by decide)).trans ((ev_ne _ _ (by decide)).trans ((ev_ne _ _ (by decide)).trans ((ev_ne _ _ (by decide)).trans ((ev_ne _ _ (by decide)).trans ((ev_ne _ _ (by decide)).trans ((ev_ne _ _ (by decide)).trans eA229))))))))))))))
  have eA330 : A3.eval (.tmp 30) = .pointer (some ⟨g, 0, none⟩) := by rw [hA3]; exact ((ev_ne _ _ (by decide)).trans ((ev_ne _ _ (by decide)).trans ((ev_ne _ _ (by decide)).trans ((ev_ne _ _ (by decide)).trans ((ev_ne _ _ (by decide)).trans ((ev_ne _ _ (by decide)).trans ((ev_ne _ _ (by decide)).trans ((ev_ne _ _ (by decide)).trans ((ev_ne _ _ (by decide)).trans ((ev_ne _ _ (by decide)).trans ((ev_ne _ _ (by decide)).trans ((ev_ne _ _ (by decide)).trans ((ev_ne _ _ (by decide)).trans (ev_eq _ _ (by simp [szA2])))))))))))))))
  have eA339 : A3.eval (.tmp 39) = .int .i64 ((c.an - c.bn : Nat) : Int) := by rw [hA3]; exact ((ev_ne _ _ (by decide)).trans ((ev_ne _ _ (by decide)).trans ((ev_ne _ _ (by decide)).trans ((ev_ne _ _ (by decide)).trans (ev_eq _ _ (by simp [put_sz, szA2]))))))
  have eA344 : A3.eval (.tmp 44) = .agg (bvs c.ah) := by rw [hA3]; exact (ev_eq _ _ (by simp [put_sz, szA2]))
  rw [← hA3]
  refine wpAnyH_all (rs := [20]) (by kernel_rfl) (by simp) fun i1 hm1 => ?_
  obtain rfl : i1 = 20 := by simpa using hm1
  refine wpOp_own' rfl (wanted_g (i := 9) (d := 29) rfl rfl (by simp [szA3]) eA329) fun K1 hK1 => ?_
  refine wp_calls2 21 hf_rat (.tmp 30) (.tmp 39) _ rfl (.pointer (some ⟨g, 0, none⟩)) (.int .i64 ((c.an - c.bn : Nat) : Int)) eA330 eA339 ?_
  refine (rAt_any hs0 ok hev hfew (c.an - c.bn) hle).mono ?_
  rintro _ V1 ⟨rfl, hb1⟩
  have hs1 := hs0.below hb1
  refine ⟨_, rfl, hK1 _ _ ⟨hs1, ?_⟩⟩
  clear hK1 K1 hm1
  show wpAnyH _ _ _ _ _ _ _ (A3.put (some 40) (.agg (bvs (c.at (c.an - c.bn))))) _
  refine wpAnyH_take (i := 25) (v := .bool (!(c.at (c.an - c.bn) == c.ah))) rfl (by kernel_rfl) (by kernel_rfl) (by kernel_rfl) (fun _ _ _ h => nomatch h.1) (y_neqH (wanted_g (i := 9) (d := 29) rfl rfl (by simp [put_sz, szA3]) ((ev_ne _ _ (by decide)).trans eA329)) (.tmp 40) (.tmp 44) rfl _ _ (endH_length _ _ ok.lb) ok.lan (ev_eq _ _ (by simp [szA3])) ((ev_ne _ _ (by decide)).trans eA344)) hs1 ?_
  show wpAnyH _ _ _ _ _ _ _ ((A3.put (some 40) (.agg (bvs (c.at (c.an - c.bn))))).put (some 45) (.bool (!(c.at (c.an - c.bn) == c.ah)))) _
  refine wpAnyH_take (i := 26) (v := .bool (!(c.at (c.an - c.bn) == c.ah))) rfl (by kernel_rfl) (by kernel_rfl) (by kernel_rfl) (fun _ _ _ h => nomatch h.1) (y_pickT (by simp [Region.wanted]) (.tmp 29) (.tmp 45) (.const (.bool false)) rfl _ ((ev_ne _ _ (by decide)).trans ((ev_ne _ _ (by decide)).trans eA329)) (ev_eq _ _ (by simp [put_sz, szA3]))) hs1 ?_
  show wpAnyH _ _ _ _ _ _ _ (((A3.put (some 40) (.agg (bvs (c.at (c.an - c.bn))))).put (some 45) (.bool (!(c.at (c.an - c.bn) == c.ah)))).put (some 46) (.bool (!(c.at (c.an - c.bn) == c.ah)))) _
  refine wpAnyH_take (i := 27) (v := .bool (!(c.at (c.an - c.bn) == c.ah))) rfl (by kernel_rfl) (by kernel_rfl) (by kernel_rfl) (fun _ _ _ h => nomatch h.1) (y_assign (by simp [Region.wanted]) (.tmp 46) rfl _ (ev_eq _ _ (by simp [put_sz, szA3]))) hs1 ?_
  show wpAnyH _ _ _ _ _ _ _ ((((A3.put (some 40) (.agg (bvs (c.at (c.an - c.bn))))).put (some 45) (.bool (!(c.at (c.an - c.bn) == c.ah)))).put (some 46) (.bool (!(c.at (c.an - c.bn) == c.ah)))).put (some 19) (.bool (!(c.at (c.an - c.bn) == c.ah)))) _
  exact wpAnyH_done (by kernel_rfl) ⟨rfl, by rw [hA3, hA2], hb1⟩ _

set_option maxHeartbeats 1000000 in
theorem rVerify_any {w : World} {B g : Nat} {v : Value} {c : Ch} (h : RAt w B g v c) (ok : ChOk c) (hev : EvOk c.ev) (hba : c.bn ≤ c.an) (hc : c.cnt < 1152921504606846976) :
    Calls Tryd.prog 18 #[.pointer (some ⟨g, 0, none⟩)] w fun e w' => e = .returned (.int .i64 (verE c)) ∧ Below w.heap.size w w' := by
  obtain ⟨a0, cap, rfl⟩ := h.val
  have H := hid h
  have OK := hid ok
  have HE := hid hev
  have h1 : c.an < 1152921504606846976 := by have := ok.anc; unfold Ch.cnt at hc; omega
  have h2 : c.an - c.bn ≤ c.ev.length := by have := ok.anc; omega
  have h3 : c.ev.length ≤ 1000 := by have := ok.few; omega
  clear h ok hev
  go_enter Tryd.func18, Tryd.ntmps18
  go_wp2_with fail
  obtain ⟨V0, hV0⟩ : ∃ V0, V0 = w.drew := ⟨_, rfl⟩
  have b0 : Below w.heap.size w V0 := by rw [hV0]; exact (Below.refl _ w).drew
  refine wp_act _ fun A hA => ?_
  have sz : A.tmps.size = 47 := by rw [hA]; rfl
  have e0 : A.eval (.tmp 0) = .pointer (some ⟨g, 0, none⟩) := by rw [hA]; rfl
  refine wp_split _ (rVerify_region3 sz e0 hV0 (H.out.below b0) OK.out.l HE.out h3) ?_
  rintro _ V1 ⟨rfl, b1⟩
  rw [hA]
  simp only [Act.put, List.setIfInBounds_toArray, List.set_cons_succ, List.set_cons_zero]
  clear sz e0 hA A hV0
  have B1 : Hid (Below w.heap.size w V1) := b0.trans (b1.mono b0.size)
  have HV : Hid (verE c = if (c.at c.ev.length == c.hd) = false then 15 else if (c.at (c.an - c.bn) == c.ah) = false then 15 else 0) := by
    show _ = _
    unfold verE
    by_cases q1 : c.at c.ev.length = c.hd
    · by_cases q2 : c.at (c.an - c.bn) = c.ah
      · simp [q1, q2]
      · simp [q1, q2, hba]
    · simp [q1]
  clear b0 b1
  by_cases q1 : (c.at c.ev.length == c.hd) = false
  · rw [if_pos q1] at HV
    rw [q1, Bool.not_false]
    clear q1
    go_wp2_with fail
    go_ret
    exact ⟨congrArg (fun x => Ending.returned (.int .i64 x)) HV.out.symm, B1.out⟩
  · rw [Bool.not_eq_false] at q1
    rw [q1, Bool.not_true]
    rw [if_neg (by rw [q1]; simp)] at HV
    clear q1
    go_wp2_with fail
    obtain ⟨V2, hV2⟩ : ∃ V2, V2 = V1.drew := ⟨_, rfl⟩
    have b2 : Below V1.heap.size V1 V2 := by rw [hV2]; exact (Below.refl _ V1).drew
    refine wp_act _ fun A hA => ?_
    have sz : A.tmps.size = 47 := by rw [hA]; rfl
    have e0 : A.eval (.tmp 0) = .pointer (some ⟨g, 0, none⟩) := by rw [hA]; rfl
    refine wp_split _ (rVerify_region5 sz e0 hV2 ((H.out.below B1.out).below b2) OK.out.l HE.out h3 hba h1 h2) ?_
    rintro _ V3 ⟨rfl, b3⟩
    rw [hA]
    simp only [Act.put, List.setIfInBounds_toArray, List.set_cons_succ, List.set_cons_zero]
    clear sz e0 hA A hV2
    have B3 : Hid (Below w.heap.size w V3) := Below.on' (Below.on' B1.out b2) b3
    clear b2 b3 B1
    by_cases q2 : (c.at (c.an - c.bn) == c.ah) = false
    · rw [if_pos q2] at HV
      rw [q2, Bool.not_false]
      clear q2
      go_wp2_with fail
      go_ret
      exact ⟨congrArg (fun x => Ending.returned (.int .i64 x)) HV.out.symm, B3.out⟩
    · rw [Bool.not_eq_false] at q2
      rw [q2, Bool.not_true]
      rw [if_neg (by rw [q2]; simp)] at HV
      clear q2
      go_wp2_with fail
      go_ret
      exact ⟨congrArg (fun x => Ending.returned (.int .i64 x)) HV.out.symm, B3.out⟩
end Go.Proofs.YthnciogaibhmcaaDoor

/- The reference's Prune, by a contract. -/
namespace Go.Proofs.YthnciogaibhmcaaDoor
open Go.RowKit
set_option linter.unusedVariables false
set_option maxRecDepth 20000
attribute [local go_sem ↓] loadH_fold storeH_fold

theorem storeH_mid {w : World} {g o : Nat} {l : List UInt8} (ht : w.there g o 32) (hl : l.length = 32) : (storeH (.pointer (some ⟨g, o, none⟩)) (.agg (bvs l))).run Tryd.prog w = .ok () (w.setCells g o (cellsOf l)) := by
  have := run_storeAt_mid (P := Tryd.prog) w g o 49 (bvs l) (by rw [bvs_size, hl]; exact ht) (size_hashs l hl) (bvs_one l)
  exact this
/-- append(nil, src...): src a row of events wherever it lies -/
theorem app_evsG (w : World) {ops : Array Oper} {rest : List Oper} {o : Oper} {a : Act} {Q : Exit → Act → World → Prop} (hgd : o.guard = none) (s x : Operand)
    (ho : o.op = .call { callee := .builtin .append, args := #[s, x], argTypes := #[46, 46] }) (base : Nat) (v : Value) (hs : a.eval s = v)
    (hown : w.ownsRow base 60 4 v 0 []) (ad : Option Addr) (n c : Nat) (l : List Ev) (hn : n = l.length) (hx : a.eval x = .slice ad n c) (hr : (ad = none ∧ l = [] ∧ c = 0) ∨ ∃ p, ad = some p ∧ ∀ j u, (eCells l)[j]? = some u → w.cell? (p.add j) = some u) (hb : l.length ≤ 1000) (hbase : base ≤ w.heap.size)
    (h : ∀ v' w', w'.ownsRow base 60 4 v' l.length (eCells l) → Below base w w' → wpList Tryd.prog ops Q rest (a.put o.dst v') w') :
    wpList Tryd.prog ops Q (o :: rest) a w := by
  obtain ⟨i0, hi, hz0, hz1, hz2⟩ := info_parts Tryd.infoE
  rcases hr with ⟨rfl, rfl, rfl⟩ | ⟨p, rfl, hr⟩
  · subst hn
    refine wpList_append_own_none hgd s x 46 ho base 60 i0 4 Tryd.underlying46 hi v 0 [] hs hown hx ?_
    exact h v w hown (Below.refl _ _)
  · refine wpList_append_own w hgd s x 46 ho base 60 i0 (.agg #[.int .i64 0, .int .i64 0, .string ⟨#[]⟩, .string ⟨#[]⟩]) 4 48 Tryd.underlying46 hi hz0 hz1 hz2 rfl (by decide) v 0 [] hs hown p n c (eCells l) hx (by rw [eCells_length, hn]) hr (eCells_oneCell l) (by unfold maxLen; omega) (by omega) hbase ?_
    intro v' w' h1 h2 _
    rw [Nat.zero_add, List.nil_append, hn] at h1
    exact h v' w' h1 ((Below.refl _ _).grown h2 hbase (fun k hk => (hown.lt k hk).1))
/-- the cells of a row that is cut -/
theorem cut_cells {w : World} {B b n cap k : Nat} {l : List Ev} (h : w.ownsRow B 60 4 (.slice (some ⟨b, 0, none⟩) n cap) l.length (eCells l)) (hk : k ≤ l.length) : ∀ j u, (eCells (l.drop k))[j]? = some u → w.cell? ((cutA b cap k).add j) = some u := by
  intro j u hj
  have hj' : j < (l.length - k) * 4 := by
    have := (List.getElem?_eq_some_iff.1 hj).1
    rwa [eCells_length, List.length_drop] at this
  rcases h.2 with ⟨h0, _⟩ | ⟨b', cap', cur, hv, _, hg, hcap, _, _, ht⟩
  · cases h0
  · cases hv
    have hne : cap ≠ k := by omega
    unfold cutA
    rw [if_neg hne, addr_add, cell_of_row _ _ _ _ _ _ hg, ← Array.getElem?_toList]
    have h1 : (cur.toList.take (l.length * 4))[k * 4 + j]? = some u := by
      have e : eCells l = eCells (l.take k) ++ eCells (l.drop k) := by rw [← eCells_append, List.take_append_drop]
      rw [ht, e, List.getElem?_append_right (by rw [eCells_length, List.length_take]; omega), eCells_length, List.length_take, show k * 4 + j - min k l.length * 4 = j by omega]
      exact hj
    rw [List.getElem?_take_of_lt (by omega)] at h1
    exact h1

theorem own_monoB {w : World} {B B' e s n : Nat} {v : Value} {xs : List Value} (h : w.ownsRow B e s v n xs) (hB : B' ≤ B) : w.ownsRow B' e s v n xs := by
  refine ⟨h.1, ?_⟩
  rcases h.2 with h0 | ⟨k, cap, cur, rfl, hb, r⟩
  · exact .inl h0
  · exact .inr ⟨k, cap, cur, rfl, Nat.le_trans hB hb, r⟩
theorem own_val {w : World} {B e s n : Nat} {v : Value} {xs : List Value} (h : w.ownsRow B e s v n xs) : ∃ a cap, v = .slice a n cap := by
  rcases h.2 with ⟨rfl, h0⟩ | ⟨k, cap, cur, rfl, _⟩
  · exact ⟨none, 0, by rw [h0]⟩
  · exact ⟨_, cap, rfl⟩
/-- only blocks from B on turn -/
theorem Out.of_belowB {w w' : World} {B : Nat} (h : Below B w w') (hB : B ≤ w.heap.size) : Out (fun j => B ≤ j) w w' := ⟨h.os, h.tape, h.output, h.size, fun k hk hp => h.block k (by omega)⟩

def RPruOk (w : World) (B g : Nat) (c : Ch) (k : Nat) (x : Ending) (w' : World) : Prop :=
  ∃ v', x = .returned (.tuple #[.int .i64 (k : Int), .int .i64 0]) ∧ RAt w' B g v' (pruC c k) ∧ Out (fun j => j = g) w w' ∧ ∀ j, v'.ownBlock = some j → w.heap.size ≤ j

set_option maxHeartbeats 2000000 in
theorem rPrune_ok {w : World} {B g : Nat} {v : Value} {c : Ch} (h : RAt w B g v c) (ok : ChOk c) (hev : EvOk c.ev) (hc : c.cnt < 1152921504606846976) (hB : B ≤ w.heap.size) (k : Nat) (hk : c.bn + k ≤ c.an) :
    Calls Tryd.prog 30 #[.pointer (some ⟨g, 0, none⟩), .int .i64 ((c.bn + k : Nat) : Int)] w (RPruOk w B g c k) := by
  have hkl : k ≤ c.ev.length := by have := ok.anc; omega
  have HL := hid (rAt_any h ok.l hev (by have := ok.few; omega) k hkl)
  have c0 := h.c0
  have c1 := h.c1
  have hat : (c.at k).length = 32 := Ch.at_length ok k
  have hN : ∃ N, N = c.bn + k := ⟨_, rfl⟩
  obtain ⟨N, hN⟩ := hN
  rw [← hN]
  obtain ⟨b, hb⟩ : ∃ b, b = c.bn := ⟨_, rfl⟩
  rw [← hb] at c0
  obtain ⟨an, han⟩ : ∃ an, an = c.an := ⟨_, rfl⟩
  rw [← han] at c1
  have hc' := hc
  unfold Ch.cnt at hc'
  have hNb : N < 1152921504606846976 := by omega
  have hbN : b ≤ N := by omega
  have d1 : ¬ (an : Int) < (N : Int) := by omega
  have d2 : ¬ (N : Int) < (b : Int) := by omega
  have d3 : decide ((an : Int) < (N : Int)) = false := by simpa using d1
  have d4 : decide ((N : Int) < (b : Int)) = false := by simpa using d2
  have Hd : Hid ((N : Int) - (b : Int) = (k : Int)) := by show _ = _; omega
  obtain ⟨a0, cap, rfl⟩ := h.val
  have Hat := hid hat
  have HH := hid h
  have OK := hid ok
  have Hk := hid hkl
  have HN := hid hN
  have Hb := hid hb
  have lens2 : Hid (Lens { c with bh := c.at k }) := ⟨hat, ok.lan, ok.lh⟩
  have hgl : Hid (g < w.heap.size) := h.lt
  have Hlt := hid h.lts
  have Hcase : (a0 = none ∧ cap = 0 ∧ c.ev = []) ∨ ∃ bb, a0 = some ⟨bb, 0, none⟩ ∧ c.ev.length ≤ cap := by
    rcases h.row.2 with ⟨h0, h1⟩ | ⟨j, cap', cur, hv, _, _, hcp, _⟩
    · injection h0 with e1 e2 e3
      exact .inl ⟨e1, e3, List.eq_nil_of_length_eq_zero e2⟩
    · cases hv
      exact .inr ⟨j, rfl, hcp⟩
  have Hfin : Hid (∀ (W3 w2 : World) (v' : Value), RAt W3 B g (.slice a0 c.ev.length cap) { c with bh := c.at k, bn := N } → Out (fun j => j = g) w W3 → w2.ownsRow w.heap.size 60 4 v' (c.ev.drop k).length (eCells (c.ev.drop k)) → Below w.heap.size W3 w2 →
      w2.cell? ⟨g, 99, none⟩ = some (.slice a0 c.ev.length cap) ∧ w2.frozen? ⟨g, 99, none⟩ = false ∧ RPruOk w B g c k (.returned (.tuple #[.int .i64 (k : Int), .int .i64 0])) (w2.setCell ⟨g, 99, none⟩ v')) := by
    intro W3 w2 v' H3 O3 hown hb2
    have H4 : RAt w2 B g (.slice a0 c.ev.length cap) { c with bh := c.at k, bn := N } := H3.keep (hb2.block g h.lt) (fun j hj => hb2.block j (h.lts j hj).2)
    have l4 : Lens { c with bh := c.at k, bn := N } := ⟨hat, ok.lan, ok.lh⟩
    refine ⟨H4.c99 l4, H4.fz 99, v', rfl, ?_, ?_, fun j hj => (hown.lt j hj).1⟩
    · have := H4.setV l4 v' (c.ev.drop k) (own_monoB hown hB) (fun j hj => by have := (hown.lt j hj).1; have := h.lt; omega)
      rw [show pruC c k = { c with bh := c.at k, bn := N, ev := c.ev.drop k } by rw [hN]; rfl]
      exact this
    · exact Out.setCell (O3.trans (Out.of_belowB hb2 O3.size) (fun i hi hp => absurd hp (by omega))) _ _ rfl
  clear h ok hat hkl hN hk hb han hc hc' hev
  rcases Hcase with ⟨rfl, rfl, hnil⟩ | ⟨bb, rfl, hcp⟩
  · have hk0 : k = 0 := by have := Hk.out; rw [hnil] at this; simpa using this
    subst hk0
    have l0 : c.ev.length = 0 := by rw [hnil]; rfl
    have hdr : Hid (c.ev.drop 0 = []) := by show _ = _; rw [hnil]; rfl
    rw [l0] at Hfin
    have e0 : (N : Int) - (b : Int) = 0 := Hd.out
    clear hnil
    go_enter Tryd.func30, Tryd.ntmps30
    go_wp2_with (first
      | (go_at_call 21; refine HL.out.mono ?_; rintro x w1 ⟨rfl, hb1⟩; have H1 := HH.out.below hb1; have hS6 := storeH_mid (l := c.at 0) (H1.there OK.out.l 3 32 (by omega)) Hat.out; have h2 := H1.setBh OK.out.l (c.at 0) Hat.out; have q0 := h2.c0; have qf := h2.fz 0; have h3 := h2.setBn N; have q99 := h3.c99 (c := { c with bh := c.at 0, bn := N }) ⟨lens2.out.lb, lens2.out.lan, lens2.out.lh⟩; rw [l0] at h3 q99; have f99 := h3.fz 99; have H3 := hid h3; have O1 := hid (Out.of_below (P := fun j => j = g) hb1); clear H1 h2 h3 hb1))
    go_ret2
    exact (Hfin.out _ _ (.slice none 0 0) H3.out (Out.setCell (P := fun j => j = g) (Out.setCells (P := fun j => j = g) g rfl _ _ _ O1.out) ⟨g, 0, none⟩ _ rfl) (by rw [hdr.out]; exact World.ownsRow_nil _ _ _ _) (Below.refl _ _)).2.2
  · obtain ⟨m, hm⟩ : ∃ m, c.ev.length = m + k := ⟨c.ev.length - k, by have := Hk.out; omega⟩
    have hcm : m + k ≤ cap := by omega
    have hdl : Hid (m = (c.ev.drop k).length) := by show _ = _; rw [List.length_drop]; omega
    have hfew : Hid ((c.ev.drop k).length ≤ 1000) := by show _ ≤ _; have := OK.out.few; rw [List.length_drop]; omega
    rw [hm] at Hfin
    obtain ⟨D, hD⟩ : ∃ D, D = c.ev.drop k := ⟨_, rfl⟩
    rw [← hD] at Hfin hdl hfew
    have HD := hid hD
    have Hm := hid hm
    have Hcm := hid hcm
    clear hm hcp hcm hD
    go_enter Tryd.func30, Tryd.ntmps30
    go_wp2_with (first
      | (go_at_call 21; rw [Hd.out]; refine HL.out.mono ?_; rintro x w1 ⟨rfl, hb1⟩; have H1 := HH.out.below hb1; have hS6 := storeH_mid (l := c.at k) (H1.there OK.out.l 3 32 (by omega)) Hat.out; have h2 := H1.setBh OK.out.l (c.at k) Hat.out; have q0 := h2.c0; have qf := h2.fz 0; have h3 := h2.setBn N; have q99 := h3.c99 (c := { c with bh := c.at k, bn := N }) ⟨lens2.out.lb, lens2.out.lan, lens2.out.lh⟩; rw [Hm.out] at q99; have H3 := hid h3; have O1 := hid (Out.of_below (P := fun j => j = g) hb1); clear H1 h2 h3 hb1)
      | (with_reducible show Go.wpList _ _ _ _ _ _; refine wpList_yields rfl (.slice (some (cutA bb cap k)) m (cap - k)) (y_cutK (by simp [Region.wanted]) (.tmp 45) (.tmp 46) rfl bb m k cap Hcm.out rfl rfl) ?_)
      | (at_builtin; refine app_evsG _ rfl (.tmp 41) (.tmp 47) rfl w.heap.size _ rfl (World.ownsRow_nil _ _ _ _) (some (cutA bb cap k)) m (cap - k) D hdl.out rfl (.inr ⟨_, rfl, by rw [HD.out]; exact cut_cells (B := B) (n := c.ev.length) H3.out.row Hk.out⟩) hfew.out (Out.setCell (P := fun j => j = g) (Out.setCells (P := fun j => j = g) g rfl _ _ _ O1.out) ⟨g, 0, none⟩ _ rfl).size ?_; intro v' w2 hown hb2; obtain ⟨av, cv, rfl⟩ := own_val hown; have hf := Hfin.out _ w2 _ (by rw [← Hm.out]; exact H3.out) (Out.setCell (P := fun j => j = g) (Out.setCells (P := fun j => j = g) g rfl _ _ _ O1.out) ⟨g, 0, none⟩ _ rfl) hown hb2; obtain ⟨k99, f99, hpost⟩ := hf; have Hpost := hid hpost; clear hown hb2 hpost))
    go_ret2
    exact Hpost.out

set_option maxHeartbeats 1000000 in
theorem rPrune_err {w : World} {B g : Nat} {v : Value} {c : Ch} (h : RAt w B g v c) (n : Int) (he : pruE c n ≠ 0) :
    Calls Tryd.prog 30 #[.pointer (some ⟨g, 0, none⟩), .int .i64 n] w fun x w' => x = .returned (.tuple #[.int .i64 0, .int .i64 2]) ∧ Below w.heap.size w w' := by
  have c0 := h.c0
  have c1 := h.c1
  have h2 : (c.an : Int) < n ∨ n < (c.bn : Int) := by
    unfold pruE at he
    split at he
    · assumption
    · exact absurd rfl he
  clear h he
  generalize c.an = an at *
  generalize c.bn = bn at *
  by_cases d1 : (an : Int) < n
  · have d3 : decide ((an : Int) < n) = true := by simpa using d1
    go_enter Tryd.func30, Tryd.ntmps30
    go_wp2
    go_ret2
    exact ⟨rfl, Below.refl _ _⟩
  · have d2 : n < (bn : Int) := by omega
    have d3 : decide ((an : Int) < n) = false := by simpa using d1
    have d4 : decide (n < (bn : Int)) = true := by simpa using d2
    go_enter Tryd.func30, Tryd.ntmps30
    go_wp2
    go_ret2
    exact ⟨rfl, Below.refl _ _⟩

def RPruPost (w : World) (B g : Nat) (v : Value) (c : Ch) (n : Int) (x : Ending) (w' : World) : Prop :=
  ∃ v', x = .returned (.tuple #[.int .i64 (pruN c n), .int .i64 (pruE c n)]) ∧ RAt w' B g v' (pruR c n) ∧ Out (fun j => j = g) w w' ∧ Grew w v v'
theorem rPrune_any {w : World} {B g : Nat} {v : Value} {c : Ch} (h : RAt w B g v c) (ok : ChOk c) (hev : EvOk c.ev) (hc : c.cnt < 1152921504606846976) (hB : B ≤ w.heap.size) (n : Int) :
    Calls Tryd.prog 30 #[.pointer (some ⟨g, 0, none⟩), .int .i64 n] w (RPruPost w B g v c n) := by
  by_cases he : pruE c n = 0
  · obtain ⟨k, rfl, hle⟩ := pruE_zero he
    refine (rPrune_ok h ok hev hc hB k hle).mono ?_
    rintro x w' ⟨v', rfl, h1, h2, h3⟩
    refine ⟨v', ?_, ?_, h2, fun j hj => .inr (h3 j hj)⟩
    · unfold pruN
      rw [if_pos he, he, show (((c.bn + k : Nat) : Int) - (c.bn : Int)) = (k : Int) by omega]
    · unfold pruR
      rw [if_pos he, Int.toNat_natCast, show c.bn + k - c.bn = k by omega]
      exact h1
  · refine (rPrune_err h n he).mono ?_
    rintro x w' ⟨rfl, hb⟩
    have e2 : pruE c n = 2 := by
      unfold pruE at he ⊢
      split
      · rfl
      · rename_i h9; rw [if_neg h9] at he; exact absurd rfl he
    refine ⟨v, ?_, ?_, Out.of_below hb, fun j hj => .inl hj⟩
    · unfold pruN
      rw [if_neg he, e2]
    · unfold pruR
      rw [if_neg he]
      exact h.below hb
end Go.Proofs.YthnciogaibhmcaaDoor

/- The reference's Add: the region that chains the hash, over a frame that is a letter. -/
namespace Go.Proofs.YthnciogaibhmcaaDoor
open Go.RowKit
set_option linter.unusedVariables false
set_option maxRecDepth 20000
noncomputable def codeRAdd (n : Nat) : Code := ((Tryd.f28.body.bind (regionAt n)).getD .skip)
set_option maxHeartbeats 2000000 in
theorem rAdd_region {V0 W5 : World} {B g E : Nat} {v : Value} {c : Ch} {e : Ev} {A : Act} (sz : A.tmps.size = 85) (e0 : A.eval (.tmp 0) = .pointer (some ⟨g, 0, none⟩)) (e10 : A.eval (.tmp 10) = .pointer (some ⟨E, 0, none⟩))
    (hV0 : V0 = W5.drew) (H0 : RAt V0 B g v c) (lens : Lens c) (hs0 : V0.heap[E]? = some (.cells (eVals e).toArray 60 (0, 0))) (hn : e.num ≤ 4611686018427387904) (ht : e.tim ≤ 4611686018427387904) (h12 : e.what.size ≤ 12) (h30 : e.who.size ≤ 30) (hEg : E ≠ g) :
    (codeRAdd 15).wp Tryd.prog (fun x a V => x = .normal ∧ ∃ aC cC, a = ((((((((((A.put (some 70) (.pointer (some ⟨g, 0, none⟩))).put (some 71) (.pointer (some ⟨g, 0, none⟩))).put (some 72) (.pointer (some ⟨g, 0, none⟩))).put (some 73) (.pointer (some ⟨g, 67, none⟩))).put (some 75) (.agg (eVals e).toArray)).put (some 74) (.agg (bvs c.hd))).put (some 76) (.slice aC (evB e).length cC)).put (some 77) (.agg (bvs (nextH c.hd e)))).put (some 78) (.pointer (some ⟨g, 0, none⟩))).put (some 79) (.pointer (some ⟨g, 67, none⟩))) ∧
      RAt V B g v { c with hd := nextH c.hd e } ∧ V.heap[E]? = some (.cells (eVals e).toArray 60 (0, 0)) ∧ Out (fun k => k = g) V0 V) A W5 := by
  have hm : Tryd.prog.follows .mixedOrders = true := by kernel_rfl
  unfold codeRAdd
  conv => arg 2; whnf
  refine wp_region_held (S := fun V => V.heap[E]? = some (.cells (eVals e).toArray 60 (0, 0))) hm ?_
  rw [show ({ W5 with drawn := W5.drawn + 1 } : World) = V0 from hV0.symm]
  refine wpAnyH_take (i := 0) (v := .pointer (some ⟨g, 0, none⟩)) rfl (by kernel_rfl) (by kernel_rfl) (by kernel_rfl) (fun _ _ _ h => nomatch h.1) (yields_move (by simp [Region.wanted]) (.tmp 0) rfl _ e0) hs0 ?_
  show wpAnyH _ _ _ _ _ _ _ (A.put (some 70) (.pointer (some ⟨g, 0, none⟩))) _
  refine wpAnyH_take (i := 1) (v := .pointer (some ⟨g, 0, none⟩)) rfl (by kernel_rfl) (by kernel_rfl) (by kernel_rfl) (fun _ _ _ h => nomatch h.1) (yields_move (by simp [Region.wanted]) (.tmp 0) rfl _ ((ev_ne _ _ (by decide)).trans e0)) hs0 ?_
  show wpAnyH _ _ _ _ _ _ _ ((A.put (some 70) (.pointer (some ⟨g, 0, none⟩))).put (some 71) (.pointer (some ⟨g, 0, none⟩))) _
  refine wpAnyH_take (i := 2) (v := .pointer (some ⟨g, 0, none⟩)) rfl (by kernel_rfl) (by kernel_rfl) (by kernel_rfl) (fun _ _ _ h => nomatch h.1) (y_nil (by simp [Region.wanted]) (.tmp 71) rfl _ (ev_eq _ _ (by simp [put_sz, sz]))) hs0 ?_
  show wpAnyH _ _ _ _ _ _ _ (((A.put (some 70) (.pointer (some ⟨g, 0, none⟩))).put (some 71) (.pointer (some ⟨g, 0, none⟩))).put (some 72) (.pointer (some ⟨g, 0, none⟩))) _
  refine wpAnyH_take (i := 3) (v := .pointer (some ⟨g, 67, none⟩)) rfl (by kernel_rfl) (by kernel_rfl) (by kernel_rfl) (fun _ _ _ h => nomatch h.1) (y_rf5 (by simp [Region.wanted]) (.tmp 72) rfl g (ev_eq _ _ (by simp [put_sz, sz]))) hs0 ?_
  show wpAnyH _ _ _ _ _ _ _ ((((A.put (some 70) (.pointer (some ⟨g, 0, none⟩))).put (some 71) (.pointer (some ⟨g, 0, none⟩))).put (some 72) (.pointer (some ⟨g, 0, none⟩))).put (some 73) (.pointer (some ⟨g, 67, none⟩))) _
  refine wpAnyH_take (i := 5) (v := .agg (eVals e).toArray) rfl (by kernel_rfl) (by kernel_rfl) (by kernel_rfl) (fun _ _ _ h => nomatch h.1) (y_loadE (by simp [Region.wanted]) (.tmp 10) rfl E 0 e ((ev_ne _ _ (by decide)).trans ((ev_ne _ _ (by decide)).trans ((ev_ne _ _ (by decide)).trans ((ev_ne _ _ (by decide)).trans e10)))) (fun V hV => range_mid (A := []) (C := []) hV 0 rfl)) hs0 ?_
  show wpAnyH _ _ _ _ _ _ _ (((((A.put (some 70) (.pointer (some ⟨g, 0, none⟩))).put (some 71) (.pointer (some ⟨g, 0, none⟩))).put (some 72) (.pointer (some ⟨g, 0, none⟩))).put (some 73) (.pointer (some ⟨g, 67, none⟩))).put (some 75) (.agg (eVals e).toArray)) _
  refine wpAnyH_all (rs := [4, 6]) (by kernel_rfl) (by simp) fun i1 hm1 => ?_
  have hn1 : i1 = 4 ∨ i1 = 6 := by simpa using hm1
  clear hm1
  rcases hn1 with rfl | rfl
  · refine YieldsIf.wpOp rfl (y_loadH (S := fun V => V.rangeAt g 67 (cellsOf c.hd)) (by simp [Region.wanted]) (.tmp 73) rfl g 67 c.hd lens.lh ((ev_ne _ _ (by decide)).trans (ev_eq _ _ (by simp [put_sz, sz]))) (fun V hV => hV)) (H0.rh lens) ⟨hs0, ?_⟩
    show wpAnyH _ _ _ _ _ _ _ ((((((A.put (some 70) (.pointer (some ⟨g, 0, none⟩))).put (some 71) (.pointer (some ⟨g, 0, none⟩))).put (some 72) (.pointer (some ⟨g, 0, none⟩))).put (some 73) (.pointer (some ⟨g, 67, none⟩))).put (some 75) (.agg (eVals e).toArray)).put (some 74) (.agg (bvs c.hd))) _
    refine wpAnyH_all (rs := [6]) (by kernel_rfl) (by simp) fun i2 hm2 => ?_
    obtain rfl : i2 = 6 := by simpa using hm2
    refine wpOp_own rfl rfl fun K2 hK2 => ?_
    refine wp_calls1 51 hf_rbytes (.tmp 75) _ rfl (.agg (eVals e).toArray) ((ev_ne _ _ (by decide)).trans (ev_eq _ _ (by simp [put_sz, sz]))) ?_
    refine (rBytes_any V0 e hn ht h12 h30).mono ?_
    rintro _ V1 ⟨aC, cC, rfl, hby, hb1, hcC, hnC⟩
    have hs1 := (hb1.block E (heap_lt hs0)).trans hs0
    have H1 := H0.below hb1
    refine ⟨_, rfl, hK2 _ _ ⟨hs1, ?_⟩⟩
    clear hK2 K2 hm2
    show wpAnyH _ _ _ _ _ _ _ (((((((A.put (some 70) (.pointer (some ⟨g, 0, none⟩))).put (some 71) (.pointer (some ⟨g, 0, none⟩))).put (some 72) (.pointer (some ⟨g, 0, none⟩))).put (some 73) (.pointer (some ⟨g, 67, none⟩))).put (some 75) (.agg (eVals e).toArray)).put (some 74) (.agg (bvs c.hd))).put (some 76) (.slice aC (evB e).length cC)) _
    obtain ⟨A3, hA3⟩ : ∃ A3, A3 = (((((((A.put (some 70) (.pointer (some ⟨g, 0, none⟩))).put (some 71) (.pointer (some ⟨g, 0, none⟩))).put (some 72) (.pointer (some ⟨g, 0, none⟩))).put (some 73) (.pointer (some ⟨g, 67, none⟩))).put (some 75) (.agg (eVals e).toArray)).put (some 74) (.agg (bvs c.hd))).put (some 76) (.slice aC (evB e).length cC)) := ⟨_, rfl⟩
    have szA3 : A3.tmps.size = 85 := by rw [hA3]; simp [put_sz, sz]
    have eA370 : A3.eval (.tmp 70) = .pointer (some ⟨g, 0, none⟩) := by rw [hA3]; exact ((ev_ne _ _ (by decide)).trans ((ev_ne _ _ (by decide)).trans ((ev_ne _ _ (by decide)).trans ((ev_ne _ _ (by decide)).trans ((ev_ne _ _ (by decide)).trans ((ev_ne _ _ (by decide)).trans (ev_eq _ _ (by simp [sz]))))))))
    have eA374 : A3.eval (.tmp 74) = .agg (bvs c.hd) := by rw [hA3]; exact ((ev_ne _ _ (by decide)).trans (ev_eq _ _ (by simp [put_sz, sz])))
    have eA376 : A3.eval (.tmp 76) = .slice aC (evB e).length cC := by rw [hA3]; exact (ev_eq _ _ (by simp [put_sz, sz]))
    rw [← hA3]
    refine wpAnyH_all (rs := [7]) (by kernel_rfl) (by simp) fun i3 hm3 => ?_
    obtain rfl : i3 = 7 := by simpa using hm3
    refine wpOp_own rfl rfl fun K3 hK3 => ?_
    refine wp_calls2 50 hf_rchain (.tmp 74) (.tmp 76) _ rfl (.agg (bvs c.hd)) (.slice aC (evB e).length cC) eA374 eA376 ?_
    refine (refChain_any (w := V1) (h := c.hd) (H := bvs c.hd) ⟨rfl, lens.lh⟩ (evB e) aC (evB e).length cC rfl hby (by have := evB_bound e; omega) hnC).mono ?_
    rintro _ V2 ⟨O, rfl, hO, hb2⟩
    obtain rfl : O = bvs (nextH c.hd e) := hO.out.eq
    have hs2 := (hb2.block E (heap_lt hs1)).trans hs1
    have H2 := H1.below hb2
    refine ⟨_, rfl, hK3 _ _ ⟨hs2, ?_⟩⟩
    clear hK3 K3 hm3
    show wpAnyH _ _ _ _ _ _ _ (A3.put (some 77) (.agg (bvs (nextH c.hd e)))) _
    refine wpAnyH_take (i := 8) (v := .pointer (some ⟨g, 0, none⟩)) rfl (by kernel_rfl) (by kernel_rfl) (by kernel_rfl) (fun _ _ _ h => nomatch h.1) (y_nil (by simp [Region.wanted]) (.tmp 70) rfl _ ((ev_ne _ _ (by decide)).trans eA370)) hs2 ?_
    show wpAnyH _ _ _ _ _ _ _ ((A3.put (some 77) (.agg (bvs (nextH c.hd e)))).put (some 78) (.pointer (some ⟨g, 0, none⟩))) _
    refine wpAnyH_take (i := 9) (v := .pointer (some ⟨g, 67, none⟩)) rfl (by kernel_rfl) (by kernel_rfl) (by kernel_rfl) (fun _ _ _ h => nomatch h.1) (y_rf5 (by simp [Region.wanted]) (.tmp 78) rfl g (ev_eq _ _ (by simp [put_sz, szA3]))) hs2 ?_
    show wpAnyH _ _ _ _ _ _ _ (((A3.put (some 77) (.agg (bvs (nextH c.hd e)))).put (some 78) (.pointer (some ⟨g, 0, none⟩))).put (some 79) (.pointer (some ⟨g, 67, none⟩))) _
    refine wpAnyH_all (rs := [10]) (by kernel_rfl) (by simp) fun i4 hm4 => ?_
    obtain rfl : i4 = 10 := by simpa using hm4
    refine wpOp_own rfl rfl fun K4 hK4 => ?_
    refine wp_store_mid 49 (.tmp 79) (.tmp 77) rfl g 67 (bvs (nextH c.hd e)) (ev_eq _ _ (by simp [put_sz, szA3])) ((ev_ne _ _ (by decide)).trans ((ev_ne _ _ (by decide)).trans (ev_eq _ _ (by simp [szA3])))) (by rw [bvs_size, nextH_length]; exact H2.there lens 67 32 (by omega)) (by rw [bvs_size, nextH_length]; exact size_hash) (bvs_one _) ?_
    rw [show (bvs (nextH c.hd e)).toList = cellsOf (nextH c.hd e) from rfl]
    have hs3 : (V2.setCells g 67 (cellsOf (nextH c.hd e))).heap[E]? = some (.cells (eVals e).toArray 60 (0, 0)) := (other_setCells g E hEg _ _ _).trans hs2
    refine hK4 _ _ ⟨hs3, wpAnyH_done (by kernel_rfl) ⟨rfl, aC, cC, ?_, H2.setHd lens _ (nextH_length _ _), hs3, Out.setCells (P := fun x => x = g) g rfl _ _ _ ((Out.of_below (P := fun x => x = g) hb1).on hb2)⟩ _⟩
    show (((A3.put (some 77) (.agg (bvs (nextH c.hd e)))).put (some 78) (.pointer (some ⟨g, 0, none⟩))).put (some 79) (.pointer (some ⟨g, 67, none⟩))) = _
    rw [hA3]
  · refine wpOp_own rfl rfl fun K2 hK2 => ?_
    refine wp_calls1 51 hf_rbytes (.tmp 75) _ rfl (.agg (eVals e).toArray) (ev_eq _ _ (by simp [put_sz, sz])) ?_
    refine (rBytes_any V0 e hn ht h12 h30).mono ?_
    rintro _ V1 ⟨aC, cC, rfl, hby, hb1, hcC, hnC⟩
    have hs1 := (hb1.block E (heap_lt hs0)).trans hs0
    have H1 := H0.below hb1
    refine ⟨_, rfl, hK2 _ _ ⟨hs1, ?_⟩⟩
    clear hK2 K2
    show wpAnyH _ _ _ _ _ _ _ ((((((A.put (some 70) (.pointer (some ⟨g, 0, none⟩))).put (some 71) (.pointer (some ⟨g, 0, none⟩))).put (some 72) (.pointer (some ⟨g, 0, none⟩))).put (some 73) (.pointer (some ⟨g, 67, none⟩))).put (some 75) (.agg (eVals e).toArray)).put (some 76) (.slice aC (evB e).length cC)) _
    refine wpAnyH_all (rs := [4]) (by kernel_rfl) (by simp) fun i3 hm3 => ?_
    obtain rfl : i3 = 4 := by simpa using hm3
    refine YieldsIf.wpOp rfl (y_loadH (S := fun V => V.rangeAt g 67 (cellsOf c.hd)) (by simp [Region.wanted]) (.tmp 73) rfl g 67 c.hd lens.lh ((ev_ne _ _ (by decide)).trans ((ev_ne _ _ (by decide)).trans (ev_eq _ _ (by simp [put_sz, sz])))) (fun V hV => hV)) (H1.rh lens) ⟨hs1, ?_⟩
    show wpAnyH _ _ _ _ _ _ _ (((((((A.put (some 70) (.pointer (some ⟨g, 0, none⟩))).put (some 71) (.pointer (some ⟨g, 0, none⟩))).put (some 72) (.pointer (some ⟨g, 0, none⟩))).put (some 73) (.pointer (some ⟨g, 67, none⟩))).put (some 75) (.agg (eVals e).toArray)).put (some 76) (.slice aC (evB e).length cC)).put (some 74) (.agg (bvs c.hd))) _
    obtain ⟨A3, hA3⟩ : ∃ A3, A3 = (((((((A.put (some 70) (.pointer (some ⟨g, 0, none⟩))).put (some 71) (.pointer (some ⟨g, 0, none⟩))).put (some 72) (.pointer (some ⟨g, 0, none⟩))).put (some 73) (.pointer (some ⟨g, 67, none⟩))).put (some 75) (.agg (eVals e).toArray)).put (some 76) (.slice aC (evB e).length cC)).put (some 74) (.agg (bvs c.hd))) := ⟨_, rfl⟩
    have szA3 : A3.tmps.size = 85 := by rw [hA3]; simp [put_sz, sz]
    have eA370 : A3.eval (.tmp 70) = .pointer (some ⟨g, 0, none⟩) := by rw [hA3]; exact ((ev_ne _ _ (by decide)).trans ((ev_ne _ _ (by decide)).trans ((ev_ne _ _ (by decide)).trans ((ev_ne _ _ (by decide)).trans ((ev_ne _ _ (by decide)).trans ((ev_ne _ _ (by decide)).trans (ev_eq _ _ (by simp [sz]))))))))
    have eA374 : A3.eval (.tmp 74) = .agg (bvs c.hd) := by rw [hA3]; exact (ev_eq _ _ (by simp [put_sz, sz]))
    have eA376 : A3.eval (.tmp 76) = .slice aC (evB e).length cC := by rw [hA3]; exact ((ev_ne _ _ (by decide)).trans (ev_eq _ _ (by simp [put_sz, sz])))
    rw [← hA3]
    refine wpAnyH_all (rs := [7]) (by kernel_rfl) (by simp) fun i4 hm4 => ?_
    obtain rfl : i4 = 7 := by simpa using hm4
    refine wpOp_own rfl rfl fun K4 hK4 => ?_
    refine wp_calls2 50 hf_rchain (.tmp 74) (.tmp 76) _ rfl (.agg (bvs c.hd)) (.slice aC (evB e).length cC) eA374 eA376 ?_
    refine (refChain_any (w := V1) (h := c.hd) (H := bvs c.hd) ⟨rfl, lens.lh⟩ (evB e) aC (evB e).length cC rfl hby (by have := evB_bound e; omega) hnC).mono ?_
    rintro _ V2 ⟨O, rfl, hO, hb2⟩
    obtain rfl : O = bvs (nextH c.hd e) := hO.out.eq
    have hs2 := (hb2.block E (heap_lt hs1)).trans hs1
    have H2 := H1.below hb2
    refine ⟨_, rfl, hK4 _ _ ⟨hs2, ?_⟩⟩
    clear hK4 K4 hm4
    show wpAnyH _ _ _ _ _ _ _ (A3.put (some 77) (.agg (bvs (nextH c.hd e)))) _
    refine wpAnyH_take (i := 8) (v := .pointer (some ⟨g, 0, none⟩)) rfl (by kernel_rfl) (by kernel_rfl) (by kernel_rfl) (fun _ _ _ h => nomatch h.1) (y_nil (by simp [Region.wanted]) (.tmp 70) rfl _ ((ev_ne _ _ (by decide)).trans eA370)) hs2 ?_
    show wpAnyH _ _ _ _ _ _ _ ((A3.put (some 77) (.agg (bvs (nextH c.hd e)))).put (some 78) (.pointer (some ⟨g, 0, none⟩))) _
    refine wpAnyH_take (i := 9) (v := .pointer (some ⟨g, 67, none⟩)) rfl (by kernel_rfl) (by kernel_rfl) (by kernel_rfl) (fun _ _ _ h => nomatch h.1) (y_rf5 (by simp [Region.wanted]) (.tmp 78) rfl g (ev_eq _ _ (by simp [put_sz, szA3]))) hs2 ?_
    show wpAnyH _ _ _ _ _ _ _ (((A3.put (some 77) (.agg (bvs (nextH c.hd e)))).put (some 78) (.pointer (some ⟨g, 0, none⟩))).put (some 79) (.pointer (some ⟨g, 67, none⟩))) _
    refine wpAnyH_all (rs := [10]) (by kernel_rfl) (by simp) fun i5 hm5 => ?_
    obtain rfl : i5 = 10 := by simpa using hm5
    refine wpOp_own rfl rfl fun K5 hK5 => ?_
    refine wp_store_mid 49 (.tmp 79) (.tmp 77) rfl g 67 (bvs (nextH c.hd e)) (ev_eq _ _ (by simp [put_sz, szA3])) ((ev_ne _ _ (by decide)).trans ((ev_ne _ _ (by decide)).trans (ev_eq _ _ (by simp [szA3])))) (by rw [bvs_size, nextH_length]; exact H2.there lens 67 32 (by omega)) (by rw [bvs_size, nextH_length]; exact size_hash) (bvs_one _) ?_
    rw [show (bvs (nextH c.hd e)).toList = cellsOf (nextH c.hd e) from rfl]
    have hs3 : (V2.setCells g 67 (cellsOf (nextH c.hd e))).heap[E]? = some (.cells (eVals e).toArray 60 (0, 0)) := (other_setCells g E hEg _ _ _).trans hs2
    refine hK5 _ _ ⟨hs3, wpAnyH_done (by kernel_rfl) ⟨rfl, aC, cC, ?_, H2.setHd lens _ (nextH_length _ _), hs3, Out.setCells (P := fun x => x = g) g rfl _ _ _ ((Out.of_below (P := fun x => x = g) hb1).on hb2)⟩ _⟩
    show (((A3.put (some 77) (.agg (bvs (nextH c.hd e)))).put (some 78) (.pointer (some ⟨g, 0, none⟩))).put (some 79) (.pointer (some ⟨g, 67, none⟩))) = _
    rw [hA3, put_swap (d := 76) (e := 74) _ (by decide)]
theorem app_ev1 (w : World) {ops : Array Oper} {rest : List Oper} {o : Oper} {a : Act} {Q : Exit → Act → World → Prop} (hgd : o.guard = none) (s x : Operand) (ho : o.op = .call { callee := .builtin .append, args := #[s, x], argTypes := #[46, 46] })
    (B : Nat) (v : Value) (l : List Ev) (hs : a.eval s = v) (hown : w.ownsRow B 60 4 v l.length (eCells l)) (e : Ev) (b : Nat) (hx : a.eval x = .slice (some ⟨b, 0, none⟩) 1 1) (hr : w.rangeAt b 0 (eVals e)) (hl : l.length ≤ 1000) (hB : B ≤ w.heap.size)
    (h : ∀ k cap w', w'.ownsRow B 60 4 (.slice (some ⟨k, 0, none⟩) (l ++ [e]).length cap) (l ++ [e]).length (eCells (l ++ [e])) → w.grownBy w' v.ownBlock → (v.ownBlock = some k ∨ k = w.heap.size) → wpList Tryd.prog ops Q rest (a.put o.dst (.slice (some ⟨k, 0, none⟩) (l ++ [e]).length cap)) w') : wpList Tryd.prog ops Q (o :: rest) a w :=
  wpList_plain hgd fun K hK => wp_appE w s x ho B v l hs hown e b hx hr hl hB (fun k cap w' h1 h2 h3 => hK _ _ (h k cap w' h1 h2 h3))
theorem build_ev1 (w : World) {ops : Array Oper} {rest : List Oper} {o : Oper} {a : Act} {Q : Exit → Act → World → Prop} (hgd : o.guard = none) (x : Operand) (ho : o.op = .buildSlice 46 1 #[(0, x)]) (e : Ev) (h0 : a.eval x = .agg (eVals e).toArray)
    (h : wpList Tryd.prog ops Q rest (a.put o.dst (.slice (some ⟨w.heap.size, 0, none⟩) 1 1)) (w.alloc (.cells (eVals e).toArray 60))) : wpList Tryd.prog ops Q (o :: rest) a w :=
  wpList_plain hgd fun K hK => wp_buildE x ho e h0 (hK _ _ h)
end Go.Proofs.YthnciogaibhmcaaDoor

/- The reference's Add, by a contract. -/
namespace Go.Proofs.YthnciogaibhmcaaDoor
open Go.RowKit
set_option linter.unusedVariables false
set_option maxRecDepth 20000

set_option maxHeartbeats 4000000 in
theorem rAdd_err {w : World} {B g : Nat} {v : Value} {c : Ch} (h : RAt w B g v c) (ok : Lens c) (t : Int) (what who : ByteArray) (h1 : what.size ≤ 9223372036854775807) (h2 : who.size ≤ 9223372036854775807) (hlen : c.ev.length ≤ 1000) (he : addE c t what who ≠ 0) :
    Calls Tryd.prog 28 #[.pointer (some ⟨g, 0, none⟩), .int .i64 t, .string what, .string who] w fun x w' => x = .returned (.tuple #[.agg (eVals ev0).toArray, .int .i64 (addE c t what who)]) ∧ Below w.heap.size w w' := by
  have b0 : Below w.heap.size w (w.alloc (.cells #[.int .i64 0, .int .i64 0, .string ⟨#[]⟩, .string ⟨#[]⟩] 60)) := (Below.refl _ w).alloc (Nat.le_refl _) _
  have R0 : Hid ((w.alloc (.cells #[.int .i64 0, .int .i64 0, .string ⟨#[]⟩, .string ⟨#[]⟩] 60)).heap[w.heap.size]? = some (.cells (eVals ev0).toArray 60 (0, 0))) := heap_alloc_new w _
  have H0 := h.below b0
  obtain ⟨a0, cap, rfl⟩ := h.val
  have c2 := H0.c2
  have c99 := H0.c99 ok
  have B0 := hid b0
  unfold addE at he ⊢
  clear h H0 ok b0
  generalize c.ev.length = n at *
  generalize c.la = la at *
  by_cases e1 : t < 0 ∨ 1099511627776 < t
  · rw [if_pos e1]
    clear he
    by_cases e0 : t < 0
    · have d0 : decide (t < 0) = true := by simpa using e0
      go_enter Tryd.func28, Tryd.ntmps28
      go_wp2_with (first
        | (with_reducible show Go.wpList _ _ _ _ _ _; refine wpList_build_none rfl 60 rfl (eVals ev0).toArray built_ev ?_)
        | (with_reducible show Go.wpList _ _ _ _ _ _; refine wpList_store_row rfl 60 _ _ rfl w.heap.size (eVals ev0).toArray rfl rfl 60 (eVals ev0).toArray R0.out (size_evs ev0) (ev_sizes ev0 ev0) (ev_one ev0) ?_))
      all_goals
        refine bodyPost_ret (results_row_tmp rfl _ _ w.heap.size 60 (eVals ev0).toArray (0, 0) _ rfl (setRow_heap _ _ _ _ _ _ R0.out) Tryd.underlying60 rfl size_ev) rfl ?_
        exact ⟨rfl, B0.out.setRow (Nat.le_refl _) _⟩
    · have d0 : decide (t < 0) = false := by simpa using e0
      have e3 : 1099511627776 < t := by omega
      have d1 : decide (1099511627776 < t) = true := by simpa using e3
      go_enter Tryd.func28, Tryd.ntmps28
      go_wp2_with (first
        | (with_reducible show Go.wpList _ _ _ _ _ _; refine wpList_build_none rfl 60 rfl (eVals ev0).toArray built_ev ?_)
        | (with_reducible show Go.wpList _ _ _ _ _ _; refine wpList_store_row rfl 60 _ _ rfl w.heap.size (eVals ev0).toArray rfl rfl 60 (eVals ev0).toArray R0.out (size_evs ev0) (ev_sizes ev0 ev0) (ev_one ev0) ?_))
      all_goals
        refine bodyPost_ret (results_row_tmp rfl _ _ w.heap.size 60 (eVals ev0).toArray (0, 0) _ rfl (setRow_heap _ _ _ _ _ _ R0.out) Tryd.underlying60 rfl size_ev) rfl ?_
        exact ⟨rfl, B0.out.setRow (Nat.le_refl _) _⟩
  · rw [if_neg e1] at he ⊢
    have d0 : decide (t < 0) = false := by simp; omega
    have d1 : decide (1099511627776 < t) = false := by simp; omega
    have n0 : ¬ t < 0 := by omega
    have n1 : ¬ 1099511627776 < t := by omega
    by_cases e2 : 12 < what.size ∨ 30 < who.size
    · rw [if_pos e2]
      clear he
      by_cases e0 : 12 < what.size
      · have z0 : (12 : Int) < (what.size : Int) := by omega
        have z1 : decide ((12 : Int) < (what.size : Int)) = true := by simpa using z0
        go_enter Tryd.func28, Tryd.ntmps28
        go_wp2_with (first
          | (with_reducible show Go.wpList _ _ _ _ _ _; refine wpList_build_none rfl 60 rfl (eVals ev0).toArray built_ev ?_)
          | (with_reducible show Go.wpList _ _ _ _ _ _; refine wpList_store_row rfl 60 _ _ rfl w.heap.size (eVals ev0).toArray rfl rfl 60 (eVals ev0).toArray R0.out (size_evs ev0) (ev_sizes ev0 ev0) (ev_one ev0) ?_))
        all_goals
          refine bodyPost_ret (results_row_tmp rfl _ _ w.heap.size 60 (eVals ev0).toArray (0, 0) _ rfl (setRow_heap _ _ _ _ _ _ R0.out) Tryd.underlying60 rfl size_ev) rfl ?_
          exact ⟨rfl, B0.out.setRow (Nat.le_refl _) _⟩
      · have z0 : ¬ (12 : Int) < (what.size : Int) := by omega
        have z1 : decide ((12 : Int) < (what.size : Int)) = false := by simpa using z0
        have z2 : (30 : Int) < (who.size : Int) := by omega
        have z3 : decide ((30 : Int) < (who.size : Int)) = true := by simpa using z2
        go_enter Tryd.func28, Tryd.ntmps28
        go_wp2_with (first
          | (with_reducible show Go.wpList _ _ _ _ _ _; refine wpList_build_none rfl 60 rfl (eVals ev0).toArray built_ev ?_)
          | (with_reducible show Go.wpList _ _ _ _ _ _; refine wpList_store_row rfl 60 _ _ rfl w.heap.size (eVals ev0).toArray rfl rfl 60 (eVals ev0).toArray R0.out (size_evs ev0) (ev_sizes ev0 ev0) (ev_one ev0) ?_))
        all_goals
          refine bodyPost_ret (results_row_tmp rfl _ _ w.heap.size 60 (eVals ev0).toArray (0, 0) _ rfl (setRow_heap _ _ _ _ _ _ R0.out) Tryd.underlying60 rfl size_ev) rfl ?_
          exact ⟨rfl, B0.out.setRow (Nat.le_refl _) _⟩
    · rw [if_neg e2] at he ⊢
      have z0 : ¬ (12 : Int) < (what.size : Int) := by omega
      have z1 : decide ((12 : Int) < (what.size : Int)) = false := by simpa using z0
      have z2 : ¬ (30 : Int) < (who.size : Int) := by omega
      have z3 : decide ((30 : Int) < (who.size : Int)) = false := by simpa using z2
      clear e2
      by_cases e3 : t < (la : Int)
      · rw [if_pos e3]
        clear he
        go_enter Tryd.func28, Tryd.ntmps28
        go_wp2_with (first
          | (with_reducible show Go.wpList _ _ _ _ _ _; refine wpList_build_none rfl 60 rfl (eVals ev0).toArray built_ev ?_)
          | (with_reducible show Go.wpList _ _ _ _ _ _; refine wpList_store_row rfl 60 _ _ rfl w.heap.size (eVals ev0).toArray rfl rfl 60 (eVals ev0).toArray R0.out (size_evs ev0) (ev_sizes ev0 ev0) (ev_one ev0) ?_))
        all_goals
          refine bodyPost_ret (results_row_tmp rfl _ _ w.heap.size 60 (eVals ev0).toArray (0, 0) _ rfl (setRow_heap _ _ _ _ _ _ R0.out) Tryd.underlying60 rfl size_ev) rfl ?_
          exact ⟨rfl, B0.out.setRow (Nat.le_refl _) _⟩
      · rw [if_neg e3] at he ⊢
        by_cases e4 : 64 ≤ n
        · rw [if_pos e4]
          have d4 : (64 : Int) ≤ (n : Int) := by omega
          clear he
          go_enter Tryd.func28, Tryd.ntmps28
          go_wp2_with (first
            | (with_reducible show Go.wpList _ _ _ _ _ _; refine wpList_build_none rfl 60 rfl (eVals ev0).toArray built_ev ?_)
            | (with_reducible show Go.wpList _ _ _ _ _ _; refine wpList_store_row rfl 60 _ _ rfl w.heap.size (eVals ev0).toArray rfl rfl 60 (eVals ev0).toArray R0.out (size_evs ev0) (ev_sizes ev0 ev0) (ev_one ev0) ?_))
          all_goals
            refine bodyPost_ret (results_row_tmp rfl _ _ w.heap.size 60 (eVals ev0).toArray (0, 0) _ rfl (setRow_heap _ _ _ _ _ _ R0.out) Tryd.underlying60 rfl size_ev) rfl ?_
            exact ⟨rfl, B0.out.setRow (Nat.le_refl _) _⟩
        · rw [if_neg e4] at he
          exact absurd rfl he
end Go.Proofs.YthnciogaibhmcaaDoor

/- The reference's Add, by a contract. -/
namespace Go.Proofs.YthnciogaibhmcaaDoor
open Go.RowKit
set_option linter.unusedVariables false
set_option maxRecDepth 20000

def RAddOk (w : World) (B g : Nat) (c : Ch) (t : Int) (what who : ByteArray) (x : Ending) (w' : World) : Prop :=
  ∃ v', x = .returned (.tuple #[.agg (eVals (newE c t what who)).toArray, .int .i64 0]) ∧ RAt w' B g v' (addC c t what who) ∧ Out (fun j => j = g) w w' ∧ ∀ j, v'.ownBlock = some j → w.heap.size ≤ j

theorem own_src {w : World} {B n cap : Nat} {a0 : Option Addr} {l : List Ev} (h : w.ownsRow B 60 4 (.slice a0 n cap) l.length (eCells l)) : (a0 = none ∧ l = [] ∧ cap = 0) ∨ ∃ p, a0 = some p ∧ ∀ j u, (eCells l)[j]? = some u → w.cell? (p.add j) = some u := by
  rcases h.2 with ⟨h0, h1⟩ | ⟨b, cap', cur, hv, _, hg, _, _, _, ht⟩
  · injection h0 with e1 e2 e3
    exact .inl ⟨e1, List.eq_nil_of_length_eq_zero h1, e3⟩
  · cases hv
    refine .inr ⟨_, rfl, fun j u hj => ?_⟩
    have hj' : j < l.length * 4 := by
      have := (List.getElem?_eq_some_iff.1 hj).1
      rwa [eCells_length] at this
    rw [addr_add, cell_of_row _ _ _ _ _ _ hg, ← Array.getElem?_toList, Nat.zero_add]
    rw [← ht, List.getElem?_take_of_lt (by omega)] at hj
    exact hj

set_option maxHeartbeats 4000000 in
theorem rAdd_ok {w : World} {B g : Nat} {v : Value} {c : Ch} (h : RAt w B g v c) (ok : ChOk c) (hc : c.cnt < 1152921504606846976) (hB : B ≤ w.heap.size) (t : Int) (what who : ByteArray) (he : addE c t what who = 0) :
    Calls Tryd.prog 28 #[.pointer (some ⟨g, 0, none⟩), .int .i64 t, .string what, .string who] w (RAddOk w B g c t what who) := by
  obtain ⟨W0, hW0⟩ : ∃ W0, W0 = w.alloc (.cells #[.int .i64 0, .int .i64 0, .string ⟨#[]⟩, .string ⟨#[]⟩] 60) := ⟨_, rfl⟩
  have b0 : Below w.heap.size w W0 := by rw [hW0]; exact (Below.refl _ w).alloc (Nat.le_refl _) _
  have r0 : W0.heap[w.heap.size]? = some (.cells (eVals ev0).toArray 60 (0, 0)) := by rw [hW0]; exact heap_alloc_new w _
  have H0 := h.below b0
  obtain ⟨t1, t2, t3, t4, t5, t6⟩ := addE_zero he
  obtain ⟨tn, rfl⟩ : ∃ tn : Nat, t = (tn : Int) := ⟨t.toNat, by omega⟩
  have HC := hid (rCount_any H0 ok hc)
  have en : Hid (newE c (tn : Int) what who = ⟨c.cnt + 1, tn, what, who⟩) := rfl
  have hac : Hid (addC c (tn : Int) what who = { c with ev := c.ev ++ [newE c (tn : Int) what who], hd := nextH c.hd (newE c (tn : Int) what who), la := tn }) := rfl
  obtain ⟨a0, cap, rfl⟩ := h.val
  have hlts := hid h.lts
  have hgl := hid h.lt
  have H0' := hid H0
  have OK := hid ok
  have HB0 := hid b0
  have HW := hid hW0
  have R0 := hid r0
  have c2 := H0.c2
  have c99 := H0.c99 ok.l
  rw [hW0] at c2 c99
  obtain ⟨m, hm⟩ : ∃ m, m = c.cnt := ⟨_, rfl⟩
  have Hm := hid hm
  rw [← hm] at HC hc
  have hfew := ok.few
  obtain ⟨la, hla⟩ : ∃ la, la = c.la := ⟨_, rfl⟩
  rw [← hla] at c2 t5
  have d0 : decide ((tn : Int) < 0) = false := by simp
  have d1 : decide (1099511627776 < (tn : Int)) = false := by simp; omega
  have n0 : ¬ (tn : Int) < 0 := by omega
  have n1 : ¬ 1099511627776 < (tn : Int) := by omega
  have z0 : ¬ (12 : Int) < (what.size : Int) := by omega
  have z1 : decide ((12 : Int) < (what.size : Int)) = false := by simpa using z0
  have z2 : ¬ (30 : Int) < (who.size : Int) := by omega
  have z3 : decide ((30 : Int) < (who.size : Int)) = false := by simpa using z2
  have e3 : ¬ (tn : Int) < (la : Int) := by omega
  obtain ⟨n, hn⟩ : ∃ n, n = c.ev.length := ⟨_, rfl⟩
  have Hn := hid hn
  rw [← hn] at c99 t6 hfew
  have d4 : ¬ (64 : Int) ≤ (n : Int) := by omega
  have lens := hid ok.l
  have T3 := hid t3
  have T4 := hid t4
  clear h ok hW0 hm he t5 H0 b0 r0 hla hn t3 t4
  obtain ⟨e, hee⟩ : ∃ e, e = newE c (tn : Int) what who := ⟨_, rfl⟩
  have hev : Hid ((#[.int .i64 ((m : Int) + 1), .int .i64 (tn : Int), .string what, .string who] : Array Value) = (eVals e).toArray) := by
    show _ = _
    rw [hee, en.out, ← Hm.out]
    simp [eVals]
  have he1 : Hid (e.num = m + 1) := by show _ = _; rw [hee, en.out, ← Hm.out]
  have he2 : Hid (e.tim = tn) := by show _ = _; rw [hee, en.out]
  have he3 : Hid (e.what = what) := by show _ = _; rw [hee, en.out]
  have he4 : Hid (e.who = who) := by show _ = _; rw [hee, en.out]
  rw [← hee] at hac
  have HEE := hid hee
  obtain ⟨D, hD⟩ : ∃ D, D = c.ev ++ [e] := ⟨_, rfl⟩
  have HD := hid hD
  have hbig : Hid (c.ev.length ≤ 1000) := by show _ ≤ _; have := Hn.out; omega
  clear hee en hD
  go_enter Tryd.func28, Tryd.ntmps28
  go_wp2_with (first
    | (go_at_call 35; rw [show w.alloc (.cells #[.int .i64 0, .int .i64 0, .string ⟨#[]⟩, .string ⟨#[]⟩] 60) = W0 from HW.out.symm]; refine HC.out.mono ?_; rintro x w1 ⟨rfl, hb1⟩; have hb5 : Below w1.heap.size w1 (w1.alloc (.cells #[.int .i64 ((m : Int) + 1), .int .i64 (tn : Int), .string what, .string who] 60)) := (Below.refl _ w1).alloc (Nat.le_refl _) _; have h5 := (H0'.out.below hb1).below hb5; have c5 := h5.c99 lens.out; rw [← Hn.out] at c5; have s5 : Hid ((w1.alloc (.cells #[.int .i64 ((m : Int) + 1), .int .i64 (tn : Int), .string what, .string who] 60)).heap[w1.heap.size]? = some (.cells (eVals e).toArray 60 (0, 0))) := (by show _ = _; rw [← hev.out]; exact heap_alloc_new w1 _); have Hb1 := hid hb1; have Hb5 := hid hb5; have H5 := hid h5; clear hb1 hb5 h5)
    | (at_builtin; refine app_evsG _ rfl (.tmp 57) (.tmp 61) rfl _ _ rfl (World.ownsRow_nil _ _ _ _) a0 n cap c.ev Hn.out rfl (own_src H5.out.row) hbig.out (Nat.le_refl _) ?_; intro v1 W6 hown6 hb6; obtain ⟨a1, c1, rfl⟩ := own_val hown6; have Hown6 := hid hown6; have Hb6 := hid hb6; have s6 := hid ((hb6.block _ (heap_lt s5.out)).trans s5.out); clear hown6 hb6)
    | (with_reducible show Go.wpList _ _ _ _ _ _; refine wpList_load_row rfl 60 (.tmp 10) rfl w1.heap.size rfl _ _ _ _ s6.out Tryd.underlying60 rfl (size_evs e) ?_)
    | (with_reducible show Go.wpList _ _ _ _ _ _; refine build_ev1 _ rfl (.tmp 65) rfl e rfl ?_)
    | (at_builtin; refine app_ev1 _ rfl (.tmp 64) (.tmp 66) rfl _ _ c.ev rfl (Hown6.out.alloc _) e _ rfl (range_new W6 e) hbig.out (Nat.le_trans Hb6.out.size (by simp)) ?_; intro k cp W8 hown8 hg8 hk8; rw [← HD.out]; rw [← HD.out] at hown8; have b8 := (Hb6.out.alloc Hb6.out.size (.cells (eVals e).toArray 60)).grown hg8 (Nat.le_trans Hb6.out.size (by simp)) (fun j ej => (Hown6.out.lt j ej).1); have h8 := H5.out.below b8; have k99 := h8.c99 lens.out; have f99 := h8.fz 99; have B8 := hid b8; have H8 := hid h8; have Hown8 := hid hown8; clear b8 h8 hown8 hg8 hk8))
  have sz1 : w.heap.size + 1 ≤ w1.heap.size := Nat.lt_of_lt_of_le (heap_lt R0.out) Hb1.out.size
  have hg1 := hgl.out
  have hE : w1.heap.size ≠ g := by omega
  have hN : w.heap.size ≠ g := by omega
  have sz5 : w1.heap.size ≤ (w1.alloc (.cells #[.int .i64 ((m : Int) + 1), .int .i64 (tn : Int), .string what, .string who] 60)).heap.size := Hb5.out.size
  have bw5 : Below w.heap.size w (w1.alloc (.cells #[.int .i64 ((m : Int) + 1), .int .i64 (tn : Int), .string what, .string who] 60)) := Below.on' (Below.on' HB0.out Hb1.out) Hb5.out
  have s8 := (B8.out.block _ (heap_lt s5.out)).trans s5.out
  have r5 : (w1.alloc (.cells #[.int .i64 ((m : Int) + 1), .int .i64 (tn : Int), .string what, .string who] 60)).heap[w.heap.size]? = some (.cells (eVals ev0).toArray 60 (0, 0)) := by
    rw [Hb5.out.block _ (by omega), Hb1.out.block _ (heap_lt R0.out)]
    exact R0.out
  have r8 := (B8.out.block _ (heap_lt r5)).trans r5
  have h9 := H8.out.setV lens.out _ D (own_monoB Hown8.out (Nat.le_trans hB bw5.size)) (fun j hj => by have := (Hown8.out.lt j hj).1; omega)
  have hnew : Hid (∀ j, (Value.slice (some ⟨k, 0, none⟩) D.length cp).ownBlock = some j → w1.heap.size < j) := fun j hj => by
    have := (Hown8.out.lt j hj).1
    have h0 := heap_lt s5.out
    omega
  have o9 : Out (fun j => j = g) w (W8.setCell ⟨g, 99, none⟩ (.slice (some ⟨k, 0, none⟩) D.length cp)) := Out.setCell (P := fun j => j = g) (Out.of_below (Below.on' bw5 B8.out)) ⟨g, 99, none⟩ _ rfl
  have s9 : (W8.setCell ⟨g, 99, none⟩ (.slice (some ⟨k, 0, none⟩) D.length cp)).heap[w1.heap.size]? = some (.cells (eVals e).toArray 60 (0, 0)) := (heap_setCell_other _ _ _ _ hE).trans s8
  have r9 : (W8.setCell ⟨g, 99, none⟩ (.slice (some ⟨k, 0, none⟩) D.length cp)).heap[w.heap.size]? = some (.cells (eVals ev0).toArray 60 (0, 0)) := (heap_setCell_other _ _ _ _ hN).trans r8
  obtain ⟨W9, hW9⟩ : ∃ W9, W9 = W8.setCell ⟨g, 99, none⟩ (.slice (some ⟨k, 0, none⟩) D.length cp) := ⟨_, rfl⟩
  rw [← hW9] at h9 o9 s9 r9 ⊢
  obtain ⟨V0, hV0⟩ : ∃ V0, V0 = W9.drew := ⟨_, rfl⟩
  have b9 : Below W9.heap.size W9 V0 := by rw [hV0]; exact (Below.refl _ W9).drew
  have lens9 : Lens { c with ev := D } := ⟨lens.out.lb, lens.out.lan, lens.out.lh⟩
  refine wp_act _ fun A hA => ?_
  have sz : A.tmps.size = 85 := by rw [hA]; rfl
  have e0 : A.eval (.tmp 0) = .pointer (some ⟨g, 0, none⟩) := by rw [hA]; rfl
  have e10 : A.eval (.tmp 10) = .pointer (some ⟨w1.heap.size, 0, none⟩) := by rw [hA]; rfl
  refine wp_split _ (rAdd_region sz e0 e10 hV0 (h9.below b9) lens9 ((b9.block _ (heap_lt s9)).trans s9) (by have := he1.out; omega) (by have := he2.out; omega) (by rw [he3.out]; exact T3.out) (by rw [he4.out]; exact T4.out) (by omega)) ?_
  rintro _ V1 ⟨aC, cC, rfl, h10, s10, o10⟩
  rw [hA]
  simp only [Act.put, List.setIfInBounds_toArray, List.set_cons_succ, List.set_cons_zero]
  clear sz e0 e10 hA A
  have r10 : V1.heap[w.heap.size]? = some (.cells (eVals ev0).toArray 60 (0, 0)) := (o10.block _ (Nat.lt_of_lt_of_le (heap_lt r9) b9.size) (by omega)).trans ((b9.block _ (heap_lt r9)).trans r9)
  have oV : Out (fun j => j = g) w V1 := (o9.on b9).trans o10 (fun _ _ x => x)
  have q2 := h10.c2
  have f2 := h10.fz 2
  have h11 := h10.setLa tn
  have o11 := oV.setCell ⟨g, 2, none⟩ (.int .i64 (tn : Int)) rfl
  have s11 : (V1.setCell ⟨g, 2, none⟩ (.int .i64 (tn : Int))).heap[w1.heap.size]? = some (.cells (eVals e).toArray 60 (0, 0)) := (heap_setCell_other _ _ _ _ hE).trans s10
  have r11 : (V1.setCell ⟨g, 2, none⟩ (.int .i64 (tn : Int))).heap[w.heap.size]? = some (.cells (eVals ev0).toArray 60 (0, 0)) := (heap_setCell_other _ _ _ _ hN).trans r10
  have H11 := hid h11
  have O11 := hid o11
  have S11 := hid s11
  have R11 := hid r11
  clear h10 s10 o10 r10 oV h11 o11 s11 r11 lens9 b9 hV0 h9 o9 s9 r9 hW9 s8 r8 r5 bw5 k99 f99 c5 c99 c2 d0 d1 n0 n1 z0 z1 z2 z3 e3 d4
  clear HC B8 H8 Hown8 Hown6 Hb6 H5 Hb5 s5 s6 H0'
  go_wp2_with (first
    | (with_reducible show Go.wpList _ _ _ _ _ _; refine wpList_load_row rfl 60 (.tmp 10) rfl w1.heap.size rfl _ _ _ _ S11.out Tryd.underlying60 rfl (size_evs e) ?_)
    | (with_reducible show Go.wpList _ _ _ _ _ _; refine wpList_store_row rfl 60 _ _ rfl w.heap.size (eVals e).toArray rfl rfl 60 (eVals ev0).toArray R11.out (size_evs e) (ev_sizes ev0 e) (ev_one e) ?_))
  refine bodyPost_ret (results_row_tmp rfl _ _ w.heap.size 60 (eVals e).toArray (0, 0) _ rfl (setRow_heap _ _ _ _ _ _ R11.out) Tryd.underlying60 rfl size_ev) rfl ?_
  refine ⟨.slice (some ⟨k, 0, none⟩) D.length cp, by rw [← HEE.out]; rfl, ?_, ?_, fun j hj => by have := hnew.out j hj; omega⟩
  · rw [hac.out, ← HD.out]
    exact H11.out.keep (setRow_other _ _ _ _ (by omega)) (fun j hj => setRow_other _ _ _ _ (by have := hnew.out j hj; omega))
  · have o := O11.out
    exact ⟨o.os, o.tape, o.output, by rw [size_setRow]; exact o.size, fun j hj hp => (setRow_other _ _ _ _ (by omega)).trans (o.block j hj hp)⟩

def RAddPost (w : World) (B g : Nat) (v : Value) (c : Ch) (t : Int) (what who : ByteArray) (x : Ending) (w' : World) : Prop :=
  ∃ v', x = .returned (.tuple #[.agg (eVals (addEv c t what who)).toArray, .int .i64 (addE c t what who)]) ∧ RAt w' B g v' (addR c t what who) ∧ Out (fun j => j = g) w w' ∧ Grew w v v'
theorem rAdd_any {w : World} {B g : Nat} {v : Value} {c : Ch} (h : RAt w B g v c) (ok : ChOk c) (hc : c.cnt < 1152921504606846976) (hB : B ≤ w.heap.size) (t : Int) (what who : ByteArray) (h1 : what.size ≤ 9223372036854775807) (h2 : who.size ≤ 9223372036854775807) :
    Calls Tryd.prog 28 #[.pointer (some ⟨g, 0, none⟩), .int .i64 t, .string what, .string who] w (RAddPost w B g v c t what who) := by
  by_cases he : addE c t what who = 0
  · refine (rAdd_ok h ok hc hB t what who he).mono ?_
    rintro x w' ⟨v', rfl, q1, q2, q3⟩
    unfold RAddPost addEv addR
    rw [if_pos he, if_pos he, he]
    exact ⟨v', rfl, q1, q2, fun j hj => .inr (q3 j hj)⟩
  · refine (rAdd_err h ok.l t what who h1 h2 (by have := ok.few; omega) he).mono ?_
    rintro x w' ⟨rfl, hb⟩
    unfold RAddPost addEv addR
    rw [if_neg he, if_neg he]
    exact ⟨v, rfl, h.below hb, Out.of_below hb, fun j hj => .inl hj⟩
end Go.Proofs.YthnciogaibhmcaaDoor
