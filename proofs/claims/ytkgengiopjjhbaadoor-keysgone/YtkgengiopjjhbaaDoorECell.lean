/- Operations on boxes of rows of bytes, for regions that are gone through by hand; the end of the region of 'out = append(out, b)'. -/
import Derived.Test.YtkgengiopjjhbaaDoorEStream
import Derived.Maps.AppendAt
import Derived.Laws.Rows
namespace Go.Proofs.YtkgengiopjjhbaaDoor
open Go.RowKit Go.Shelf
set_option linter.unusedVariables false
set_option maxRecDepth 20000

theorem wpIn_act {F : Fence} {n : Nat} {P : Program} {c : Code} {Q : Exit → Act → World → Prop} (a : Act) {w : World} (h : ∀ A, A = a → c.wpIn F n P Q A w) : c.wpIn F n P Q a w := h a rfl
section
variable {ops : Array Oper} {S : World → Prop} {op : Oper} {a : Act}
theorem y_loadB (hw : Region.wanted op (yielded ops a.tmps) = true) (x : Operand) (ho : op.op = .load 24 x) (g : Nat) (ad : Option Addr) (n c : Nat) (hx : a.eval x = .pointer (some ⟨g, 0, none⟩)) (hS : ∀ w, S w → w.cell? ⟨g, 0, none⟩ = some (.slice ad n c)) : YieldsIf Tryd.prog ops S op (.slice ad n c) a := by
  refine .inl ⟨hw, fun w hw' => ?_⟩
  have h1 := hS w hw'
  unfold execOp
  simp only [ho, hx]
  simp [go_sem, h1]
theorem y_load8 (hw : Region.wanted op (yielded ops a.tmps) = true) (x : Operand) (ho : op.op = .load 5 x) (g k : Nat) (c : UInt8) (hx : a.eval x = .pointer (some ⟨g, k, none⟩)) (hS : ∀ w, S w → w.cell? ⟨g, k, none⟩ = some (.int .u8 (c.toNat : Int))) : YieldsIf Tryd.prog ops S op (.int .u8 (c.toNat : Int)) a := by
  refine .inl ⟨hw, fun w hw' => ?_⟩
  have h1 := hS w hw'
  unfold execOp
  simp only [ho, hx]
  simp [go_sem, h1]
theorem y_len (hw : Region.wanted op (yielded ops a.tmps) = true) (t : Nat) (ho : op.op = .call { callee := .builtin .len, args := #[.tmp t], argTypes := #[24] }) (ht : op.type = 3) (ad : Option Addr) (n c : Nat) (hx : a.eval (.tmp t) = .slice ad n c) : YieldsIf Tryd.prog ops S op (.int .i64 (n : Int)) a := by
  refine .inl ⟨hw, fun w _ => ?_⟩
  have hx' : a.tmps[t]?.getD undef = .slice ad n c := by simpa [Act.eval] using hx
  unfold execOp
  simp only [ho, ht]
  simp [go_sem, hx']
theorem y_index8 (hw : Region.wanted op (yielded ops a.tmps) = true) (x y : Operand) (ho : op.op = .indexAddr 24 x y) (g o n c k : Nat) (hx : a.eval x = .slice (some ⟨g, o, none⟩) n c) (hy : a.eval y = .int .i64 (k : Int)) (hk : k < n) : YieldsIf Tryd.prog ops S op (.pointer (some ⟨g, o + k, none⟩)) a := by
  refine .inl ⟨hw, fun w _ => ?_⟩
  have h1 : (k : Int) < (n : Int) := by omega
  have h0 : (0 : Int) ≤ (k : Int) := by omega
  unfold execOp
  simp only [ho, hx, hy]
  simp [go_sem, h0, h1]
theorem y_xor8 (hw : Region.wanted op (yielded ops a.tmps) = true) (x y : Operand) (ho : op.op = .binOp .xor 5 x y 5) (p q : UInt8) (hx : a.eval x = .int .u8 (p.toNat : Int)) (hy : a.eval y = .int .u8 (q.toNat : Int)) : YieldsIf Tryd.prog ops S op (.int .u8 ((p ^^^ q).toNat : Int)) a := by
  refine .inl ⟨hw, fun w _ => ?_⟩
  have h1 : bits .xor .u8 (p.toNat : Int) (q.toNat : Int) = ((p ^^^ q).toNat : Int) := b_xor p q
  obtain ⟨r, hr⟩ : ∃ r, r = p ^^^ q := ⟨_, rfl⟩
  rw [← hr] at h1 ⊢
  clear hr
  unfold execOp
  simp only [ho, hx, hy]
  simp [go_sem, h1]
end
theorem run_min {op : Oper} {a : Act} (t : Nat) (ho : op.op = .call { callee := .builtin .min, args := #[.const (.int .i64 32), .tmp t], argTypes := #[3, 3] }) (ht : op.type = 3) (k : Int) (d : Nat) (hx : a.eval (.tmp t) = .int .i64 k) (hd : min (32 : Int) k = (d : Int)) (w : World) : (execOp a.eval op).run Tryd.prog w = .ok (.value (.int .i64 (d : Int))) w := by
  have hx' : a.tmps[t]?.getD undef = .int .i64 k := by simpa [Act.eval] using hx
  unfold execOp
  simp only [ho, ht]
  simp [go_sem, hx']
  split <;> omega
theorem wp_build1 {o : Oper} {a : Act} {w : World} {K : Act → World → Prop} {Q : Exit → Act → World → Prop} (t : Operand) (ho : o.op = .buildSlice 24 1 #[(0, t)]) (x : UInt8) (h0 : a.eval t = .int .u8 (x.toNat : Int))
    (h : K (a.put o.dst (.slice (some ⟨w.heap.size, 0, none⟩) 1 1)) (w.alloc (.cells (cellsOf [x]).toArray 5))) : o.wp Tryd.prog a w K Q := by
  unfold Oper.wp execOp
  simp only [ho, List.map_toArray, List.map_cons, List.map_nil, h0]
  simp [go_sem]
  exact h
theorem wp_storeB {o : Oper} {a : Act} {w : World} {K : Act → World → Prop} {Q : Exit → Act → World → Prop} (x y : Operand) (ho : o.op = .store 24 x y) (g : Nat) (v : Value) (ad : Option Addr) (n c : Nat) (hx : a.eval x = .pointer (some ⟨g, 0, none⟩)) (hy : a.eval y = .slice ad n c) (hv : Boxed w g 24 v)
    (h : K (a.put o.dst undef) (w.setCell ⟨g, 0, none⟩ (.slice ad n c))) : o.wp Tryd.prog a w K Q := by
  have h1 := hv.cell
  have h2 := hv.frozen
  unfold Oper.wp execOp
  simp only [ho, hx, hy]
  simp [go_sem, h1, h2]
  exact h
/-- the append and the store at the end of the region -/
theorem tail7 {ops : Array Oper} {listed : Array Bool} {fuel : Nat} {S : World → Prop} {Q : Exit → Act → World → Prop} {A : Act} {w : World} (o9 o10 : Oper) (h9 : ops[9]? = some o9) (h10 : ops[10]? = some o10) (g9 : o9.guard = none) (g10 : o10.guard = none)
    (p9 : o9.op = .call { callee := .builtin .append, args := #[.tmp 32, .tmp 40], argTypes := #[24, 24] }) (p10 : o10.op = .store 24 (.tmp 7) (.tmp 41)) (d9 : o9.dst = some 41) (d10 : o10.dst = none)
    (r9 : Region.ready .any ops listed = [9]) (r10 : Region.ready .any ops (listed.setIfInBounds 9 true) = [10]) (r11 : Region.ready .any ops ((listed.setIfInBounds 9 true).setIfInBounds 10 true) = [])
    (B g : Nat) (v : Value) (xs : List UInt8) (x : UInt8) (sz : A.tmps.size = 44) (e32 : A.eval (.tmp 32) = v) (e40 : A.eval (.tmp 40) = .slice (some ⟨w.heap.size, 0, none⟩) 1 1) (e7 : A.eval (.tmp 7) = .pointer (some ⟨g, 0, none⟩))
    (hv : Boxed w g 24 v) (hown : w.ownsRow B 5 1 v xs.length (cellsOf xs)) (hB : B ≤ w.heap.size) (hg : B ≤ g) (hl : xs.length ≤ 1000000)
    (hS : ∀ w', Below B w w' → (∀ j, j < w.heap.size → some j ≠ v.ownBlock → j ≠ g → w'.heap[j]? = w.heap[j]?) → S w')
    (h : ∀ v' w', Boxed w' g 24 v' → w'.ownsRow B 5 1 v' (xs ++ [x]).length (cellsOf (xs ++ [x])) → KeepsOthers w w' → Below B w w' → (∀ j, j < w.heap.size → some j ≠ v.ownBlock → j ≠ g → w'.heap[j]? = w.heap[j]?) → (∀ j, v'.ownBlock = some j → v.ownBlock = some j ∨ w.heap.size ≤ j) → Q .normal ((A.put (some 41) v').put none undef) w') :
    wpAnyH Tryd.prog .any ops Q S (fuel + 2) listed A (w.alloc (.cells (cellsOf [x]).toArray 5)) := by
  obtain ⟨i0, hi, hz0, hz1, hz2⟩ := info_parts Tryd.info5
  refine wpAnyH_all (rs := [9]) r9 (by simp) fun i hmem => ?_
  obtain rfl : i = 9 := by simpa using hmem
  refine wpOp_own h9 g9 fun K' hK' => ?_
  refine wp_append_lies _ (.tmp 32) (.tmp 40) 24 p9 B 5 i0 _ 1 1 Tryd.underlying24 hi hz0 hz1 hz2 rfl (by omega) v xs.length (cellsOf xs) e32 (hown.alloc _) ⟨w.heap.size, 0, none⟩ 1 1 (cellsOf [x]) e40 (by simp [cellsOf]) (World.news_of_block (cs := (cellsOf [x]).toArray) (t := 5) (fr := (0, 0)) (heap_alloc_new w _)) (cellsOf_one [x]) (by omega) (by unfold maxLen; omega) (by omega) (by simp; omega) _ rfl ?_
  intro g' cap' w1 hown' hgrow hat hlt
  rw [← cellsOf_append] at hown'
  obtain ⟨hv1, hv2, hr2, hk2, hb2⟩ := hv.appended (by decide) hown hB hg hown' hgrow
  have hb1 : Below B w w1 := by
    refine ((Below.refl B w).alloc hB _).grown hgrow (by simp; omega) fun j ej => ?_
    exact (hown.lt j ej).1
  have ho1 : ∀ j, j < w.heap.size → some j ≠ v.ownBlock → j ≠ g → w1.heap[j]? = w.heap[j]? := fun j hj h1 h2 => by
    rw [hgrow.block j (by simp; omega) h1]
    exact Below.heap_alloc _ _ _ hj
  have ho2 : ∀ j, j < w.heap.size → some j ≠ v.ownBlock → j ≠ g → (w1.setCell ⟨g, 0, none⟩ (.slice (some ⟨g', 0, none⟩) (xs.length + 1) cap')).heap[j]? = w.heap[j]? := fun j hj h1 h2 =>
    ((grownBy_setCell' w1 g _).block j (by have := hgrow.size; simp at this; omega) (fun e => h2 (by cases e; rfl))).trans (ho1 j hj h1 h2)
  rw [d9]
  refine hK' _ _ ⟨hS _ hb1 ho1, ?_⟩
  clear hK' K' hmem
  refine wpAnyH_all (rs := [10]) r10 (by simp) fun i hmem => ?_
  obtain rfl : i = 10 := by simpa using hmem
  refine wpOp_own h10 g10 fun K' hK' => ?_
  refine wp_storeB (.tmp 7) (.tmp 41) p10 g v _ _ _ ((ev_ne _ _ (by decide)).trans e7) (ev_eq _ _ (by simp [sz])) hv1 ?_
  rw [d10]
  refine hK' _ _ ⟨hS _ hb2 ho2, ?_⟩
  refine wpAnyH_done r11 (h _ _ hv2 ?_ hk2 hb2 ?_ ?_) _
  · rw [List.length_append]; exact hr2
  · exact ho2
  · intro j hj
    have e2 : g' = j := by simpa [Value.ownBlock] using hj
    subst e2
    rcases hat with h1 | h1
    · exact .inl h1
    · refine .inr ?_
      rw [h1]
      simp
end Go.Proofs.YtkgengiopjjhbaaDoor
