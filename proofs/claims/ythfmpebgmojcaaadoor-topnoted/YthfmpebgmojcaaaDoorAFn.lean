/- YthfmpebgmojcaaaDoorACh + YthfmpebgmojcaaaDoorAFn -/
import Derived.Test.YthfmpebgmojcaaaDoorAMath
import Derived.Test.YthfmpebgmojcaaaDoorEPair
/- A chain of events in memory. -/
namespace Go.Proofs.YthfmpebgmojcaaaDoor
open Go.RowKit
set_option linter.unusedVariables false
set_option maxRecDepth 20000

/-- All blocks but those are as they were. -/
structure Out (P : Nat → Prop) (w w' : World) : Prop where
  os : w'.os = w.os
  tape : w'.tape = w.tape
  output : w'.output = w.output
  size : w.heap.size ≤ w'.heap.size
  block : ∀ k, k < w.heap.size → ¬ P k → w'.heap[k]? = w.heap[k]?
theorem Out.below {P : Nat → Prop} {w w' : World} (h : Out P w w') {B : Nat} (hB : B ≤ w.heap.size) (hP : ∀ k, P k → B ≤ k) : Below B w w' := ⟨h.os, h.tape, h.output, h.size, fun k hk => h.block k (by omega) (fun hp => by have := hP k hp; omega)⟩
theorem Out.refl (P : Nat → Prop) (w : World) : Out P w w := ⟨rfl, rfl, rfl, Nat.le_refl _, fun _ _ _ => rfl⟩
theorem Out.trans {P Q : Nat → Prop} {a b c : World} (h : Out P a b) (k : Out Q b c) (hq : ∀ i, i < a.heap.size → Q i → P i) : Out P a c :=
  ⟨k.os.trans h.os, k.tape.trans h.tape, k.output.trans h.output, Nat.le_trans h.size k.size, fun i hi hp => (k.block i (Nat.lt_of_lt_of_le hi h.size) (fun q => hp (hq i hi q))).trans (h.block i hi hp)⟩
theorem Out.of_below {P : Nat → Prop} {w w' : World} (h : Below w.heap.size w w') : Out P w w' := ⟨h.os, h.tape, h.output, h.size, fun k hk _ => h.block k hk⟩
theorem Out.on {P : Nat → Prop} {w w1 w2 : World} (h : Out P w w1) (k : Below w1.heap.size w1 w2) : Out P w w2 := h.trans (Out.of_below (P := P) k) (fun _ _ h => h)
theorem Out.imp {P Q : Nat → Prop} {w w' : World} (h : Out P w w') (hq : ∀ i, i < w.heap.size → P i → Q i) : Out Q w w' := ⟨h.os, h.tape, h.output, h.size, fun k hk hp => h.block k hk (fun q => hp (hq k hk q))⟩
theorem Out.undrew {P : Nat → Prop} {w w' : World} (h : Out P w.drew w') : Out P w w' := ⟨h.os, h.tape, h.output, h.size, h.block⟩
theorem Out.drew {P : Nat → Prop} {w w' : World} (h : Out P w w') : Out P w w'.drew := ⟨h.os, h.tape, h.output, h.size, h.block⟩
theorem Out.setCell {P : Nat → Prop} {w w' : World} (h : Out P w w') (a : Addr) (v : Value) (ha : P a.block) : Out P w (w'.setCell a v) :=
  ⟨h.os, h.tape, h.output, by have : (w'.setCell a v).heap.size = w'.heap.size := by simp [World.setCell]
                              rw [this]; exact h.size, fun k hk hp => (heap_setCell_other _ _ _ _ (fun e => hp (by rw [e]; exact ha))).trans (h.block k hk hp)⟩
theorem Out.setCells {P : Nat → Prop} {w : World} (g : Nat) (hg : P g) : ∀ (vs : List Value) (o : Nat) (w' : World), Out P w w' → Out P w (w'.setCells g o vs)
  | [], _, _, h => h
  | v :: r, o, w', h => Out.setCells g hg r (o + 1) _ (h.setCell _ _ hg)
theorem Out.alloc {P : Nat → Prop} {w w' : World} (h : Out P w w') (o : Obj) : Out P w (w'.alloc o) := h.on ((Below.refl _ w').alloc (Nat.le_refl _) o)
theorem Out.of_grown {P : Nat → Prop} {w w' : World} {r : Option Nat} (h : w.grownBy w' r) (hr : ∀ k, r = some k → P k) : Out P w w' := ⟨h.os, h.tape, h.output, h.size, fun k hk hp => h.block k hk (fun e => hp (hr k e.symm))⟩

/-- the cells of a link, of a chain, of events -/
def lnkC (n : Nat) (h : List UInt8) : List Value := .int .i64 (n : Int) :: cellsOf h
def ccells (c : Ch) (v : Value) : List Value := lnkC c.bn c.bh ++ (lnkC c.an c.ah ++ (v :: (cellsOf c.hd ++ [.int .i64 (c.la : Int)])))
def eVals (e : Ev) : List Value := [.int .i64 (e.num : Int), .int .i64 (e.tim : Int), .string e.what, .string e.who]
def eCells (l : List Ev) : List Value := l.flatMap eVals
theorem lnkC_length (n : Nat) (h : List UInt8) : (lnkC n h).length = h.length + 1 := by simp [lnkC, cellsOf]
theorem lnkC_one (n : Nat) (h : List UInt8) : ∀ u ∈ lnkC n h, u.oneCell' = true := by
  intro u hu
  simp only [lnkC, List.mem_cons] at hu
  rcases hu with rfl | hu
  · rfl
  · exact cellsOf_one _ u hu
theorem eCells_length (l : List Ev) : (eCells l).length = l.length * 4 := by
  induction l with
  | nil => rfl
  | cons e l ih => simp only [eCells, List.flatMap_cons, List.length_append, List.length_cons] at ih ⊢; rw [ih]; simp [eVals]; omega
theorem eCells_append (a b : List Ev) : eCells (a ++ b) = eCells a ++ eCells b := by simp [eCells]
theorem eCells_one (e : Ev) : eCells [e] = eVals e := by simp [eCells]
theorem eCells_oneCell (l : List Ev) : ∀ u ∈ eCells l, u.oneCell' = true := by
  intro u hu
  obtain ⟨e, _, he⟩ := List.mem_flatMap.1 hu
  simp only [eVals, List.mem_cons, List.not_mem_nil, or_false] at he
  rcases he with rfl | rfl | rfl | rfl <;> rfl
theorem eCells_get (l : List Ev) (i : Nat) (h : i < l.length) (k : Nat) (hk : k < 4) : (eCells l)[i * 4 + k]? = (eVals l[i])[k]? := by
  induction l generalizing i with
  | nil => simp at h
  | cons e l ih =>
    have hl : (eVals e).length = 4 := rfl
    show (eVals e ++ eCells l)[i * 4 + k]? = _
    cases i with
    | zero => rw [List.getElem?_append_left (by omega)]; simp
    | succ i =>
      rw [List.getElem?_append_right (by omega), hl, show (i + 1) * 4 + k - 4 = i * 4 + k by omega, ih i (by simpa using h)]
      simp
/-- a part of a block -/
theorem range_mid {w : World} {g : Nat} {A B C : List Value} {t : TypeId} {fr : Nat × Nat} (h : w.heap[g]? = some (.cells (A ++ (B ++ C)).toArray t fr)) (o : Nat) (ho : A.length = o) : w.rangeAt g o B := fun j v hj => by
  subst ho
  have hlt : j < B.length := (List.getElem?_eq_some_iff.1 hj).1
  rw [cell_of_row _ _ _ _ _ _ h, List.getElem?_toArray, List.getElem?_append_right (by omega), show A.length + j - A.length = j by omega, List.getElem?_append_left hlt]
  exact hj
theorem range_whole {w : World} {g : Nat} {L : List Value} {t : TypeId} {fr : Nat × Nat} (h : w.heap[g]? = some (.cells L.toArray t fr)) : w.rangeAt g 0 L := range_mid (A := []) (B := L) (C := []) (by simpa using h) 0 rfl
theorem cell_mid {w : World} {g : Nat} {A C : List Value} {u : Value} {t : TypeId} {fr : Nat × Nat} (h : w.heap[g]? = some (.cells (A ++ (u :: C)).toArray t fr)) (o : Nat) (ho : A.length = o) : w.cell? ⟨g, o, none⟩ = some u := by
  have := range_mid (B := [u]) (C := C) h o ho 0 u rfl
  exact this
theorem there_row {w : World} {g : Nat} {L : List Value} {t : TypeId} (h : w.heap[g]? = some (.cells L.toArray t (0, 0))) (o n : Nat) (ho : o + n ≤ L.length) : w.there g o n := fun j hj =>
  ⟨by rw [cell_of_row _ _ _ _ _ _ h, List.getElem?_toArray, List.getElem?_eq_getElem (by omega)]; rfl, frozen_of_row _ _ _ _ _ h⟩
theorem splice_mid {α : Type} (A B C B' : List α) (h : B'.length = B.length) (o : Nat) (ho : A.length = o) : splice (A ++ (B ++ C)) o B' = A ++ (B' ++ C) := by
  subst ho
  unfold splice
  rw [List.take_left' rfl, h, ← List.append_assoc, show A.length + B.length = (A ++ B).length by simp, List.append_assoc, ← List.append_assoc A B C, List.drop_left' rfl]
theorem set_mid {α : Type} (A C : List α) (u v : α) (o : Nat) (ho : A.length = o) : (A ++ (u :: C)).set o v = A ++ (v :: C) := by
  subst ho
  simp

/-- a chain in memory: its object, and the row of its events -/
structure ChAt (w : World) (B g : Nat) (v : Value) (c : Ch) : Prop where
  obj : w.heap[g]? = some (.cells (ccells c v).toArray 87 (0, 0))
  row : w.ownsRow B 55 4 v c.ev.length (eCells c.ev)
  bg : B ≤ g
section
variable {w w' : World} {B g : Nat} {v : Value} {c : Ch}
theorem ChAt.lt (h : ChAt w B g v c) : g < w.heap.size := (Array.getElem?_eq_some_iff.1 h.obj).1
theorem ChAt.ne (h : ChAt w B g v c) : ∀ k, v.ownBlock = some k → k ≠ g := by
  rintro k hk rfl
  rcases h.row.2 with ⟨rfl, _⟩ | ⟨g', cap, cur, rfl, _, hg, _⟩
  · cases hk
  · cases hk
    rw [h.obj] at hg
    injection hg with hg
    injection hg with _ hg
    exact absurd hg (by decide)
theorem ChAt.c0 (h : ChAt w B g v c) : w.cell? ⟨g, 0, none⟩ = some (.int .i64 (c.bn : Int)) := cell_mid (A := []) h.obj 0 rfl
theorem ChAt.rb (h : ChAt w B g v c) : w.rangeAt g 0 (lnkC c.bn c.bh) := range_mid (A := []) h.obj 0 rfl
theorem ChAt.c33 (h : ChAt w B g v c) (ok : Lens c) : w.cell? ⟨g, 33, none⟩ = some (.int .i64 (c.an : Int)) := cell_mid (A := lnkC c.bn c.bh) h.obj 33 (by rw [lnkC_length, ok.lb])
theorem ChAt.ra (h : ChAt w B g v c) (ok : Lens c) : w.rangeAt g 34 (cellsOf c.ah) := by
  have h0 := h.obj
  unfold ccells at h0
  rw [show lnkC c.an c.ah = [.int .i64 (c.an : Int)] ++ cellsOf c.ah from rfl, List.append_assoc, ← List.append_assoc (lnkC c.bn c.bh)] at h0
  exact range_mid h0 34 (by simp [lnkC_length, ok.lb])
theorem ChAt.c66 (h : ChAt w B g v c) (ok : Lens c) : w.cell? ⟨g, 66, none⟩ = some v := by
  have h0 := h.obj
  unfold ccells at h0
  rw [← List.append_assoc] at h0
  exact cell_mid h0 66 (by simp [lnkC_length, ok.lb, ok.lan])
theorem ccells_hd (c : Ch) (v : Value) : ccells c v = (lnkC c.bn c.bh ++ (lnkC c.an c.ah ++ [v])) ++ (cellsOf c.hd ++ [.int .i64 (c.la : Int)]) := by simp [ccells]
theorem ccells_la (c : Ch) (v : Value) : ccells c v = (lnkC c.bn c.bh ++ (lnkC c.an c.ah ++ (v :: cellsOf c.hd))) ++ (.int .i64 (c.la : Int) :: []) := by simp [ccells]
theorem ChAt.rh (h : ChAt w B g v c) (ok : Lens c) : w.rangeAt g 67 (cellsOf c.hd) := by
  have h0 := h.obj
  rw [ccells_hd] at h0
  exact range_mid h0 67 (by simp [lnkC_length, ok.lb, ok.lan])
theorem ChAt.c99 (h : ChAt w B g v c) (ok : Lens c) : w.cell? ⟨g, 99, none⟩ = some (.int .i64 (c.la : Int)) := by
  have h0 := h.obj
  rw [ccells_la] at h0
  exact cell_mid h0 99 (by simp [lnkC_length, ok.lb, ok.lan, cellsOf, ok.lh])
theorem ccells_length (ok : Lens c) (v : Value) : (ccells c v).length = 100 := by simp [ccells, lnkC_length, ok.lb, ok.lan, cellsOf, ok.lh]
theorem ChAt.there (h : ChAt w B g v c) (ok : Lens c) (o n : Nat) (ho : o + n ≤ 100) : w.there g o n := there_row h.obj o n (by rw [ccells_length ok]; exact ho)
theorem ChAt.fz (h : ChAt w B g v c) (o : Nat) : w.frozen? ⟨g, o, none⟩ = false := frozen_of_row _ _ _ _ _ h.obj
theorem ChAt.keep (h : ChAt w B g v c) (hg : w'.heap[g]? = w.heap[g]?) (hv : ∀ k, v.ownBlock = some k → w'.heap[k]? = w.heap[k]?) : ChAt w' B g v c := by
  refine ⟨hg.trans h.obj, ⟨h.row.1, ?_⟩, h.bg⟩
  rcases h.row.2 with h0 | ⟨k, cap, cur, rfl, hb, hk, r⟩
  · exact .inl h0
  · exact .inr ⟨k, cap, cur, rfl, hb, (hv k rfl).trans hk, r⟩
theorem ChAt.lts (h : ChAt w B g v c) : ∀ k, v.ownBlock = some k → B ≤ k ∧ k < w.heap.size := fun k hk => h.row.lt k hk
theorem ChAt.below (h : ChAt w B g v c) (hb : Below w.heap.size w w') : ChAt w' B g v c := h.keep (hb.block g h.lt) (fun k hk => hb.block k (h.lts k hk).2)
theorem ChAt.out {P : Nat → Prop} (h : ChAt w B g v c) (ho : Out P w w') (hg : ¬ P g) (hv : ∀ k, v.ownBlock = some k → ¬ P k) : ChAt w' B g v c := h.keep (ho.block g h.lt hg) (fun k hk => ho.block k (h.lts k hk).2 (hv k hk))
theorem ChAt.mono (h : ChAt w B g v c) {B' : Nat} (hB : B' ≤ B) : ChAt w B' g v c := by
  refine ⟨h.obj, ⟨h.row.1, ?_⟩, Nat.le_trans hB h.bg⟩
  rcases h.row.2 with h0 | ⟨k, cap, cur, rfl, hb, r⟩
  · exact .inl h0
  · exact .inr ⟨k, cap, cur, rfl, Nat.le_trans hB hb, r⟩
theorem ChAt.row_set (h : ChAt w B g v c) (o : Nat) (vs : List Value) : (w.setCells g o vs).ownsRow B 55 4 v c.ev.length (eCells c.ev) := by
  refine ⟨h.row.1, ?_⟩
  have hne := h.ne
  rcases h.row.2 with h0 | ⟨k, cap, cur, rfl, hb, hk, r⟩
  · exact .inl h0
  · exact .inr ⟨k, cap, cur, rfl, hb, (other_setCells g k (hne k rfl) vs o w).trans hk, r⟩
theorem ChAt.setHd (h : ChAt w B g v c) (ok : Lens c) (l : List UInt8) (hl : l.length = 32) : ChAt (w.setCells g 67 (cellsOf l)) B g v { c with hd := l } := by
  refine ⟨?_, h.row_set _ _, h.bg⟩
  rw [heap_setCells_same g _ (cellsOf l) 67 w _ h.obj (by rw [ccells_length ok, cellsOf_length, hl]; omega), ccells_hd, ccells_hd, splice_mid _ _ _ _ (by simp [cellsOf, hl, ok.lh]) 67 (by simp [lnkC_length, ok.lb, ok.lan])]
theorem ChAt.setAnc (h : ChAt w B g v c) (ok : Lens c) (n : Nat) (l : List UInt8) (hl : l.length = 32) : ChAt (w.setCells g 33 (lnkC n l)) B g v { c with an := n, ah := l } := by
  refine ⟨?_, h.row_set _ _, h.bg⟩
  rw [heap_setCells_same g _ (lnkC n l) 33 w _ h.obj (by rw [ccells_length ok, lnkC_length, hl]; omega)]
  unfold ccells
  rw [splice_mid _ _ _ _ (by simp [lnkC_length, hl, ok.lan]) 33 (by simp [lnkC_length, ok.lb])]
theorem ChAt.setBase (h : ChAt w B g v c) (ok : Lens c) (n : Nat) (l : List UInt8) (hl : l.length = 32) : (w.setCells g 0 (lnkC n l)).heap[g]? = some (.cells (ccells { c with bn := n, bh := l } v).toArray 87 (0, 0)) := by
  rw [heap_setCells_same g _ (lnkC n l) 0 w _ h.obj (by rw [ccells_length ok, lnkC_length, hl]; omega)]
  unfold ccells
  have := splice_mid (A := []) (lnkC c.bn c.bh) (lnkC c.an c.ah ++ (v :: (cellsOf c.hd ++ [.int .i64 (c.la : Int)]))) (lnkC n l) (by simp [lnkC_length, hl, ok.lb]) 0 rfl
  simp only [List.nil_append] at this
  rw [this]
theorem ccells_set66 (ok : Lens c) (v u : Value) : (ccells c v).toArray.setIfInBounds 66 u = (ccells c u).toArray := by
  rw [List.setIfInBounds_toArray]
  unfold ccells
  rw [← List.append_assoc, set_mid _ _ _ _ 66 (by simp [lnkC_length, ok.lb, ok.lan]), List.append_assoc]
theorem ccells_set99 (ok : Lens c) (v : Value) (n : Nat) : (ccells c v).toArray.setIfInBounds 99 (.int .i64 (n : Int)) = (ccells { c with la := n } v).toArray := by
  rw [List.setIfInBounds_toArray, ccells_la, ccells_la, set_mid _ _ _ _ 99 (by simp [lnkC_length, ok.lb, ok.lan, cellsOf, ok.lh])]
theorem ChAt.setLa (h : ChAt w B g v c) (ok : Lens c) (n : Nat) : ChAt (w.setCell ⟨g, 99, none⟩ (.int .i64 (n : Int))) B g v { c with la := n } := by
  refine ⟨?_, h.row_set 99 [_], h.bg⟩
  rw [heap_setCell_same w g 99 _ _ _ h.obj, ccells_set99 ok]
end
/-- the blocks of a chain -/
def CBlk (g : Nat) (v : Value) (k : Nat) : Prop := k = g ∨ v.ownBlock = some k
theorem ChAt.blk {w : World} {B g : Nat} {v : Value} {c : Ch} (h : ChAt w B g v c) : ∀ k, CBlk g v k → B ≤ k := fun k hk => by
  rcases hk with rfl | hk
  · exact h.bg
  · exact (h.lts k hk).1
/-- the tables lie below -/
structure Tabs (w : World) (B : Nat) : Prop where
  tab : TabAt w
  kat : KAt w
  tb : 4 < B
  kb : 0 < B
theorem Tabs.keep {w w' : World} {B : Nat} (h : Tabs w B) (hb : Below B w w') : Tabs w' B :=
  ⟨by have := h.tab; unfold TabAt at this ⊢; exact (hb.cell (p := ⟨4, 15, none⟩) h.tb).trans this, fun i hi => (hb.cell (p := ⟨0, i, none⟩) h.kb).trans (h.kat i hi), h.tb, h.kb⟩
theorem Tabs.below {w w' : World} {B : Nat} (h : Tabs w B) (hB : B ≤ w.heap.size) (hb : Below w.heap.size w w') : Tabs w' B := h.keep (hb.mono hB)
theorem Tabs.mono {w : World} {B B' : Nat} (h : Tabs w B) (hB : B ≤ B') : Tabs w B' := ⟨h.tab, h.kat, Nat.lt_of_lt_of_le h.tb hB, Nat.lt_of_lt_of_le h.kb hB⟩
end Go.Proofs.YthfmpebgmojcaaaDoor

/- Small functions of packages audit and state: New, Count, Text, isTooLong, addError, by contracts. -/
namespace Go.Proofs.YthfmpebgmojcaaaDoor
open Go.RowKit
set_option linter.unusedVariables false
set_option maxRecDepth 20000

theorem ChAt.val {w : World} {B g : Nat} {v : Value} {c : Ch} (h : ChAt w B g v c) : ∃ a cap, v = .slice a c.ev.length cap := by
  rcases h.row.2 with ⟨rfl, h0⟩ | ⟨k, cap, cur, rfl, _⟩
  · exact ⟨none, 0, by rw [h0]⟩
  · exact ⟨_, cap, rfl⟩
theorem built_chain : Tryd.prog.built 87 [] = some (ccells ch0 (.slice none 0 0)).toArray := by kernel_rfl

set_option maxHeartbeats 400000 in
theorem new_any (w : World) : Calls Tryd.prog 16 #[] w fun e w' => ∃ g, e = .returned (.pointer (some ⟨g, 0, none⟩)) ∧ ChAt w' w.heap.size g (.slice none 0 0) ch0 ∧ Below w.heap.size w w' := by
  have bl := hid built_chain
  have Hz : Hid (∃ R, R = ccells ch0 (.slice none 0 0)) := ⟨_, rfl⟩
  obtain ⟨R, hR⟩ := Hz.out
  rw [← hR] at bl
  have HR := hid hR
  clear hR Hz
  go_enter Tryd.func16, Tryd.ntmps16
  go_wp2_with (with_reducible show Go.wpList _ _ _ _ _ _; refine wpList_build_none rfl 87 rfl R.toArray bl.out ?_)
  go_ret
  refine ⟨_, rfl, ⟨?_, World.ownsRow_nil _ _ _ _, Nat.le_refl _⟩, (Below.refl _ w).alloc (Nat.le_refl _) _⟩
  rw [← HR.out]
  exact heap_alloc_new w _

set_option maxHeartbeats 400000 in
theorem count_any {w : World} {B g : Nat} {v : Value} {c : Ch} (h : ChAt w B g v c) (ok : ChOk c) (hc : c.cnt < 1152921504606846976) :
    Calls Tryd.prog 23 #[.pointer (some ⟨g, 0, none⟩)] w fun e w' => e = .returned (.int .i64 (c.cnt : Int)) ∧ Below w.heap.size w w' := by
  obtain ⟨a, cap, rfl⟩ := h.val
  have c0 := h.c0
  have c66 := h.c66 ok.l
  clear h ok
  unfold Ch.cnt at hc ⊢
  generalize c.ev.length = n at *
  generalize c.bn = b at *
  go_enter Tryd.func23, Tryd.ntmps23
  go_wp2
  go_region
  all_goals go_wp2
  all_goals go_ret
  all_goals exact ⟨ret_int (by go_num), (Below.refl _ _).drew⟩

set_option maxHeartbeats 400000 in
theorem text_any (n : Nat) (h : n ≤ 4611686018427387904) (w : World) (ht : TabAt w) : Calls Tryd.prog 42 #[.int .i64 (n : Int)] w fun e w' => e = .returned (.string (txt n)) ∧ Below w.heap.size w w' := by
  have hn : Calls Tryd.prog 78 #[.int .i64 (n : Int)] w fun e w' => e = .returned (.tuple #[.string (txt n), .int .i64 0]) ∧ Below w.heap.size w w' := by
    by_cases h0 : n = 0
    · subst h0
      refine (number_zero w).mono ?_
      rintro e w' ⟨rfl, rfl⟩
      exact ⟨rfl, Below.refl _ _⟩
    · exact number_pos n (by omega) h w ht
  generalize txt n = t at *
  go_enter Tryd.func42, Tryd.ntmps42
  go_wp2_with (go_at_call 78; refine hn.mono ?_; rintro e w1 ⟨rfl, hb⟩)
  go_ret
  exact ⟨rfl, hb⟩

set_option maxHeartbeats 400000 in
theorem isTime_any (x : Int) (w : World) : Calls Tryd.prog 87 #[.int .i64 x] w fun e w' => e = .returned (.bool (decide (0 ≤ x ∧ x ≤ 1099511627776))) ∧ w' = w := by
  go_enter Tryd.func87, Tryd.ntmps87
  go_wp2
  all_goals go_ret
  all_goals refine ⟨ret_bool ?_, rfl⟩
  all_goals
    rw [Bool.eq_iff_iff]
    simp
    omega

set_option maxHeartbeats 400000 in
theorem tooLong_any (a b : ByteArray) (ha : a.size ≤ 9223372036854775807) (hb : b.size ≤ 9223372036854775807) (w : World) : Calls Tryd.prog 73 #[.string a, .string b] w fun e w' => e = .returned (.bool (decide (12 < a.size ∨ 30 < b.size))) ∧ w' = w := by
  go_enter Tryd.func73, Tryd.ntmps73
  go_wp2
  all_goals go_ret
  all_goals refine ⟨ret_bool ?_, rfl⟩
  all_goals
    rw [Bool.eq_iff_iff]
    simp
    omega

set_option maxHeartbeats 1000000 in
theorem addError_any {w : World} {B g : Nat} {v : Value} {c : Ch} (h : ChAt w B g v c) (ok : ChOk c) (t : Int) (what who : ByteArray) (h1 : what.size ≤ 9223372036854775807) (h2 : who.size ≤ 9223372036854775807) :
    Calls Tryd.prog 59 #[.pointer (some ⟨g, 0, none⟩), .int .i64 t, .string what, .string who] w fun e w' => e = .returned (.int .i64 (addE c t what who)) ∧ w' = w := by
  obtain ⟨a, cap, rfl⟩ := h.val
  have c99 := h.c99 ok.l
  have c66 := h.c66 ok.l
  have hf := ok.few
  clear h ok
  unfold addE
  generalize c.ev.length = n at *
  generalize c.la = la at *
  have H1 := hid (isTime_any t)
  have H2 := hid (tooLong_any what who h1 h2)
  by_cases e1 : 0 ≤ t ∧ t ≤ 1099511627776
  · rw [if_neg (by omega)]
    rw [decide_eq_true e1] at H1
    by_cases e2 : 12 < what.size ∨ 30 < who.size
    · rw [if_pos e2]
      rw [decide_eq_true e2] at H2
      clear e2 h1 h2
      go_enter Tryd.func59, Tryd.ntmps59
      go_wp2_with (first
        | (go_at_call 87; refine (H1.out _).mono ?_; rintro e w1 ⟨rfl, rfl⟩)
        | (go_at_call 73; refine (H2.out _).mono ?_; rintro e w1 ⟨rfl, rfl⟩))
      go_ret
      exact ⟨rfl, rfl⟩
    · rw [if_neg e2]
      rw [decide_eq_false e2] at H2
      clear e2 h1 h2
      by_cases e3 : t < (la : Int)
      · rw [if_pos e3]
        go_enter Tryd.func59, Tryd.ntmps59
        go_wp2_with (first
          | (go_at_call 87; refine (H1.out _).mono ?_; rintro e w1 ⟨rfl, rfl⟩)
          | (go_at_call 73; refine (H2.out _).mono ?_; rintro e w1 ⟨rfl, rfl⟩))
        go_ret
        exact ⟨rfl, rfl⟩
      · rw [if_neg e3]
        by_cases e4 : 64 ≤ n
        · rw [if_pos e4]
          have d4 : (64 : Int) ≤ (n : Int) := by omega
          go_enter Tryd.func59, Tryd.ntmps59
          go_wp2_with (first
            | (go_at_call 87; refine (H1.out _).mono ?_; rintro e w1 ⟨rfl, rfl⟩)
            | (go_at_call 73; refine (H2.out _).mono ?_; rintro e w1 ⟨rfl, rfl⟩))
          go_ret
          exact ⟨rfl, rfl⟩
        · rw [if_neg e4]
          have d4 : ¬ (64 : Int) ≤ (n : Int) := by omega
          go_enter Tryd.func59, Tryd.ntmps59
          go_wp2_with (first
            | (go_at_call 87; refine (H1.out _).mono ?_; rintro e w1 ⟨rfl, rfl⟩)
            | (go_at_call 73; refine (H2.out _).mono ?_; rintro e w1 ⟨rfl, rfl⟩))
          go_ret
          exact ⟨rfl, rfl⟩
  · rw [if_pos (by omega)]
    rw [decide_eq_false e1] at H1
    go_enter Tryd.func59, Tryd.ntmps59
    go_wp2_with (first
      | (go_at_call 87; refine (H1.out _).mono ?_; rintro e w1 ⟨rfl, rfl⟩)
      | (go_at_call 73; refine (H2.out _).mono ?_; rintro e w1 ⟨rfl, rfl⟩))
    go_ret
    exact ⟨rfl, rfl⟩
end Go.Proofs.YthfmpebgmojcaaaDoor
