/- A tree of keys in memory: New, reach, version, Current, by contracts. -/
import Derived.Test.YtkgengiopjjhbaaDoorHDerive
import Derived.Test.YtkgengiopjjhbaaDoorANum
import Derived.Test.YtkgengiopjjhbaaDoorSLeaf
import Derived.Test.YtkgengiopjjhbaaDoorEOpen
import Derived.Maps.OwnSet
import Derived.Maps.OwnOps
import Derived.DeepKeys4
import Derived.BigQuiet
import Derived.Deep.QuietTactic
namespace Go.Proofs.YtkgengiopjjhbaaDoor
open Go.RowKit Go.Maps

set_option linter.unusedVariables false
set_option maxRecDepth 20000

theorem laidOutJ : laidOutB Tryd.prog = true := by kernel_rfl
theorem lawPlace : Keyed Tryd.prog 54 := Keyed.of_law (deep_law_laid laidOutJ (m := 2) (by omega) (of_decide_eq_true (by kernel_rfl)) (by kernel_rfl) (by kernel_rfl))
theorem lawStr : Keyed Tryd.prog 9 := string_keyed Tryd.underlying9
/-- the cells of a tree -/
def treeC (root : List UInt8) (mv mg n : Nat) : List Value := cellsOf root ++ [.map (some mv), .map (some mg), .int .i64 (n : Int)]
structure TreeAt (w : World) (B g : Nat) (root : List UInt8) (mv mg nv ng : Nat) (V G : DataW Unit) (n : Nat) : Prop where
  obj : w.heap[g]? = some (.cells (treeC root mv mg n).toArray 48 (0, 0))
  vm : w.ownsMap Tryd.prog 54 (plainElem Tryd.prog 3) mv nv V
  gm : w.ownsMap Tryd.prog 9 (unitElem (H := Unit)) mg ng G
  len : root.length = 32
  bg : B ≤ g
  bv : B ≤ mv
  bm : B ≤ mg
section
variable {w w' : World} {B g : Nat} {root : List UInt8} {mv mg nv ng : Nat} {V G : DataW Unit} {n : Nat}
theorem TreeAt.lt (h : TreeAt w B g root mv mg nv ng V G n) : g < w.heap.size := heap_lt h.obj
theorem TreeAt.c32 (h : TreeAt w B g root mv mg nv ng V G n) : w.cell? ⟨g, 32, none⟩ = some (.map (some mv)) := by
  rw [cell_of_row _ _ _ _ _ _ h.obj, treeC, List.getElem?_toArray, List.getElem?_append_right (by rw [cellsOf_length, h.len]; omega), cellsOf_length, h.len]
  rfl
theorem TreeAt.c33 (h : TreeAt w B g root mv mg nv ng V G n) : w.cell? ⟨g, 33, none⟩ = some (.map (some mg)) := by
  rw [cell_of_row _ _ _ _ _ _ h.obj, treeC, List.getElem?_toArray, List.getElem?_append_right (by rw [cellsOf_length, h.len]; omega), cellsOf_length, h.len]
  rfl
theorem TreeAt.c34 (h : TreeAt w B g root mv mg nv ng V G n) : w.cell? ⟨g, 34, none⟩ = some (.int .i64 (n : Int)) := by
  rw [cell_of_row _ _ _ _ _ _ h.obj, treeC, List.getElem?_toArray, List.getElem?_append_right (by rw [cellsOf_length, h.len]; omega), cellsOf_length, h.len]
  rfl
theorem TreeAt.fz (h : TreeAt w B g root mv mg nv ng V G n) (o : Nat) : w.frozen? ⟨g, o, none⟩ = false := frozen_of_row _ _ _ _ _ h.obj
theorem TreeAt.below (h : TreeAt w B g root mv mg nv ng V G n) (hb : Below w.heap.size w w') : TreeAt w' B g root mv mg nv ng V G n := by
  have hgr : w.grownBy w' none := ⟨hb.os, hb.tape, hb.output, hb.size, fun k hk _ => hb.block k hk⟩
  exact ⟨(hb.block g h.lt).trans h.obj, h.vm.kept hgr (by simp), h.gm.kept hgr (by simp), h.len, h.bg, h.bv, h.bm⟩
end
/-- the version at a key -/
def VerIs (V : DataW Unit) (kl : Lit) (c : Int) : Prop := (Maps.has V kl = true ∧ V.atKey kl (.lit (.int .i64 0)) = .lit (.int .i64 c)) ∨ (Maps.has V kl = false ∧ c = 1)
theorem zeroInt (w : World) : (zeroValue 3).run Tryd.prog w = .ok (.int .i64 0) w := by kernel_rfl
theorem zeroUnit (w : World) : (zeroValue 52).run Tryd.prog w = .ok (.agg #[]) w := by kernel_rfl

set_option maxHeartbeats 1000000 in
theorem version_ok {w : World} {B g : Nat} {root : List UInt8} {mv mg nv ng : Nat} {V G : DataW Unit} {n : Nat} (h : TreeAt w B g root mv mg nv ng V G n) (t u : ByteArray) (kl : Lit) (hk : Go.keyOf Tryd.prog 54 (.agg #[.string t, .string u]) = some kl) (c : Int) (hc : VerIs V kl c) :
    Calls Tryd.prog 19 #[.pointer (some ⟨g, 0, none⟩), .agg #[.string t, .string u]] w fun e w' => e = .returned (.int .i64 c) ∧ Below w.heap.size w w' := by
  have b0 : Below w.heap.size w (w.alloc (.cells #[.string t, .string u] 54)) := (Below.refl _ w).alloc (Nat.le_refl _) _
  have h0 := h.below b0
  have c32 := h0.c32
  obtain ⟨W, hW⟩ : ∃ W, W = w.alloc (.cells #[.string t, .string u] 54) := ⟨_, rfl⟩
  rw [← hW] at h0 b0 c32
  obtain ⟨v, ps, hrun, hv⟩ := h0.vm.look_ok (z := .int .i64 0) lawPlace Tryd.underlying45 (zeroInt _) (plainElem_int Tryd.underlying3 (by decide)) hk
  obtain ⟨c0, rfl, hc0, _⟩ := plainElem_int_inv Tryd.underlying3 hv
  have hlk : ∀ q, (Instr.lookup 45 (.map (some mv)) (.agg #[.string t, .string u]) true).run Tryd.prog (W.drewN q) = .ok (.tuple #[.int .i64 c0, .bool (Maps.has V kl)]) (W.drewN q) := by
    intro q
    obtain ⟨v, ps, hrun', hv'⟩ := (h0.below (below_drewN _ _ q)).vm.look_ok (z := .int .i64 0) lawPlace Tryd.underlying45 (zeroInt _) (plainElem_int Tryd.underlying3 (by decide)) hk
    obtain ⟨c', rfl, hc', _⟩ := plainElem_int_inv Tryd.underlying3 hv'
    have f0 : V.atKey kl (.lit (.int .i64 0)) = .lit (.int .i64 c0) := congrArg Prod.fst hc0
    have f1 : V.atKey kl (.lit (.int .i64 0)) = .lit (.int .i64 c') := congrArg Prod.fst hc'
    have e2 : DataW.lit (H := Unit) (.int .i64 c0) = .lit (.int .i64 c') := f0.symm.trans f1
    injection e2 with e3
    injection e3 with _ e4
    rw [hrun', e4]
  have e9 : V.atKey kl (.lit (.int .i64 0)) = .lit (.int .i64 c0) := congrArg Prod.fst hc0
  have x0 : W.cell? ⟨w.heap.size, 0, none⟩ = some (.string t) := by rw [hW]; exact (World.cell?_alloc_at _ _ _ _ rfl).trans rfl
  have x1 : W.cell? ⟨w.heap.size, 1, none⟩ = some (.string u) := by rw [hW]; exact (World.cell?_alloc_at _ _ _ _ rfl).trans rfl
  have hlt : g < W.heap.size := h0.lt
  have HW := hid hW
  have B0 := hid b0
  have hlk0 := hlk 0
  rcases hc with ⟨h1, h2⟩ | ⟨h1, h2⟩
  · obtain rfl : c = c0 := by
      have e2 : DataW.lit (H := Unit) (.int .i64 c) = .lit (.int .i64 c0) := h2.symm.trans e9
      injection e2 with e3
      injection e3 with _ e4
    rw [h1] at hlk
    clear h h0 hrun hv hc0 h2 e9 hW b0 h1 hk hlk0
    go_enter Tryd.func19, Tryd.ntmps19
    go_wp2
    rw [← HW.out]
    go_quiet (fail)
    go_wp2
    go_ret
    exact ⟨rfl, B0.out.trans (below_drewN _ _ _)⟩
  · subst h2
    rw [h1] at hlk
    clear h h0 hrun hv hc0 e9 hW b0 h1 hk hlk0
    go_enter Tryd.func19, Tryd.ntmps19
    go_wp2
    rw [← HW.out]
    go_quiet (fail)
    go_wp2
    go_ret
    exact ⟨rfl, B0.out.trans (below_drewN _ _ _)⟩
end Go.Proofs.YtkgengiopjjhbaaDoor
