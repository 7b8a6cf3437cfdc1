/- live of the laws on tokens. (Printed by gen/klive.py.) -/
import Derived.Test.YtlfajgmhegcnaaaKOk
namespace Go.Proofs.Ytlfajgmhegcnaaa
open Go.RowKit Go.Maps Go.Sort Go.Shelf
set_option linter.unusedVariables false
set_option maxRecDepth 20000
set_option maxRecDepth 20000

def liveF1 : Fam.Sess := ⟨1, 1, ⟨#[99]⟩, 3, 1⟩
def liveF2 : Fam.Sess := ⟨1, 1, ⟨#[99]⟩, 3, 2⟩
def liveK1 : Tok.Sess := ⟨1, 1, 3, 50⟩
def liveK2 : Tok.Sess := ⟨2, 1, 3, 60⟩
def liveT1 : Sto := ⟨0, 2, [liveF1], 2, [liveK1]⟩
def liveT2 : Sto := ⟨10, 2, [liveF2], 3, [liveK1, liveK2]⟩
def liveT3 : Sto := ⟨11, 2, [], 3, []⟩
theorem live_g : tGrant sto0 1 ⟨#[99]⟩ 3 0 = (liveF1, liveK1, 0, liveT1) := by
  have h : grantErr sto0 1 ⟨#[99]⟩ 0 = 0 := by decide +kernel
  unfold tGrant
  rw [if_neg (by simp [h])]
  rfl
theorem live_r : tRefresh liveT1 1 1 10 = (liveF2, liveK2, 0, liveT2) := by
  have h : fAt liveT1 1 10 = (liveF1, 0) := by rfl
  have h2 : spendErr liveT1 liveF1 1 = 0 := by decide +kernel
  unfold tRefresh
  rw [h, if_neg (by simp), h2, if_neg (by simp)]
  rfl
theorem live_u : tRefresh liveT2 1 1 11 = (Fam.sess0, Tok.sess0, 13, liveT3) := by
  have h : fAt liveT2 1 11 = (liveF2, 0) := by rfl
  have h2 : spendErr liveT2 liveF2 1 = 13 := by decide +kernel
  unfold tRefresh
  rw [h, if_neg (by simp), h2, if_pos (by decide), if_pos rfl]
  rfl
theorem live_a : tAccess liveT3 2 11 = (Tok.sess0, 12) := by rfl
theorem liveT1_ok : StoOk liveT1 := by have := tGrant_ok sto0_ok 1 ⟨#[99]⟩ 3 0 (by decide); rw [live_g] at this; exact this
theorem liveT2_ok : StoOk liveT2 := by have := tRefresh_ok liveT1_ok 1 1 10; rw [live_r] at this; exact this
theorem liveT3_ok : StoOk liveT3 := by have := tRefresh_ok liveT2_ok 1 1 11; rw [live_u] at this; exact this

theorem two_blocks (w : World) (c1 c2 : Array Value) (t1 t2 : Nat) : ((w.alloc (.cells c1 t1)).alloc (.cells c2 t2)).heap[w.heap.size]? = some (.cells c1 t1 (0, 0)) ∧ ((w.alloc (.cells c1 t1)).alloc (.cells c2 t2)).heap[w.heap.size + 1]? = some (.cells c2 t2 (0, 0)) ∧ Below w.heap.size w ((w.alloc (.cells c1 t1)).alloc (.cells c2 t2)) := by
  refine ⟨?_, ?_, ((Below.refl _ w).alloc (Nat.le_refl _) _).alloc (by simp) _⟩
  · rw [Below.heap_alloc _ _ _ (by simp)]; exact (MapKept.heap_alloc w _).1
  · have h9 := (MapKept.heap_alloc (w.alloc (.cells c1 t1)) (.cells c2 t2)).1
    rw [World.size_alloc] at h9
    exact h9

end Go.Proofs.Ytlfajgmhegcnaaa
