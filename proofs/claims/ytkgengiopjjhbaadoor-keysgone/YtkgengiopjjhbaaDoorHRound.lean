/- A round. -/
import Derived.Test.YtkgengiopjjhbaaDoorHBase
namespace Go.Proofs.YtkgengiopjjhbaaDoor
open Go.RowKit
set_option linter.unusedVariables false
set_option maxRecDepth 20000

/-- a state's cells -/
def S8.vals (s : S8) : Array Value := #[vw s.a, vw s.b, vw s.c, vw s.d, vw s.e, vw s.f, vw s.g, vw s.h]
theorem S8.vals_toL (s : S8) : s.vals.toList = s.toL.map vw := rfl

theorem size_state : (Tryd.prog.info? 92).map (·.size) = some 8 := by kernel_rfl

theorem sum6 (h s c x p q : W32) : ((h.toNat : Int) + (s.toNat : Int) + (c.toNat : Int) + (x.toNat : Int) + ((p.toNat : Int) + (q.toNat : Int))) % 4294967296 = ((h + s + c + x + (p + q)).toNat : Int) := by
  simp only [BitVec.toNat_add]
  omega
theorem sum5 (d h s c x : W32) : ((d.toNat : Int) + ((h.toNat : Int) + (s.toNat : Int) + (c.toNat : Int) + (x.toNat : Int))) % 4294967296 = ((d + (h + s + c + x)).toNat : Int) := by
  simp only [BitVec.toNat_add]
  omega
theorem row8 (w : World) (g : Nat) (t : TypeId) (u0 u1 u2 u3 u4 u5 u6 u7 v0 v1 v2 v3 v4 v5 v6 v7 : Value) (hg : w.heap[g]? = some (.cells #[u0, u1, u2, u3, u4, u5, u6, u7] t (0, 0))) :
    ((((((((w.setCell ⟨g, 0, none⟩ v0).setCell ⟨g, 1, none⟩ v1).setCell ⟨g, 2, none⟩ v2).setCell ⟨g, 3, none⟩ v3).setCell ⟨g, 4, none⟩ v4).setCell ⟨g, 5, none⟩ v5).setCell ⟨g, 6, none⟩ v6).setCell ⟨g, 7, none⟩ v7).heap[g]? = some (.cells #[v0, v1, v2, v3, v4, v5, v6, v7] t (0, 0)) := by
  have h := heap_setCell_same _ _ 7 _ _ v7 (heap_setCell_same _ _ 6 _ _ v6 (heap_setCell_same _ _ 5 _ _ v5 (heap_setCell_same _ _ 4 _ _ v4 (heap_setCell_same _ _ 3 _ _ v3 (heap_setCell_same _ _ 2 _ _ v2 (heap_setCell_same _ _ 1 _ _ v1 (heap_setCell_same _ _ 0 _ _ v0 hg)))))))
  simpa using h

set_option maxHeartbeats 2000000 in
theorem round_any (s : S8) (x : W32) (w : World) :
    Calls Tryd.prog 70 #[.agg s.vals, vw x] w fun e w' => e = .returned (.agg (rd s x).vals) ∧ Below w.heap.size w w' := by
  obtain ⟨a, b, c, d, e, f, g, h⟩ := s
  have HR : Hid ((rd ⟨a, b, c, d, e, f, g, h⟩ x).vals = #[vw (t1 ⟨a, b, c, d, e, f, g, h⟩ x + t2 ⟨a, b, c, d, e, f, g, h⟩), vw a, vw b, vw c, vw (d + t1 ⟨a, b, c, d, e, f, g, h⟩ x), vw e, vw f, vw g]) := rfl
  generalize (rd ⟨a, b, c, d, e, f, g, h⟩ x).vals = R at HR
  unfold S8.vals
  have sg : IntKind.u32.signed = false := rfl
  go_enter Tryd.func70, Tryd.ntmps70
  go_wp2_with fail
  go_quiet (fail)
  go_wp2_with fail
  refine (turned_any e 6 (by omega) (by omega) _).mono ?_
  rintro _ _ ⟨rfl, rfl⟩
  go_wp2_with fail
  refine (turned_any e 11 (by omega) (by omega) _).mono ?_
  rintro _ _ ⟨rfl, rfl⟩
  go_wp2_with fail
  refine (turned_any e 25 (by omega) (by omega) _).mono ?_
  rintro _ _ ⟨rfl, rfl⟩
  go_wp2_with fail
  refine (turned_any a 2 (by omega) (by omega) _).mono ?_
  rintro _ _ ⟨rfl, rfl⟩
  go_wp2_with fail
  refine (turned_any a 13 (by omega) (by omega) _).mono ?_
  rintro _ _ ⟨rfl, rfl⟩
  go_wp2_with fail
  refine (turned_any a 22 (by omega) (by omega) _).mono ?_
  rintro _ _ ⟨rfl, rfl⟩
  go_wp2
  have z := heap_alloc2_new w (.cells #[vw a, vw b, vw c, vw d, vw e, vw f, vw g, vw h] 92) (.cells #[.int .u32 0, .int .u32 0, .int .u32 0, .int .u32 0, .int .u32 0, .int .u32 0, .int .u32 0, .int .u32 0] 92)
  have q : ∀ X Y : Value, vw (t1 ⟨a, b, c, d, e, f, g, h⟩ x + t2 ⟨a, b, c, d, e, f, g, h⟩) = X → vw (d + t1 ⟨a, b, c, d, e, f, g, h⟩ x) = Y → R = #[X, vw a, vw b, vw c, Y, vw e, vw f, vw g] := fun X Y hX hY => by rw [HR.out, hX, hY]
  refine bodyPost_ret (results_cell_row rfl _ _ (w.heap.size + 1) 92 R (0, 0) _ rfl ?_ Tryd.underlying92 rfl ?_) rfl ⟨rfl, ?_⟩
  · rw [q _ _ ?_ ?_]
    · exact row8 _ _ _ _ _ _ _ _ _ _ _ _ _ _ _ _ _ _ _ z
    · simp only [w_and, w_xor, w_not, t1, t2]
      exact congrArg _ (sum6 _ _ _ _ _ _).symm
    · simp only [w_and, w_xor, w_not, t1]
      exact congrArg _ (sum5 _ _ _ _ _).symm
  · rw [HR.out]; exact size_state
  · exact (((((((((((Below.refl _ w).alloc (Nat.le_refl _) _).alloc (by simp) _).drewN _).setCell (by simp) _).setCell (by simp) _).setCell (by simp) _).setCell (by simp) _).setCell (by simp) _).setCell (by simp) _).setCell (by simp) _).setCell (by simp) _
end Go.Proofs.YtkgengiopjjhbaaDoor
