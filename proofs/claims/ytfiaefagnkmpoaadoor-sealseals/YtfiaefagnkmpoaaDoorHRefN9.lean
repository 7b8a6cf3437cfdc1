/- The bytes of the state, and the end of the reference's Sum, over a frame that is a letter. -/
import Derived.Test.YtfiaefagnkmpoaaDoorHRefM9
namespace Go.Proofs.YtfiaefagnkmpoaaDoor
open Go.RowKit
set_option linter.unusedVariables false
set_option maxRecDepth 100000
noncomputable def body9 : Code := ((Tryd.f12.body.bind (loopAt 47)).getD .skip)
/-- what the loop keeps -/
structure I9 (N go : Nat) (s : S8) (Z : Array Value) (w : World) (A0 A : Act) (W : World) (i : Nat) : Prop where
  sz : A.tmps.size = 288
  k : Keep A0 A L9
  le : i ≤ 32
  ix : A.eval (.tmp 24) = .int .i64 (i : Int)
  o : W.heap[go]? = some (.cells (bvs (outAt s i)) 26 (0, 0))
  h : W.heap[N + 1]? = some (.cells s.vals 53 (0, 0))
  r : W.heap[N]? = some (.cells Z 26 (0, 0))
  b : Below N w W
def mu9 (A : Act) (_ : World) : Nat := 32 - (intOf (A.eval (.tmp 24))).toNat
set_option maxHeartbeats 400000 in
theorem round9 {Q : Exit → Act → World → Prop} {N go : Nat} {s : S8} {Z : Array Value} {w : World} {A0 : Act} (x3 : A0.eval (.tmp 3) = .slice (some ⟨N + 1, 0, none⟩) 8 8) (x23 : A0.eval (.tmp 23) = .pointer (some ⟨go, 0, none⟩)) (hg : N + 1 < go)
    (hexit : ∀ A W, I9 N go s Z w A0 A W 32 → Q (.exit 16) A W) (A : Act) (W : World) (i : Nat) (I : I9 N go s Z w A0 A W i) :
    Code.wp Tryd.prog body9 (Exit.then (fun A' W' => (∃ i', I9 N go s Z w A0 A' W' i') ∧ mu9 A' W' < mu9 A W) Q) A W := by
  conv => arg 2; whnf
  refine wp_seq ?_
  refine wp_seq ?_
  refine wp_split _ (out45 A W i I.sz I.ix) ?_
  rintro A1 W1 ⟨⟨k1, c1⟩, hW1⟩
  show Code.wp _ _ _ A1 W1
  have K1 : Keep A A1 L9 := k1.mono (by decide)
  have sz1 : A1.tmps.size = 288 := K1.sz.trans I.sz
  have y24 : A1.eval (.tmp 24) = .int .i64 (i : Int) := (k1.keep 24 (by decide)).trans I.ix
  by_cases hlt : i < 32
  · refine wp_cond_true (by rw [c1, decide_eq_true (by omega)]) ?_
    refine wp_skip ?_
    show Code.wp _ _ _ A1 W1
    refine wp_seq ?_
    refine wp_block ?_
    have y3 := (K1.keep 3 (by decide)).trans ((I.k.keep 3 (by decide)).trans x3)
    have y23 := (K1.keep 23 (by decide)).trans ((I.k.keep 23 (by decide)).trans x23)
    have h4 : i / 4 < 8 := by omega
    have hp : W1.cell? ⟨N + 1, i / 4, none⟩ = some (vw (s.toL[i / 4]'h4)) := by rw [hW1, cell_of_row _ _ _ _ _ _ I.h, vals_get _ _ h4]
    have ho1 : W1.heap[go]? = some (.cells (bvs (outAt s i)) 26 (0, 0)) := by rw [hW1]; exact I.o
    have hol : i < (outAt s i).length := by rw [outAt_length _ _ I.le]; exact hlt
    have hu : W1.cell? ⟨go, i, none⟩ = some (.int .u8 (((outAt s i)[i]'hol).toNat : Int)) := by rw [cell_of_row _ _ _ _ _ _ ho1, bvs_get _ _ hol]
    refine wp_split _ (out47 A1 W1 N go i _ _ hlt sz1 y24 y3 y23 hp hu (frozen_of_row _ _ i _ _ ho1)) ?_
    rintro A2 W2 ⟨K2, c2, hW2⟩
    show Code.wp _ _ _ A2 W2
    refine wp_split _ (out46 A2 W2 i (by omega) (K2.sz.trans sz1) c2) ?_
    rintro A3 W3 ⟨⟨k3, c3⟩, hW3⟩
    show (∃ i', I9 N go s Z w A0 A3 W3 i') ∧ mu9 A3 W3 < mu9 A W
    have K3 : Keep A2 A3 L9 := k3.mono (by decide)
    refine ⟨⟨i + 1, ⟨K3.sz.trans (K2.sz.trans sz1), I.k.trans (K1.trans (K2.trans K3)), by omega, c3, ?_, ?_, ?_, ?_⟩⟩, ?_⟩
    · rw [hW3, hW2, heap_setCell_same _ _ _ _ _ _ ho1, bvs_set]
      have e := outAt_set s (i / 4) (i % 4) h4 (by omega)
      rw [show 4 * (i / 4) + i % 4 = i by omega] at e
      rw [BitVec.toNat_ushiftRight, Nat.shiftRight_eq_div_pow, e]
    · rw [hW3, hW2, heap_setCell_other _ _ _ _ (show N + 1 ≠ go by omega), hW1]; exact I.h
    · rw [hW3, hW2, heap_setCell_other _ _ _ _ (show N ≠ go by omega), hW1]; exact I.r
    · rw [hW3, hW2, hW1]; exact I.b.setCell (p := ⟨go, i, none⟩) (show N ≤ go by omega) _
    · unfold mu9
      rw [c3, I.ix]
      simp only [intOf]
      omega
  · refine wp_cond_false (by rw [c1, decide_eq_false (by omega)]) ?_
    refine wp_exit ?_
    show Q (.exit 16) A1 W1
    have hr : i = 32 := by have := I.le; omega
    subst hr
    exact hexit A1 W1 ⟨sz1, I.k.trans K1, Nat.le_refl _, y24, by rw [hW1]; exact I.o, by rw [hW1]; exact I.h, by rw [hW1]; exact I.r, by rw [hW1]; exact I.b⟩
theorem loop9 {Q : Exit → Act → World → Prop} {N go : Nat} {s : S8} {Z : Array Value} {w : World} {A0 : Act} {W0 : World} (x3 : A0.eval (.tmp 3) = .slice (some ⟨N + 1, 0, none⟩) 8 8) (x23 : A0.eval (.tmp 23) = .pointer (some ⟨go, 0, none⟩)) (hg : N + 1 < go)
    (start : I9 N go s Z w A0 A0 W0 0) (hexit : ∀ A W, I9 N go s Z w A0 A W 32 → Q (.exit 16) A W) : Code.wp Tryd.prog (Code.loop body9) Q A0 W0 :=
  wp_loop (fun A W => ∃ i, I9 N go s Z w A0 A W i) mu9 ⟨0, start⟩ (fun A W ⟨i, h⟩ => round9 x3 x23 hg hexit A W i h)
noncomputable def code48 : Code := ((Tryd.f12.body.bind (regionAt 48)).getD .skip)
theorem out48 (A : Act) (W : World) (N go : Nat) (l : List UInt8) (hl : l.length = 32) (Z : Array Value) (hZ : Z.size = 32) (sz : A.tmps.size = 288) (x2 : A.eval (.tmp 2) = .pointer (some ⟨N, 0, none⟩)) (x23 : A.eval (.tmp 23) = .pointer (some ⟨go, 0, none⟩))
    (ho : W.heap[go]? = some (.cells (bvs l) 26 (0, 0))) (hr : W.heap[N]? = some (.cells Z 26 (0, 0))) (hi : (Tryd.prog.info? 26).map (·.size) = some 32) :
    Code.wp Tryd.prog code48 (fun ex A' W' => ex = .normal ∧ (Keep A A' [287] ∧ W' = W.setRow N (bvs l))) A W := by
  have hi' : (Tryd.prog.info? 26).map (·.size) = some (bvs l).size := by rw [bvs_size, hl]; exact hi
  conv => arg 2; whnf
  refine wp_region_list ?_
  refine wpList_load_row rfl 26 (.tmp 23) rfl go x23 _ _ _ _ ho Tryd.underlying26 rfl hi' ?_
  refine wpList_store_row rfl 26 (.tmp 2) (.tmp 287) rfl N (bvs l) ((ev_ne _ _ (by decide)).trans x2) (ev_eq _ _ (by rw [sz]; decide)) 26 Z hr hi' (by rw [hZ, bvs_size, hl]) (bvs_one l) ?_
  exact wpList_nil ⟨rfl, ((Keep.refl A _).put 287 _ (by decide)).putn _, rfl⟩
end Go.Proofs.YtfiaefagnkmpoaaDoor
