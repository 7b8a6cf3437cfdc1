/- The words of a block added to the state: loop 8 of the reference's Sum, over a frame that is a letter. -/
import Derived.Test.YtfiaefagnkmpoaaDoorHRefL8
namespace Go.Proofs.YtfiaefagnkmpoaaDoor
open Go.RowKit
set_option linter.unusedVariables false
set_option maxRecDepth 100000
/-- a state whose first j words have been added to -/
def mix8 (s e : S8) (j : Nat) : S8 := ⟨if 0 < j then s.a + e.a else s.a, if 1 < j then s.b + e.b else s.b, if 2 < j then s.c + e.c else s.c, if 3 < j then s.d + e.d else s.d, if 4 < j then s.e + e.e else s.e, if 5 < j then s.f + e.f else s.f, if 6 < j then s.g + e.g else s.g, if 7 < j then s.h + e.h else s.h⟩
theorem mix8_zero (s e : S8) : mix8 s e 0 = s := rfl
theorem mix8_all (s e : S8) : mix8 s e 8 = s.add e := rfl
theorem mix8_step (s e : S8) (j : Nat) (h : j < 8) : (mix8 s e j).vals.setIfInBounds j (vw ((mix8 s e j).toL[j]'h + e.toL[j]'h)) = (mix8 s e (j + 1)).vals := by
  have : j = 0 ∨ j = 1 ∨ j = 2 ∨ j = 3 ∨ j = 4 ∨ j = 5 ∨ j = 6 ∨ j = 7 := by omega
  rcases this with rfl | rfl | rfl | rfl | rfl | rfl | rfl | rfl <;> rfl
/-- what the loop keeps -/
structure I8 (N gm gv cv : Nat) (cur : Array Value) (V2 : World) (sH e8 : S8) (A0 A : Act) (W : World) (j : Nat) : Prop where
  sz : A.tmps.size = 288
  k : Keep A0 A L8
  le : j ≤ 8
  i : A.eval (.tmp 22) = .int .i64 (j : Int)
  v : VW W gv e8
  bl : BL N gm cur V2 W (mix8 sH e8 j)
def mu8 (A : Act) (_ : World) : Nat := 8 - (intOf (A.eval (.tmp 22))).toNat
set_option maxHeartbeats 400000 in
theorem round8 {Q : Exit → Act → World → Prop} {N gm gv cv : Nat} {cur : Array Value} {V2 : World} {sH e8 : S8} {A0 : Act} (x3 : A0.eval (.tmp 3) = .slice (some ⟨N + 1, 0, none⟩) 8 8) (x15 : A0.eval (.tmp 15) = .slice (some ⟨gv, 0, none⟩) 8 cv) (hg : N + 1 < gv) (hgm : gm ≠ N + 1)
    (hexit : ∀ A W, I8 N gm gv cv cur V2 sH e8 A0 A W 8 → Q (.exit 14) A W) (A : Act) (W : World) (j : Nat) (I : I8 N gm gv cv cur V2 sH e8 A0 A W j) :
    Code.wp Tryd.prog body8 (Exit.then (fun A' W' => (∃ j', I8 N gm gv cv cur V2 sH e8 A0 A' W' j') ∧ mu8 A' W' < mu8 A W) Q) A W := by
  conv => arg 2; whnf
  refine wp_seq ?_
  refine wp_seq ?_
  refine wp_split _ (out40 A W j I.sz I.i) ?_
  rintro A1 W1 ⟨⟨k1, c1⟩, hW1⟩
  show Code.wp _ _ _ A1 W1
  have K1 : Keep A A1 L8 := k1.mono (by decide)
  have sz1 : A1.tmps.size = 288 := K1.sz.trans I.sz
  have y22 : A1.eval (.tmp 22) = .int .i64 (j : Int) := (k1.keep 22 (by decide)).trans I.i
  by_cases hlt : j < 8
  · refine wp_cond_true (by rw [c1, decide_eq_true (by omega)]) ?_
    refine wp_skip ?_
    show Code.wp _ _ _ A1 W1
    refine wp_seq ?_
    refine wp_block ?_
    have y3 := (K1.keep 3 (by decide)).trans ((I.k.keep 3 (by decide)).trans x3)
    have y15 := (K1.keep 15 (by decide)).trans ((I.k.keep 15 (by decide)).trans x15)
    have hp : W1.cell? ⟨N + 1, j, none⟩ = some (vw ((mix8 sH e8 j).toL[j]'hlt)) := by rw [hW1, cell_of_row _ _ _ _ _ _ I.bl.h, vals_get _ j hlt]
    have hf : W1.frozen? ⟨N + 1, j, none⟩ = false := by rw [hW1]; exact frozen_of_row _ _ j _ _ I.bl.h
    refine wp_split _ (out42 A1 W1 N gv cv j _ (e8.toL[j]'hlt) hlt hg sz1 y3 y15 y22 hp (by rw [hW1]; exact I.v j hlt) hf) ?_
    rintro A2 W2 ⟨k2, hW2⟩
    show Code.wp _ _ _ A2 W2
    have K2 : Keep A1 A2 L8 := k2.mono (by decide)
    refine wp_split _ (out41 A2 W2 j (by omega) (K2.sz.trans sz1) ((k2.keep 22 (by decide)).trans y22)) ?_
    rintro A3 W3 ⟨⟨k3, c3⟩, hW3⟩
    show (∃ j', I8 N gm gv cv cur V2 sH e8 A0 A3 W3 j') ∧ mu8 A3 W3 < mu8 A W
    have K3 : Keep A2 A3 L8 := k3.mono (by decide)
    have hb1 : Below (N + 1) V2 W1 := by rw [hW1]; exact I.bl.bel
    have hh1 : W1.heap[N + 1]? = some (.cells (mix8 sH e8 j).vals 53 (0, 0)) := by rw [hW1]; exact I.bl.h
    have hk1 : W1.heap[N + 1 + 1]? = some (.cells kcells 53 (0, 0)) := by rw [hW1]; exact I.bl.k
    have hm1 : W1.heap[gm]? = some (.cells cur 5 (0, 0)) := by rw [hW1]; exact I.bl.m
    have hv1 : VW W1 gv e8 := by rw [hW1]; exact I.v
    refine ⟨⟨j + 1, ⟨K3.sz.trans (K2.sz.trans sz1), I.k.trans (K1.trans (K2.trans K3)), by omega, c3, ?_, ?_⟩⟩, ?_⟩
    · rw [hW3, hW2]
      intro q hq
      exact (World.cell?_setCell_other _ _ _ _ (by intro h; simp only [Addr.mk.injEq] at h; omega)).trans (hv1 q hq)
    · rw [hW3, hW2]
      refine ⟨?_, (heap_setCell_other _ _ _ _ (by simp)).trans hk1, (heap_setCell_other _ _ _ _ hgm).trans hm1, hb1.drew.setCell (Nat.le_refl _) _⟩
      rw [heap_setCell_same _ _ _ _ _ _ (show W1.drew.heap[N + 1]? = _ from hh1), mix8_step _ _ _ hlt]
    · unfold mu8
      rw [c3, I.i]
      simp only [intOf]
      omega
  · refine wp_cond_false (by rw [c1, decide_eq_false (by omega)]) ?_
    refine wp_exit ?_
    show Q (.exit 14) A1 W1
    have hr : j = 8 := by have := I.le; omega
    subst hr
    exact hexit A1 W1 ⟨sz1, I.k.trans K1, Nat.le_refl _, y22, by rw [hW1]; exact I.v, by rw [hW1]; exact I.bl⟩
/-- the loop -/
theorem loop8 {Q : Exit → Act → World → Prop} {N gm gv cv : Nat} {cur : Array Value} {V2 : World} {sH e8 : S8} {A0 : Act} {W0 : World} (x3 : A0.eval (.tmp 3) = .slice (some ⟨N + 1, 0, none⟩) 8 8) (x15 : A0.eval (.tmp 15) = .slice (some ⟨gv, 0, none⟩) 8 cv) (hg : N + 1 < gv) (hgm : gm ≠ N + 1)
    (start : I8 N gm gv cv cur V2 sH e8 A0 A0 W0 0) (hexit : ∀ A W, I8 N gm gv cv cur V2 sH e8 A0 A W 8 → Q (.exit 14) A W) : Code.wp Tryd.prog (Code.loop body8) Q A0 W0 :=
  wp_loop (fun A W => ∃ j, I8 N gm gv cv cur V2 sH e8 A0 A W j) mu8 ⟨0, start⟩ (fun A W ⟨j, h⟩ => round8 x3 x15 hg hgm hexit A W j h)
end Go.Proofs.YtfiaefagnkmpoaaDoor
