/- The words spread: loop 6 of the reference's Sum, over a frame that is a letter. -/
import Derived.Test.YtfiaefagnkmpoaaDoorHRefL6
namespace Go.Proofs.YtfiaefagnkmpoaaDoor
open Go.RowKit
set_option linter.unusedVariables false
set_option maxRecDepth 100000
/-- what the loop keeps -/
structure I6 (N gm gw : Nat) (cur : Array Value) (V2 : World) (sH : S8) (bs : List UInt8) (A0 A : Act) (W : World) (e : Nat) : Prop where
  sz : A.tmps.size = 288
  k : Keep A0 A L6
  ge : 16 ≤ e
  le : e ≤ 64
  i : A.eval (.tmp 12) = .int .i64 (e : Int)
  w : W.heap[gw]? = some (.cells (wvs (extZ bs e)) 53 (0, 0))
  bl : BL N gm cur V2 W sH
def mu6 (A : Act) (_ : World) : Nat := 64 - (intOf (A.eval (.tmp 12))).toNat
set_option maxHeartbeats 400000 in
theorem round6 {Q : Exit → Act → World → Prop} {N gm gw : Nat} {cur : Array Value} {V2 : World} {sH : S8} {bs : List UInt8} {A0 : Act} (x9 : A0.eval (.tmp 9) = .slice (some ⟨gw, 0, none⟩) 64 64) (hgm : gm < gw) (hg : N + 1 + 1 < gw)
    (hexit : ∀ A W, I6 N gm gw cur V2 sH bs A0 A W 64 → Q (.exit 10) A W) (A : Act) (W : World) (e : Nat) (I : I6 N gm gw cur V2 sH bs A0 A W e) :
    Code.wp Tryd.prog body6 (Exit.then (fun A' W' => (∃ e', I6 N gm gw cur V2 sH bs A0 A' W' e') ∧ mu6 A' W' < mu6 A W) Q) A W := by
  conv => arg 2; whnf
  refine wp_seq ?_
  refine wp_seq ?_
  refine wp_split _ (out24 A W e I.sz I.i) ?_
  rintro A1 W1 ⟨⟨k1, c1⟩, hW1⟩
  show Code.wp _ _ _ A1 W1
  have K1 : Keep A A1 L6 := k1.mono (by decide)
  have sz1 : A1.tmps.size = 288 := K1.sz.trans I.sz
  have y12 : A1.eval (.tmp 12) = .int .i64 (e : Int) := (k1.keep 12 (by decide)).trans I.i
  have he0 := I.ge
  by_cases hlt : e < 64
  · refine wp_cond_true (by rw [c1, decide_eq_true (by omega)]) ?_
    refine wp_skip ?_
    show Code.wp _ _ _ A1 W1
    refine wp_seq ?_
    refine wp_block ?_
    refine wp_seq ?_
    have y9 := (K1.keep 9 (by decide)).trans ((I.k.keep 9 (by decide)).trans x9)
    have hw : W1.heap[gw]? = some (.cells (wvs (extZ bs e)) 53 (0, 0)) := by rw [hW1]; exact I.w
    have hbl : BL N gm cur V2 W1 sH := by rw [hW1]; exact I.bl
    have c15 := extZ_cell' he0 hlt 15 (by omega) (by omega) hw
    have c2 := extZ_cell' he0 hlt 2 (by omega) (by omega) hw
    have c7 := extZ_cell' he0 hlt 7 (by omega) (by omega) hw
    have c16 := extZ_cell' he0 hlt 16 (by omega) (by omega) hw
    have cE : W1.cell? ⟨gw, e, none⟩ = some (vw 0) := by
      rw [cell_of_row _ _ _ _ _ _ hw, wvs, List.getElem?_toArray, List.getElem?_map, extZ_zero bs e he0 hlt]
      rfl
    have fE := frozen_of_row _ _ e _ _ hw
    have Hst := extZ_step bs e he0 hlt
    have Hnx := nextW_at bs e he0 hlt
    obtain ⟨EX, hEX⟩ : ∃ EX, EX = ext (e - 16) (wordsAt bs 64) := ⟨_, rfl⟩
    rw [← hEX] at c15 c2 c7 c16 Hnx Hst
    obtain ⟨e15, h15⟩ : ∃ e15, e15 = e - 15 := ⟨_, rfl⟩
    obtain ⟨e2, h2⟩ : ∃ e2, e2 = e - 2 := ⟨_, rfl⟩
    obtain ⟨e7, h7⟩ : ∃ e7, e7 = e - 7 := ⟨_, rfl⟩
    obtain ⟨e16, h16⟩ : ∃ e16, e16 = e - 16 := ⟨_, rfl⟩
    rw [← h15] at c15
    rw [← h2] at c2
    rw [← h7] at c7
    rw [← h16] at c16
    rw [← h15, ← h2, ← h7, ← h16] at Hnx
    generalize EX.getD e15 0 = x at c15 Hnx
    generalize EX.getD e2 0 = y at c2 Hnx
    generalize EX.getD e7 0 = a7 at c7 Hnx
    generalize EX.getD e16 0 = a16 at c16 Hnx
    refine wp_split _ (out26 A1 W1 gw e e15 e2 x y (by omega) (by omega) hlt sz1 y9 y12 ⟨c15, c2⟩) ?_
    rintro A2 W2 ⟨⟨K2, s12, s13, s14⟩, hW2⟩
    show Code.wp _ _ _ A2 W2
    have sz2 : A2.tmps.size = 288 := K2.sz.trans sz1
    refine wp_split _ (out27 A2 W2 gw e e16 e7 x y a16 a7 _ _ _ _ _ _ _ _ _ rfl rfl rfl rfl rfl rfl rfl rfl rfl (vw 0) (by omega) (by omega) hlt sz2 ((K2.keep 9 (by decide)).trans y9) (s12.trans y12) s13 s14 (by rw [hW2]; exact ⟨c16, c7⟩) (by rw [hW2]; exact cE) (by rw [hW2]; exact fE)) ?_
    rintro A3 W3 ⟨k3, hW3⟩
    show Code.wp _ _ _ A3 W3
    have K3 : Keep A2 A3 L6 := k3.mono (by decide)
    refine wp_split _ (out25 A3 W3 e hlt (K3.sz.trans sz2) ((k3.keep 12 (by decide)).trans (s12.trans y12))) ?_
    rintro A4 W4 ⟨⟨k4, c4⟩, hW4⟩
    show (∃ e', I6 N gm gw cur V2 sH bs A0 A4 W4 e') ∧ mu6 A4 W4 < mu6 A W
    have K4 : Keep A3 A4 L6 := k4.mono (by decide)
    refine ⟨⟨e + 1, ⟨K4.sz.trans (K3.sz.trans sz2), I.k.trans (K1.trans (K2.trans (K3.trans K4))), by omega, by omega, c4, ?_, ?_⟩⟩, ?_⟩
    · rw [hW4, hW3, hW2]
      rw [heap_setCell_same _ _ _ _ _ _ (show W1.drew.drew.drew.drew.drew.drew.heap[gw]? = _ from hw), wvs_set, ← Hst, Hnx]
      have e1 : a16 + (rotr x 7 ^^^ rotr x 18 ^^^ x >>> 3) + a7 + (rotr y 17 ^^^ rotr y 19 ^^^ y >>> 10) = nearMix y + a7 + farMix x + a16 := by
        unfold nearMix farMix
        generalize rotr x 7 ^^^ rotr x 18 ^^^ x >>> 3 = m1
        generalize rotr y 17 ^^^ rotr y 19 ^^^ y >>> 10 = m2
        ac_rfl
      rw [e1]
    · rw [hW4, hW3, hW2]
      refine ⟨(heap_setCell_other _ _ _ _ (show N + 1 ≠ gw by omega)).trans hbl.h, (heap_setCell_other _ _ _ _ (show N + 1 + 1 ≠ gw by omega)).trans hbl.k, (heap_setCell_other _ _ _ _ (show gm ≠ gw by omega)).trans hbl.m, hbl.bel.drew.drew.drew.drew.drew.drew.setCell (p := ⟨gw, e, none⟩) (show N + 1 ≤ gw by omega) _⟩
    · unfold mu6
      rw [c4, I.i]
      simp only [intOf]
      omega
  · refine wp_cond_false (by rw [c1, decide_eq_false (by omega)]) ?_
    refine wp_exit ?_
    show Q (.exit 10) A1 W1
    have hr : e = 64 := by have := I.le; omega
    subst hr
    exact hexit A1 W1 ⟨sz1, I.k.trans K1, by omega, Nat.le_refl _, y12, by rw [hW1]; exact I.w, by rw [hW1]; exact I.bl⟩
/-- the loop -/
theorem loop6 {Q : Exit → Act → World → Prop} {N gm gw : Nat} {cur : Array Value} {V2 : World} {sH : S8} {bs : List UInt8} {A0 : Act} {W0 : World} (x9 : A0.eval (.tmp 9) = .slice (some ⟨gw, 0, none⟩) 64 64) (hgm : gm < gw) (hg : N + 1 + 1 < gw)
    (start : I6 N gm gw cur V2 sH bs A0 A0 W0 16) (hexit : ∀ A W, I6 N gm gw cur V2 sH bs A0 A W 64 → Q (.exit 10) A W) : Code.wp Tryd.prog (Code.loop body6) Q A0 W0 :=
  wp_loop (fun A W => ∃ e, I6 N gm gw cur V2 sH bs A0 A W e) mu6 ⟨16, start⟩ (fun A W ⟨e, h⟩ => round6 x9 hgm hg hexit A W e h)
end Go.Proofs.YtfiaefagnkmpoaaDoor
