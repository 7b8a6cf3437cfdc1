/- The words of a block: loops 4 and 5 of the reference's Sum, over a frame that is a letter. -/
import Derived.Test.YtfiaefagnkmpoaaDoorHRefL5
namespace Go.Proofs.YtfiaefagnkmpoaaDoor
open Go.RowKit
set_option linter.unusedVariables false
set_option maxRecDepth 100000
noncomputable def code20 : Code := ((Tryd.f12.body.bind (regionAt 20)).getD .skip)
theorem out20 (A : Act) (W : World) (r : Nat) (sz : A.tmps.size = 288) (x11 : A.eval (.tmp 11) = .int .i64 (r : Int)) :
    Code.wp Tryd.prog code20 (fun ex A' W' => ex = .normal ∧ ((Keep A A' [67, 68] ∧ A'.eval (.tmp 68) = .bool (decide ((r : Int) < 4))) ∧ W' = W)) A W := by
  conv => arg 2; whnf
  refine wp_region_list ?_
  refine wpList_yields rfl (.int .i64 (r : Int)) (yields_move (by simp [Region.wanted]) (.tmp 11) rfl _ x11) ?_
  refine wpList_yields rfl (.bool (decide ((r : Int) < 4))) (y_lss (by simp [Region.wanted]) (.tmp 67) (.const (.int .i64 4)) rfl (r : Int) 4 (ev_eq _ _ (by rw [sz]; decide)) rfl) ?_
  exact wpList_nil ⟨rfl, ⟨((Keep.refl A _).put 67 _ (by decide)).put 68 _ (by decide), ev_eq _ _ (by simp only [put_sz]; rw [sz]; decide)⟩, rfl⟩
noncomputable def code21 : Code := ((Tryd.f12.body.bind (regionAt 21)).getD .skip)
theorem out21 (A : Act) (W : World) (r : Nat) (hr : r < 64) (sz : A.tmps.size = 288) (x11 : A.eval (.tmp 11) = .int .i64 (r : Int)) :
    Code.wp Tryd.prog code21 (fun ex A' W' => ex = .normal ∧ ((Keep A A' [11, 69, 70] ∧ A'.eval (.tmp 11) = .int .i64 ((r + 1 : Nat) : Int)) ∧ W' = W)) A W := by
  conv => arg 2; whnf
  refine wp_region_list ?_
  refine wpList_yields rfl (.int .i64 (r : Int)) (yields_move (by simp [Region.wanted]) (.tmp 11) rfl _ x11) ?_
  refine wpList_yields rfl (.int .i64 ((r + 1 : Nat) : Int)) (y_addi (by simp [Region.wanted]) (.tmp 69) (.const (.int .i64 1)) rfl (r : Int) 1 _ (ev_eq _ _ (by rw [sz]; decide)) rfl (by rw [IntKind.wrap_i64]; omega)) ?_
  refine wpList_yields rfl (.int .i64 ((r + 1 : Nat) : Int)) (yh_assign (by simp [Region.wanted]) (.tmp 70) rfl _ (ev_eq _ _ (by simp only [put_sz]; rw [sz]; decide))) ?_
  exact wpList_nil ⟨rfl, ⟨(((Keep.refl A _).put 69 _ (by decide)).put 70 _ (by decide)).put 11 _ (by decide), ev_eq _ _ (by simp only [put_sz]; rw [sz]; decide)⟩, rfl⟩
noncomputable def code17 : Code := ((Tryd.f12.body.bind (regionAt 17)).getD .skip)
theorem out17 (A : Act) (W : World) (r : Nat) (sz : A.tmps.size = 288) (x10 : A.eval (.tmp 10) = .int .i64 (r : Int)) :
    Code.wp Tryd.prog code17 (fun ex A' W' => ex = .normal ∧ ((Keep A A' [63, 64] ∧ A'.eval (.tmp 64) = .bool (decide ((r : Int) < 16))) ∧ W' = W)) A W := by
  conv => arg 2; whnf
  refine wp_region_list ?_
  refine wpList_yields rfl (.int .i64 (r : Int)) (yields_move (by simp [Region.wanted]) (.tmp 10) rfl _ x10) ?_
  refine wpList_yields rfl (.bool (decide ((r : Int) < 16))) (y_lss (by simp [Region.wanted]) (.tmp 63) (.const (.int .i64 16)) rfl (r : Int) 16 (ev_eq _ _ (by rw [sz]; decide)) rfl) ?_
  exact wpList_nil ⟨rfl, ⟨((Keep.refl A _).put 63 _ (by decide)).put 64 _ (by decide), ev_eq _ _ (by simp only [put_sz]; rw [sz]; decide)⟩, rfl⟩
noncomputable def code18 : Code := ((Tryd.f12.body.bind (regionAt 18)).getD .skip)
theorem out18 (A : Act) (W : World) (r : Nat) (hr : r < 64) (sz : A.tmps.size = 288) (x10 : A.eval (.tmp 10) = .int .i64 (r : Int)) :
    Code.wp Tryd.prog code18 (fun ex A' W' => ex = .normal ∧ ((Keep A A' [10, 65, 66] ∧ A'.eval (.tmp 10) = .int .i64 ((r + 1 : Nat) : Int)) ∧ W' = W)) A W := by
  conv => arg 2; whnf
  refine wp_region_list ?_
  refine wpList_yields rfl (.int .i64 (r : Int)) (yields_move (by simp [Region.wanted]) (.tmp 10) rfl _ x10) ?_
  refine wpList_yields rfl (.int .i64 ((r + 1 : Nat) : Int)) (y_addi (by simp [Region.wanted]) (.tmp 65) (.const (.int .i64 1)) rfl (r : Int) 1 _ (ev_eq _ _ (by rw [sz]; decide)) rfl (by rw [IntKind.wrap_i64]; omega)) ?_
  refine wpList_yields rfl (.int .i64 ((r + 1 : Nat) : Int)) (yh_assign (by simp [Region.wanted]) (.tmp 66) rfl _ (ev_eq _ _ (by simp only [put_sz]; rw [sz]; decide))) ?_
  exact wpList_nil ⟨rfl, ⟨(((Keep.refl A _).put 65 _ (by decide)).put 66 _ (by decide)).put 10 _ (by decide), ev_eq _ _ (by simp only [put_sz]; rw [sz]; decide)⟩, rfl⟩
noncomputable def code19 : Code := ((Tryd.f12.body.bind (regionAt 19)).getD .skip)
theorem out19 (A : Act) (W : World) (sz : A.tmps.size = 288) :
    Code.wp Tryd.prog code19 (fun ex A' W' => ex = .normal ∧ ((Keep A A' [11] ∧ A'.eval (.tmp 11) = .int .i64 ((0 : Nat) : Int)) ∧ W' = W)) A W := by
  conv => arg 2; whnf
  refine wp_region_list ?_
  refine wpList_yields rfl (.int .i64 ((0 : Nat) : Int)) (yh_assign (by simp [Region.wanted]) (.const (.int .i64 0)) rfl _ rfl) ?_
  exact wpList_nil ⟨rfl, ⟨(Keep.refl A _).put 11 _ (by decide), ev_eq _ _ (by rw [sz]; decide)⟩, rfl⟩
abbrev L5 : List Nat := [11, 67, 68, 69, 70, 71, 72, 73, 74, 75, 76, 77, 78, 79, 80, 81, 82, 83, 84, 85, 86, 87, 88, 89]
abbrev L4 : List Nat := [10, 11, 63, 64, 65, 66, 67, 68, 69, 70, 71, 72, 73, 74, 75, 76, 77, 78, 79, 80, 81, 82, 83, 84, 85, 86, 87, 88, 89]
noncomputable def body5 : Code := ((Tryd.f12.body.bind (loopAt 22)).getD .skip)
noncomputable def body4 : Code := ((Tryd.f12.body.bind (loopAt 19)).getD .skip)
/-- what the inner loop keeps -/
structure I5 (N gm gw : Nat) (cur : Array Value) (V2 : World) (sH : S8) (bs : List UInt8) (i : Nat) (A0 A : Act) (W : World) (q : Nat) : Prop where
  sz : A.tmps.size = 288
  k : Keep A0 A L5
  le : q ≤ 4
  ix : A.eval (.tmp 11) = .int .i64 (q : Int)
  w : W.heap[gw]? = some (.cells (wvs (wordsZ bs (4 * i + q))) 53 (0, 0))
  bl : BL N gm cur V2 W sH
def mu5 (A : Act) (_ : World) : Nat := 4 - (intOf (A.eval (.tmp 11))).toNat
set_option maxHeartbeats 400000 in
theorem round5 {Q : Exit → Act → World → Prop} {N gm gw M cm at9 : Nat} {cur : Array Value} {V2 : World} {sH : S8} {bs : List UInt8} {A0 : Act} {i : Nat} (hi : i < 16) (x10 : A0.eval (.tmp 10) = .int .i64 (i : Int)) (x9 : A0.eval (.tmp 9) = .slice (some ⟨gw, 0, none⟩) 64 64) (x5 : A0.eval (.tmp 5) = .slice (some ⟨gm, 0, none⟩) M cm) (x8 : A0.eval (.tmp 8) = .int .i64 (at9 : Int)) (hgm : gm < gw) (hg : N + 1 + 1 < gw) (lbs : bs.length = 64) (hat : at9 + 64 ≤ M) (hM : M ≤ 140737488355200) (hmb : ∀ (W : World) (k : Nat) (h : k < bs.length), W.heap[gm]? = some (.cells cur 5 (0, 0)) → W.cell? ⟨gm, at9 + k, none⟩ = some (.int .u8 ((bs[k]'h).toNat : Int)))
    (hexit : ∀ A W, I5 N gm gw cur V2 sH bs i A0 A W 4 → Q (.exit 8) A W) (A : Act) (W : World) (q : Nat) (I : I5 N gm gw cur V2 sH bs i A0 A W q) :
    Code.wp Tryd.prog body5 (Exit.then (fun A' W' => (∃ q', I5 N gm gw cur V2 sH bs i A0 A' W' q') ∧ mu5 A' W' < mu5 A W) Q) A W := by
  conv => arg 2; whnf
  refine wp_seq ?_
  refine wp_seq ?_
  refine wp_split _ (out20 A W q I.sz I.ix) ?_
  rintro A1 W1 ⟨⟨k1, c1⟩, hW1⟩
  show Code.wp _ _ _ A1 W1
  have K1 : Keep A A1 L5 := k1.mono (by decide)
  have sz1 : A1.tmps.size = 288 := K1.sz.trans I.sz
  have y11 : A1.eval (.tmp 11) = .int .i64 (q : Int) := (k1.keep 11 (by decide)).trans I.ix
  by_cases hlt : q < 4
  · refine wp_cond_true (by rw [c1, decide_eq_true (by omega)]) ?_
    refine wp_skip ?_
    show Code.wp _ _ _ A1 W1
    refine wp_seq ?_
    refine wp_block ?_
    have y9 := (K1.keep 9 (by decide)).trans ((I.k.keep 9 (by decide)).trans x9)
    have y5 := (K1.keep 5 (by decide)).trans ((I.k.keep 5 (by decide)).trans x5)
    have y10 := (K1.keep 10 (by decide)).trans ((I.k.keep 10 (by decide)).trans x10)
    have y8 := (K1.keep 8 (by decide)).trans ((I.k.keep 8 (by decide)).trans x8)
    have hw : W1.heap[gw]? = some (.cells (wvs (wordsZ bs (4 * i + q))) 53 (0, 0)) := by rw [hW1]; exact I.w
    have hbl : BL N gm cur V2 W1 sH := by rw [hW1]; exact I.bl
    have k64 : 4 * i + q < bs.length := by omega
    have c2 := hmb W1 (4 * i + q) k64 hbl.m
    have c3 : W1.cell? ⟨gw, i, none⟩ = some (vw (wordAt bs (4 * i + q) i)) := by
      rw [cell_of_row _ _ _ _ _ _ hw, wvs, List.getElem?_toArray, List.getElem?_map, wordsZ_get bs (4 * i + q) i (by omega)]
      rfl
    have f1 := frozen_of_row _ _ i _ _ hw
    have Hst := wordsZ_step bs (4 * i + q) k64 (by omega)
    rw [show (4 * i + q) / 4 = i by omega] at Hst
    refine wp_split _ (out22 A1 W1 gw gm M cm i q at9 (at9 + (4 * i + q)) _ _ hgm hi hlt (by omega) (by omega) hM sz1 y9 y5 y10 y8 y11 c3 f1 c2) ?_
    rintro A2 W2 ⟨k2, hW2⟩
    show Code.wp _ _ _ A2 W2
    have K2 : Keep A1 A2 L5 := k2.mono (by decide)
    refine wp_split _ (out21 A2 W2 q (by omega) (K2.sz.trans sz1) ((k2.keep 11 (by decide)).trans y11)) ?_
    rintro A3 W3 ⟨⟨k3, c4⟩, hW3⟩
    show (∃ q', I5 N gm gw cur V2 sH bs i A0 A3 W3 q') ∧ mu5 A3 W3 < mu5 A W
    have K3 : Keep A2 A3 L5 := k3.mono (by decide)
    refine ⟨⟨q + 1, ⟨K3.sz.trans (K2.sz.trans sz1), I.k.trans (K1.trans (K2.trans K3)), by omega, c4, ?_, ?_⟩⟩, ?_⟩
    · rw [hW3, hW2]
      rw [heap_setCell_same _ _ _ _ _ _ (show W1.drew.heap[gw]? = _ from hw), wvs_set, Hst]
      rfl
    · rw [hW3, hW2]
      refine ⟨(heap_setCell_other _ _ _ _ (show N + 1 ≠ gw by omega)).trans hbl.h, (heap_setCell_other _ _ _ _ (show N + 1 + 1 ≠ gw by omega)).trans hbl.k, (heap_setCell_other _ _ _ _ (show gm ≠ gw by omega)).trans hbl.m, hbl.bel.drew.setCell (p := ⟨gw, i, none⟩) (show N + 1 ≤ gw by omega) _⟩
    · unfold mu5
      rw [c4, I.ix]
      simp only [intOf]
      omega
  · refine wp_cond_false (by rw [c1, decide_eq_false (by omega)]) ?_
    refine wp_exit ?_
    show Q (.exit 8) A1 W1
    have hr : q = 4 := by have := I.le; omega
    subst hr
    exact hexit A1 W1 ⟨sz1, I.k.trans K1, Nat.le_refl _, y11, by rw [hW1]; exact I.w, by rw [hW1]; exact I.bl⟩
theorem loop5 {Q : Exit → Act → World → Prop} {N gm gw M cm at9 : Nat} {cur : Array Value} {V2 : World} {sH : S8} {bs : List UInt8} {A0 : Act} {W0 : World} {i : Nat} (hi : i < 16) (x10 : A0.eval (.tmp 10) = .int .i64 (i : Int)) (x9 : A0.eval (.tmp 9) = .slice (some ⟨gw, 0, none⟩) 64 64) (x5 : A0.eval (.tmp 5) = .slice (some ⟨gm, 0, none⟩) M cm) (x8 : A0.eval (.tmp 8) = .int .i64 (at9 : Int)) (hgm : gm < gw) (hg : N + 1 + 1 < gw) (lbs : bs.length = 64) (hat : at9 + 64 ≤ M) (hM : M ≤ 140737488355200) (hmb : ∀ (W : World) (k : Nat) (h : k < bs.length), W.heap[gm]? = some (.cells cur 5 (0, 0)) → W.cell? ⟨gm, at9 + k, none⟩ = some (.int .u8 ((bs[k]'h).toNat : Int)))
    (start : I5 N gm gw cur V2 sH bs i A0 A0 W0 0) (hexit : ∀ A W, I5 N gm gw cur V2 sH bs i A0 A W 4 → Q (.exit 8) A W) : Code.wp Tryd.prog (Code.loop body5) Q A0 W0 :=
  wp_loop (fun A W => ∃ q, I5 N gm gw cur V2 sH bs i A0 A W q) mu5 ⟨0, start⟩ (fun A W ⟨q, h⟩ => round5 hi x10 x9 x5 x8 hgm hg lbs hat hM hmb hexit A W q h)
end Go.Proofs.YtfiaefagnkmpoaaDoor
