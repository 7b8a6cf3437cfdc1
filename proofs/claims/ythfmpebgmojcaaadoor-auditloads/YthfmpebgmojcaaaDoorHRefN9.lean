/- YthfmpebgmojcaaaDoorHRefM5 + YthfmpebgmojcaaaDoorHRefM4 + YthfmpebgmojcaaaDoorHRefM3 + YthfmpebgmojcaaaDoorHRefM9 + YthfmpebgmojcaaaDoorHRefN9 -/
import Derived.Test.YthfmpebgmojcaaaDoorHRefL5
import Derived.Test.YthfmpebgmojcaaaDoorHRefM8
/- The words of a block: loops 4 and 5 of the reference's Sum, over a frame that is a letter. -/
namespace Go.Proofs.YthfmpebgmojcaaaDoor
open Go.RowKit
set_option linter.unusedVariables false
set_option maxRecDepth 100000
noncomputable def code20 : Code := ((Tryd.f104.body.bind (regionAt 20)).getD .skip)
theorem out20 (A : Act) (W : World) (r : Nat) (sz : A.tmps.size = 288) (x11 : A.eval (.tmp 11) = .int .i64 (r : Int)) :
    Code.wp Tryd.prog code20 (fun ex A' W' => ex = .normal ∧ ((Keep A A' [67, 68] ∧ A'.eval (.tmp 68) = .bool (decide ((r : Int) < 4))) ∧ W' = W)) A W := by
  conv => arg 2; whnf
  refine wp_region_list ?_
  refine wpList_yields rfl (.int .i64 (r : Int)) (yields_move (by simp [Region.wanted]) (.tmp 11) rfl _ x11) ?_
  refine wpList_yields rfl (.bool (decide ((r : Int) < 4))) (y_lss (by simp [Region.wanted]) (.tmp 67) (.const (.int .i64 4)) rfl (r : Int) 4 (ev_eq _ _ (by rw [sz]; decide)) rfl) ?_
  exact wpList_nil ⟨rfl, ⟨((Keep.refl A _).put 67 _ (by decide)).put 68 _ (by decide), ev_eq _ _ (by simp only [put_sz]; rw [sz]; decide)⟩, rfl⟩
noncomputable def code21 : Code := ((Tryd.f104.body.bind (regionAt 21)).getD .skip)
theorem out21 (A : Act) (W : World) (r : Nat) (hr : r < 64) (sz : A.tmps.size = 288) (x11 : A.eval (.tmp 11) = .int .i64 (r : Int)) :
    Code.wp Tryd.prog code21 (fun ex A' W' => ex = .normal ∧ ((Keep A A' [11, 69, 70] ∧ A'.eval (.tmp 11) = .int .i64 ((r + 1 : Nat) : Int)) ∧ W' = W)) A W := by
  conv => arg 2; whnf
  refine wp_region_list ?_
  refine wpList_yields rfl (.int .i64 (r : Int)) (yields_move (by simp [Region.wanted]) (.tmp 11) rfl _ x11) ?_
  refine wpList_yields rfl (.int .i64 ((r + 1 : Nat) : Int)) (y_addi (by simp [Region.wanted]) (.tmp 69) (.const (.int .i64 1)) rfl (r : Int) 1 _ (ev_eq _ _ (by rw [sz]; decide)) rfl (by rw [IntKind.wrap_i64]; omega)) ?_
  refine wpList_yields rfl (.int .i64 ((r + 1 : Nat) : Int)) (yh_assign (by simp [Region.wanted]) (.tmp 70) rfl _ (ev_eq _ _ (by simp only [put_sz]; rw [sz]; decide))) ?_
  exact wpList_nil ⟨rfl, ⟨(((Keep.refl A _).put 69 _ (by decide)).put 70 _ (by decide)).put 11 _ (by decide), ev_eq _ _ (by simp only [put_sz]; rw [sz]; decide)⟩, rfl⟩
noncomputable def code17 : Code := ((Tryd.f104.body.bind (regionAt 17)).getD .skip)
theorem out17 (A : Act) (W : World) (r : Nat) (sz : A.tmps.size = 288) (x10 : A.eval (.tmp 10) = .int .i64 (r : Int)) :
    Code.wp Tryd.prog code17 (fun ex A' W' => ex = .normal ∧ ((Keep A A' [63, 64] ∧ A'.eval (.tmp 64) = .bool (decide ((r : Int) < 16))) ∧ W' = W)) A W := by
  conv => arg 2; whnf
  refine wp_region_list ?_
  refine wpList_yields rfl (.int .i64 (r : Int)) (yields_move (by simp [Region.wanted]) (.tmp 10) rfl _ x10) ?_
  refine wpList_yields rfl (.bool (decide ((r : Int) < 16))) (y_lss (by simp [Region.wanted]) (.tmp 63) (.const (.int .i64 16)) rfl (r : Int) 16 (ev_eq _ _ (by rw [sz]; decide)) rfl) ?_
  exact wpList_nil ⟨rfl, ⟨((Keep.refl A _).put 63 _ (by decide)).put 64 _ (by decide), ev_eq _ _ (by simp only [put_sz]; rw [sz]; decide)⟩, rfl⟩
noncomputable def code18 : Code := ((Tryd.f104.body.bind (regionAt 18)).getD .skip)
theorem out18 (A : Act) (W : World) (r : Nat) (hr : r < 64) (sz : A.tmps.size = 288) (x10 : A.eval (.tmp 10) = .int .i64 (r : Int)) :
    Code.wp Tryd.prog code18 (fun ex A' W' => ex = .normal ∧ ((Keep A A' [10, 65, 66] ∧ A'.eval (.tmp 10) = .int .i64 ((r + 1 : Nat) : Int)) ∧ W' = W)) A W := by
  conv => arg 2; whnf
  refine wp_region_list ?_
  refine wpList_yields rfl (.int .i64 (r : Int)) (yields_move (by simp [Region.wanted]) (.tmp 10) rfl _ x10) ?_
  refine wpList_yields rfl (.int .i64 ((r + 1 : Nat) : Int)) (y_addi (by simp [Region.wanted]) (.tmp 65) (.const (.int .i64 1)) rfl (r : Int) 1 _ (ev_eq _ _ (by rw [sz]; decide)) rfl (by rw [IntKind.wrap_i64]; omega)) ?_
  refine wpList_yields rfl (.int .i64 ((r + 1 : Nat) : Int)) (yh_assign (by simp [Region.wanted]) (.tmp 66) rfl _ (ev_eq _ _ (by simp only [put_sz]; rw [sz]; decide))) ?_
  exact wpList_nil ⟨rfl, ⟨(((Keep.refl A _).put 65 _ (by decide)).put 66 _ (by decide)).put 10 _ (by decide), ev_eq _ _ (by simp only [put_sz]; rw [sz]; decide)⟩, rfl⟩
noncomputable def code19 : Code := ((Tryd.f104.body.bind (regionAt 19)).getD .skip)
theorem out19 (A : Act) (W : World) (sz : A.tmps.size = 288) :
    Code.wp Tryd.prog code19 (fun ex A' W' => ex = .normal ∧ ((Keep A A' [11] ∧ A'.eval (.tmp 11) = .int .i64 ((0 : Nat) : Int)) ∧ W' = W)) A W := by
  conv => arg 2; whnf
  refine wp_region_list ?_
  refine wpList_yields rfl (.int .i64 ((0 : Nat) : Int)) (yh_assign (by simp [Region.wanted]) (.const (.int .i64 0)) rfl _ rfl) ?_
  exact wpList_nil ⟨rfl, ⟨(Keep.refl A _).put 11 _ (by decide), ev_eq _ _ (by rw [sz]; decide)⟩, rfl⟩
abbrev L5 : List Nat := [11, 67, 68, 69, 70, 71, 72, 73, 74, 75, 76, 77, 78, 79, 80, 81, 82, 83, 84, 85, 86, 87, 88, 89]
abbrev L4 : List Nat := [10, 11, 63, 64, 65, 66, 67, 68, 69, 70, 71, 72, 73, 74, 75, 76, 77, 78, 79, 80, 81, 82, 83, 84, 85, 86, 87, 88, 89]
noncomputable def body5 : Code := ((Tryd.f104.body.bind (loopAt 22)).getD .skip)
noncomputable def body4 : Code := ((Tryd.f104.body.bind (loopAt 19)).getD .skip)
structure I5 (N gm gw : Nat) (cur : Array Value) (V2 : World) (sH : S8) (bs : List UInt8) (i : Nat) (A0 A : Act) (W : World) (q : Nat) : Prop where
  sz : A.tmps.size = 288
  k : Keep A0 A L5
  le : q ≤ 4
  ix : A.eval (.tmp 11) = .int .i64 (q : Int)
  w : W.heap[gw]? = some (.cells (wvs (wordsZ bs (4 * i + q))) 129 (0, 0))
  bl : BL N gm cur V2 W sH
def mu5 (A : Act) (_ : World) : Nat := 4 - (intOf (A.eval (.tmp 11))).toNat
set_option maxHeartbeats 400000 in
theorem round5 {Q : Exit → Act → World → Prop} {N gm gw M cm at9 : Nat} {cur : Array Value} {V2 : World} {sH : S8} {bs : List UInt8} {A0 : Act} {i : Nat} (hi : i < 16) (x10 : A0.eval (.tmp 10) = .int .i64 (i : Int)) (x9 : A0.eval (.tmp 9) = .slice (some ⟨gw, 0, none⟩) 64 64) (x5 : A0.eval (.tmp 5) = .slice (some ⟨gm, 0, none⟩) M cm) (x8 : A0.eval (.tmp 8) = .int .i64 (at9 : Int)) (hgm : gm < gw) (hg : N + 1 + 1 < gw) (lbs : bs.length = 64) (hat : at9 + 64 ≤ M) (hM : M ≤ 140737488355200) (hmb : ∀ (W : World) (k : Nat) (h : k < bs.length), W.heap[gm]? = some (.cells cur 5 (0, 0)) → W.cell? ⟨gm, at9 + k, none⟩ = some (.int .u8 ((bs[k]'h).toNat : Int)))
    (hexit : ∀ A W, I5 N gm gw cur V2 sH bs i A0 A W 4 → Q (.exit 8) A W) (A : Act) (W : World) (q : Nat) (I : I5 N gm gw cur V2 sH bs i A0 A W q) :
    Code.wp Tryd.prog body5 (Exit.then (fun A' W' => (∃ q', I5 N gm gw cur V2 sH bs i A0 A' W' q') ∧ mu5 A' W' < mu5 A W) Q) A W := by
  conv => arg 2; whnf
  refine wp_seq ?_
  refine wp_seq ?_
  refine wp_split _ (out20 A W q I.sz I.ix) ?_
  rintro A1 W1 ⟨⟨k1, c1⟩, hW1⟩
  show Code.wp _ _ _ A1 W1
  have K1 : Keep A A1 L5 := k1.mono (by decide)
  have sz1 : A1.tmps.size = 288 := K1.sz.trans I.sz
  have y11 : A1.eval (.tmp 11) = .int .i64 (q : Int) := (k1.keep 11 (by decide)).trans I.ix
  by_cases hlt : q < 4
  · refine wp_cond_true (by rw [c1, decide_eq_true (by omega)]) ?_
    refine wp_skip ?_
    show Code.wp _ _ _ A1 W1
    refine wp_seq ?_
    refine wp_block ?_
    have y9 := (K1.keep 9 (by decide)).trans ((I.k.keep 9 (by decide)).trans x9)
    have y5 := (K1.keep 5 (by decide)).trans ((I.k.keep 5 (by decide)).trans x5)
    have y10 := (K1.keep 10 (by decide)).trans ((I.k.keep 10 (by decide)).trans x10)
    have y8 := (K1.keep 8 (by decide)).trans ((I.k.keep 8 (by decide)).trans x8)
    have hw : W1.heap[gw]? = some (.cells (wvs (wordsZ bs (4 * i + q))) 129 (0, 0)) := by rw [hW1]; exact I.w
    have hbl : BL N gm cur V2 W1 sH := by rw [hW1]; exact I.bl
    have k64 : 4 * i + q < bs.length := by omega
    have c2 := hmb W1 (4 * i + q) k64 hbl.m
    have c3 : W1.cell? ⟨gw, i, none⟩ = some (vw (wordAt bs (4 * i + q) i)) := by
      rw [cell_of_row _ _ _ _ _ _ hw, wvs, List.getElem?_toArray, List.getElem?_map, wordsZ_get bs (4 * i + q) i (by omega)]
      rfl
    have f1 := frozen_of_row _ _ i _ _ hw
    have Hst := wordsZ_step bs (4 * i + q) k64 (by omega)
    rw [show (4 * i + q) / 4 = i by omega] at Hst
    refine wp_split _ (out22 A1 W1 gw gm M cm i q at9 (at9 + (4 * i + q)) _ _ hgm hi hlt (by omega) (by omega) hM sz1 y9 y5 y10 y8 y11 c3 f1 c2) ?_
    rintro A2 W2 ⟨k2, hW2⟩
    show Code.wp _ _ _ A2 W2
    have K2 : Keep A1 A2 L5 := k2.mono (by decide)
    refine wp_split _ (out21 A2 W2 q (by omega) (K2.sz.trans sz1) ((k2.keep 11 (by decide)).trans y11)) ?_
    rintro A3 W3 ⟨⟨k3, c4⟩, hW3⟩
    show (∃ q', I5 N gm gw cur V2 sH bs i A0 A3 W3 q') ∧ mu5 A3 W3 < mu5 A W
    have K3 : Keep A2 A3 L5 := k3.mono (by decide)
    refine ⟨⟨q + 1, ⟨K3.sz.trans (K2.sz.trans sz1), I.k.trans (K1.trans (K2.trans K3)), by omega, c4, ?_, ?_⟩⟩, ?_⟩
    · rw [hW3, hW2]
      rw [heap_setCell_same _ _ _ _ _ _ (show W1.drew.heap[gw]? = _ from hw), wvs_set, Hst]
      rfl
    · rw [hW3, hW2]
      refine ⟨(heap_setCell_other _ _ _ _ (show N + 1 ≠ gw by omega)).trans hbl.h, (heap_setCell_other _ _ _ _ (show N + 1 + 1 ≠ gw by omega)).trans hbl.k, (heap_setCell_other _ _ _ _ (show gm ≠ gw by omega)).trans hbl.m, hbl.bel.drew.setCell (p := ⟨gw, i, none⟩) (show N + 1 ≤ gw by omega) _⟩
    · unfold mu5
      rw [c4, I.ix]
      simp only [intOf]
      omega
  · refine wp_cond_false (by rw [c1, decide_eq_false (by omega)]) ?_
    refine wp_exit ?_
    show Q (.exit 8) A1 W1
    have hr : q = 4 := by have := I.le; omega
    subst hr
    exact hexit A1 W1 ⟨sz1, I.k.trans K1, Nat.le_refl _, y11, by rw [hW1]; exact I.w, by rw [hW1]; exact I.bl⟩
theorem loop5 {Q : Exit → Act → World → Prop} {N gm gw M cm at9 : Nat} {cur : Array Value} {V2 : World} {sH : S8} {bs : List UInt8} {A0 : Act} {W0 : World} {i : Nat} (hi : i < 16) (x10 : A0.eval (.tmp 10) = .int .i64 (i : Int)) (x9 : A0.eval (.tmp 9) = .slice (some ⟨gw, 0, none⟩) 64 64) (x5 : A0.eval (.tmp 5) = .slice (some ⟨gm, 0, none⟩) M cm) (x8 : A0.eval (.tmp 8) = .int .i64 (at9 : Int)) (hgm : gm < gw) (hg : N + 1 + 1 < gw) (lbs : bs.length = 64) (hat : at9 + 64 ≤ M) (hM : M ≤ 140737488355200) (hmb : ∀ (W : World) (k : Nat) (h : k < bs.length), W.heap[gm]? = some (.cells cur 5 (0, 0)) → W.cell? ⟨gm, at9 + k, none⟩ = some (.int .u8 ((bs[k]'h).toNat : Int)))
    (start : I5 N gm gw cur V2 sH bs i A0 A0 W0 0) (hexit : ∀ A W, I5 N gm gw cur V2 sH bs i A0 A W 4 → Q (.exit 8) A W) : Code.wp Tryd.prog (Code.loop body5) Q A0 W0 :=
  wp_loop (fun A W => ∃ q, I5 N gm gw cur V2 sH bs i A0 A W q) mu5 ⟨0, start⟩ (fun A W ⟨q, h⟩ => round5 hi x10 x9 x5 x8 hgm hg lbs hat hM hmb hexit A W q h)
end Go.Proofs.YthfmpebgmojcaaaDoor
/- The words of a block: loop 4 of the reference's Sum, over a frame that is a letter. -/
namespace Go.Proofs.YthfmpebgmojcaaaDoor
open Go.RowKit
set_option linter.unusedVariables false
set_option maxRecDepth 100000
structure I4 (N gm gw : Nat) (cur : Array Value) (V2 : World) (sH : S8) (bs : List UInt8) (A0 A : Act) (W : World) (i : Nat) : Prop where
  sz : A.tmps.size = 288
  k : Keep A0 A L4
  le : i ≤ 16
  ix : A.eval (.tmp 10) = .int .i64 (i : Int)
  w : W.heap[gw]? = some (.cells (wvs (wordsZ bs (4 * i))) 129 (0, 0))
  bl : BL N gm cur V2 W sH
def mu4 (A : Act) (_ : World) : Nat := 16 - (intOf (A.eval (.tmp 10))).toNat
set_option maxHeartbeats 400000 in
theorem round4 {Q : Exit → Act → World → Prop} {N gm gw M cm at9 : Nat} {cur : Array Value} {V2 : World} {sH : S8} {bs : List UInt8} {A0 : Act} (x9 : A0.eval (.tmp 9) = .slice (some ⟨gw, 0, none⟩) 64 64) (x5 : A0.eval (.tmp 5) = .slice (some ⟨gm, 0, none⟩) M cm) (x8 : A0.eval (.tmp 8) = .int .i64 (at9 : Int)) (hgm : gm < gw) (hg : N + 1 + 1 < gw) (lbs : bs.length = 64) (hat : at9 + 64 ≤ M) (hM : M ≤ 140737488355200) (hmb : ∀ (W : World) (k : Nat) (h : k < bs.length), W.heap[gm]? = some (.cells cur 5 (0, 0)) → W.cell? ⟨gm, at9 + k, none⟩ = some (.int .u8 ((bs[k]'h).toNat : Int)))
    (hexit : ∀ A W, I4 N gm gw cur V2 sH bs A0 A W 16 → Q (.exit 6) A W) (A : Act) (W : World) (i : Nat) (I : I4 N gm gw cur V2 sH bs A0 A W i) :
    Code.wp Tryd.prog body4 (Exit.then (fun A' W' => (∃ i', I4 N gm gw cur V2 sH bs A0 A' W' i') ∧ mu4 A' W' < mu4 A W) Q) A W := by
  conv => arg 2; whnf
  refine wp_seq ?_
  refine wp_seq ?_
  refine wp_split _ (out17 A W i I.sz I.ix) ?_
  rintro A1 W1 ⟨⟨k1, c1⟩, hW1⟩
  show Code.wp _ _ _ A1 W1
  have K1 : Keep A A1 L4 := k1.mono (by decide)
  have sz1 : A1.tmps.size = 288 := K1.sz.trans I.sz
  have y10 : A1.eval (.tmp 10) = .int .i64 (i : Int) := (k1.keep 10 (by decide)).trans I.ix
  by_cases hlt : i < 16
  · refine wp_cond_true (by rw [c1, decide_eq_true (by omega)]) ?_
    refine wp_skip ?_
    show Code.wp _ _ _ A1 W1
    refine wp_seq ?_
    refine wp_block ?_
    refine wp_seq ?_
    refine wp_split _ (out19 A1 W1 sz1) ?_
    rintro A2 W2 ⟨⟨k2, c2⟩, hW2⟩
    show Code.wp _ _ _ A2 W2
    have K2 : Keep A1 A2 L4 := k2.mono (by decide)
    have y9 := (K2.keep 9 (by decide)).trans ((K1.keep 9 (by decide)).trans ((I.k.keep 9 (by decide)).trans x9))
    have y5 := (K2.keep 5 (by decide)).trans ((K1.keep 5 (by decide)).trans ((I.k.keep 5 (by decide)).trans x5))
    have y8 := (K2.keep 8 (by decide)).trans ((K1.keep 8 (by decide)).trans ((I.k.keep 8 (by decide)).trans x8))
    have z10 := (k2.keep 10 (by decide)).trans y10
    refine wp_block ?_
    refine loop5 hlt z10 y9 y5 y8 hgm hg lbs hat hM hmb ⟨K2.sz.trans sz1, Keep.refl _ _, Nat.zero_le _, c2, by rw [hW2, hW1]; exact I.w, by rw [hW2, hW1]; exact I.bl⟩ ?_
    intro A3 W3 I3
    show Code.wp _ _ _ A3 W3
    have K3 : Keep A2 A3 L4 := I3.k.mono (by decide)
    refine wp_split _ (out18 A3 W3 i (by omega) I3.sz ((I3.k.keep 10 (by decide)).trans z10)) ?_
    rintro A4 W4 ⟨⟨k4, c4⟩, hW4⟩
    show (∃ i', I4 N gm gw cur V2 sH bs A0 A4 W4 i') ∧ mu4 A4 W4 < mu4 A W
    have K4 : Keep A3 A4 L4 := k4.mono (by decide)
    refine ⟨⟨i + 1, ⟨K4.sz.trans I3.sz, I.k.trans (K1.trans (K2.trans (K3.trans K4))), by omega, c4, by rw [hW4]; exact I3.w, by rw [hW4]; exact I3.bl⟩⟩, ?_⟩
    unfold mu4
    rw [c4, I.ix]
    simp only [intOf]
    omega
  · refine wp_cond_false (by rw [c1, decide_eq_false (by omega)]) ?_
    refine wp_exit ?_
    show Q (.exit 6) A1 W1
    have hr : i = 16 := by have := I.le; omega
    subst hr
    exact hexit A1 W1 ⟨sz1, I.k.trans K1, Nat.le_refl _, y10, by rw [hW1]; exact I.w, by rw [hW1]; exact I.bl⟩
theorem loop4 {Q : Exit → Act → World → Prop} {N gm gw M cm at9 : Nat} {cur : Array Value} {V2 : World} {sH : S8} {bs : List UInt8} {A0 : Act} {W0 : World} (x9 : A0.eval (.tmp 9) = .slice (some ⟨gw, 0, none⟩) 64 64) (x5 : A0.eval (.tmp 5) = .slice (some ⟨gm, 0, none⟩) M cm) (x8 : A0.eval (.tmp 8) = .int .i64 (at9 : Int)) (hgm : gm < gw) (hg : N + 1 + 1 < gw) (lbs : bs.length = 64) (hat : at9 + 64 ≤ M) (hM : M ≤ 140737488355200) (hmb : ∀ (W : World) (k : Nat) (h : k < bs.length), W.heap[gm]? = some (.cells cur 5 (0, 0)) → W.cell? ⟨gm, at9 + k, none⟩ = some (.int .u8 ((bs[k]'h).toNat : Int)))
    (start : I4 N gm gw cur V2 sH bs A0 A0 W0 0) (hexit : ∀ A W, I4 N gm gw cur V2 sH bs A0 A W 16 → Q (.exit 6) A W) : Code.wp Tryd.prog (Code.loop body4) Q A0 W0 :=
  wp_loop (fun A W => ∃ i, I4 N gm gw cur V2 sH bs A0 A W i) mu4 ⟨0, start⟩ (fun A W ⟨i, h⟩ => round4 x9 x5 x8 hgm hg lbs hat hM hmb hexit A W i h)
end Go.Proofs.YthfmpebgmojcaaaDoor
/- The blocks: loop 3 of the reference's Sum, over a frame that is a letter. -/
namespace Go.Proofs.YthfmpebgmojcaaaDoor
open Go.RowKit
set_option linter.unusedVariables false
set_option maxRecDepth 100000
theorem y_lenS {ops : Array Oper} {S : World → Prop} {op : Oper} {a : Act} (hw : Region.wanted op (yielded ops a.tmps) = true) (t : Nat) (ho : op.op = .call { callee := .builtin .len, args := #[.tmp t], argTypes := #[40] }) (ht : op.type = 3) (ad : Option Addr) (n c : Nat) (hx : a.eval (.tmp t) = .slice ad n c) : YieldsIf Tryd.prog ops S op (.int .i64 (n : Int)) a := by
  refine .inl ⟨hw, fun w _ => ?_⟩
  have hx' : a.tmps[t]?.getD undef = .slice ad n c := by simpa [Act.eval] using hx
  unfold execOp
  simp only [ho, ht]
  simp [go_sem, hx']
theorem wpList_make64 {ops : Array Oper} {rest : List Oper} {o : Oper} {a : Act} {w : World} {Q : Exit → Act → World → Prop} (hg : o.guard = none) (ho : o.op = .makeSlice 197 (.const (.int .i64 64)) (.const (.int .i64 64)))
    (h : wpList Tryd.prog ops Q rest (a.put o.dst (.slice (some ⟨w.heap.size, 0, none⟩) 64 64)) (w.alloc (.cells (wvs (List.replicate 64 0)) 129))) : wpList Tryd.prog ops Q (o :: rest) a w := by
  obtain ⟨i0, hi, hz0, hz1, hz2⟩ := info_parts Tryd.info129
  refine wpList_plain hg fun K hK => ?_
  unfold Oper.wp execOp
  have hm := run_make (P := Tryd.prog) w 197 129 i0 (.int .u32 0) Tryd.underlying197 hi hz0 .i64 .i64 64 64 (by omega) (by omega) (by rw [hz2]; omega) (by omega)
  rw [show (64 : Int).toNat = 64 from rfl, hz1, Nat.mul_one, made_words] at hm
  simp only [ho, Act.eval, Sem.run_bind, hm, Result.andThen_ok, Sem.run_pure, go_sem]
  exact hK _ _ h
noncomputable def code13 : Code := ((Tryd.f104.body.bind (regionAt 13)).getD .skip)
theorem out13 (A : Act) (W : World) (r gm M cm : Nat) (sz : A.tmps.size = 288) (x8 : A.eval (.tmp 8) = .int .i64 (r : Int)) (x5 : A.eval (.tmp 5) = .slice (some ⟨gm, 0, none⟩) M cm) :
    Code.wp Tryd.prog code13 (fun ex A' W' => ex = .normal ∧ ((Keep A A' [56, 57, 58, 59] ∧ A'.eval (.tmp 59) = .bool (decide ((r : Int) < (M : Int)))) ∧ W' = W)) A W := by
  conv => arg 2; whnf
  refine wp_region_list ?_
  refine wpList_yields rfl (.int .i64 (r : Int)) (yields_move (by simp [Region.wanted]) (.tmp 8) rfl _ x8) ?_
  refine wpList_yields rfl (.slice (some ⟨gm, 0, none⟩) M cm) (yields_move (by simp [Region.wanted]) (.tmp 5) rfl _ (evn x5)) ?_
  refine wpList_yields rfl (.int .i64 (M : Int)) (y_lenS (by simp [Region.wanted]) 57 rfl rfl _ _ _ (ev_eq _ _ (by simp only [put_sz]; rw [sz]; decide))) ?_
  refine wpList_yields rfl (.bool (decide ((r : Int) < (M : Int)))) (y_lss (by simp [Region.wanted]) (.tmp 56) (.tmp 58) rfl (r : Int) (M : Int) (evn (evn (ev_eq _ _ (by rw [sz]; decide)))) (ev_eq _ _ (by simp only [put_sz]; rw [sz]; decide))) ?_
  exact wpList_nil ⟨rfl, ⟨((((Keep.refl A _).put 56 _ (by decide)).put 57 _ (by decide)).put 58 _ (by decide)).put 59 _ (by decide), ev_eq _ _ (by simp only [put_sz]; rw [sz]; decide)⟩, rfl⟩
noncomputable def code14 : Code := ((Tryd.f104.body.bind (regionAt 14)).getD .skip)
theorem out14 (A : Act) (W : World) (r : Nat) (hr : r ≤ 140737488355200) (sz : A.tmps.size = 288) (x8 : A.eval (.tmp 8) = .int .i64 (r : Int)) :
    Code.wp Tryd.prog code14 (fun ex A' W' => ex = .normal ∧ ((Keep A A' [8, 60, 61] ∧ A'.eval (.tmp 8) = .int .i64 ((r + 64 : Nat) : Int)) ∧ W' = W)) A W := by
  conv => arg 2; whnf
  refine wp_region_list ?_
  refine wpList_yields rfl (.int .i64 (r : Int)) (yields_move (by simp [Region.wanted]) (.tmp 8) rfl _ x8) ?_
  refine wpList_yields rfl (.int .i64 ((r + 64 : Nat) : Int)) (y_addi (by simp [Region.wanted]) (.tmp 60) (.const (.int .i64 64)) rfl (r : Int) 64 _ (ev_eq _ _ (by rw [sz]; decide)) rfl (by rw [IntKind.wrap_i64]; omega)) ?_
  refine wpList_yields rfl (.int .i64 ((r + 64 : Nat) : Int)) (yh_assign (by simp [Region.wanted]) (.tmp 61) rfl _ (ev_eq _ _ (by simp only [put_sz]; rw [sz]; decide))) ?_
  exact wpList_nil ⟨rfl, ⟨(((Keep.refl A _).put 60 _ (by decide)).put 61 _ (by decide)).put 8 _ (by decide), ev_eq _ _ (by simp only [put_sz]; rw [sz]; decide)⟩, rfl⟩
noncomputable def code15 : Code := ((Tryd.f104.body.bind (regionAt 15)).getD .skip)
theorem out15 (A : Act) (W : World) (sz : A.tmps.size = 288) :
    Code.wp Tryd.prog code15 (fun ex A' W' => ex = .normal ∧ ((Keep A A' [9, 62] ∧ A'.eval (.tmp 9) = .slice (some ⟨W.heap.size, 0, none⟩) 64 64) ∧ W' = W.alloc (.cells (wvs (List.replicate 64 0)) 129))) A W := by
  conv => arg 2; whnf
  refine wp_region_list ?_
  refine wpList_make64 rfl rfl ?_
  refine wpList_yields rfl (.slice (some ⟨W.heap.size, 0, none⟩) 64 64) (yh_assign (by simp [Region.wanted]) (.tmp 62) rfl _ (ev_eq _ _ (by rw [sz]; decide))) ?_
  exact wpList_nil ⟨rfl, ⟨((Keep.refl A _).put 62 _ (by decide)).put 9 _ (by decide), ev_eq _ _ (by simp only [put_sz]; rw [sz]; decide)⟩, rfl⟩
noncomputable def code29 : Code := ((Tryd.f104.body.bind (regionAt 29)).getD .skip)
theorem out29 (A : Act) (W : World) (N : Nat) (sH : S8) (sz : A.tmps.size = 288) (x15 : A.eval (.tmp 15) = .slice none 0 0) (x3 : A.eval (.tmp 3) = .slice (some ⟨N + 1, 0, none⟩) 8 8) (hh : W.heap[N + 1]? = some (.cells sH.vals 129 (0, 0))) :
    Code.wp Tryd.prog code29 (fun ex A' W' => ex = .normal ∧ (Keep A A' [15, 136, 137, 138] ∧ ∃ gv cv, A'.eval (.tmp 15) = .slice (some ⟨gv, 0, none⟩) 8 cv ∧ W.heap.size ≤ gv ∧ VW W' gv sH ∧ Below W.heap.size W W')) A W := by
  have hc : ∀ q (h : q < sH.toL.length), W.cell? ((⟨N + 1, 0, none⟩ : Addr).add q) = some (vw sH.toL[q]) := fun q hq => by
    rw [addr_add, Nat.zero_add, cell_of_row _ _ _ _ _ _ hh, vals_get sH q hq]
  conv => arg 2; whnf
  refine wp_region_list ?_
  refine wpList_yields rfl (.slice none 0 0) (yields_move (by simp [Region.wanted]) (.tmp 15) rfl _ x15) ?_
  refine wpList_yields rfl (.slice (some ⟨N + 1, 0, none⟩) 8 8) (yields_move (by simp [Region.wanted]) (.tmp 3) rfl _ (evn x3)) ?_
  refine app_words _ rfl (.tmp 136) (.tmp 137) rfl W.heap.size (.slice none 0 0) [] (evn (ev_eq _ _ (by rw [sz]; decide))) (World.ownsRow_nil _ _ _ _) ⟨N + 1, 0, none⟩ 8 8 sH.toL rfl (ev_eq _ _ (by simp only [put_sz]; rw [sz]; decide)) hc (by simp) (Nat.le_refl _) ?_
  intro v5 w5 ho5 hb5
  obtain ⟨gv, cv, rfl, hgv, hvc⟩ := vrow_of ho5
  refine wpList_yields rfl (.slice (some ⟨gv, 0, none⟩) 8 cv) (yh_assign (by simp [Region.wanted]) (.tmp 138) rfl _ (ev_eq _ _ (by simp only [put_sz]; rw [sz]; decide))) ?_
  exact wpList_nil ⟨rfl, ((((Keep.refl A _).put 136 _ (by decide)).put 137 _ (by decide)).put 138 _ (by decide)).put 15 _ (by decide), gv, cv, ev_eq _ _ (by simp only [put_sz]; rw [sz]; decide), hgv, hvc, hb5⟩
noncomputable def code16 : Code := ((Tryd.f104.body.bind (regionAt 16)).getD .skip)
theorem out16 (A : Act) (W : World) (sz : A.tmps.size = 288) :
    Code.wp Tryd.prog code16 (fun ex A' W' => ex = .normal ∧ ((Keep A A' [10] ∧ A'.eval (.tmp 10) = .int .i64 ((0 : Nat) : Int)) ∧ W' = W)) A W := by
  conv => arg 2; whnf
  refine wp_region_list ?_
  refine wpList_yields rfl (.int .i64 ((0 : Nat) : Int)) (yh_assign (by simp [Region.wanted]) (.const (.int .i64 0)) rfl _ rfl) ?_
  exact wpList_nil ⟨rfl, ⟨(Keep.refl A _).put 10 _ (by decide), ev_eq _ _ (by rw [sz]; decide)⟩, rfl⟩
noncomputable def code23 : Code := ((Tryd.f104.body.bind (regionAt 23)).getD .skip)
theorem out23 (A : Act) (W : World) (sz : A.tmps.size = 288) :
    Code.wp Tryd.prog code23 (fun ex A' W' => ex = .normal ∧ ((Keep A A' [12] ∧ A'.eval (.tmp 12) = .int .i64 ((16 : Nat) : Int)) ∧ W' = W)) A W := by
  conv => arg 2; whnf
  refine wp_region_list ?_
  refine wpList_yields rfl (.int .i64 ((16 : Nat) : Int)) (yh_assign (by simp [Region.wanted]) (.const (.int .i64 16)) rfl _ rfl) ?_
  exact wpList_nil ⟨rfl, ⟨(Keep.refl A _).put 12 _ (by decide), ev_eq _ _ (by rw [sz]; decide)⟩, rfl⟩
noncomputable def code28 : Code := ((Tryd.f104.body.bind (regionAt 28)).getD .skip)
theorem out28 (A : Act) (W : World) (sz : A.tmps.size = 288) :
    Code.wp Tryd.prog code28 (fun ex A' W' => ex = .normal ∧ ((Keep A A' [15] ∧ A'.eval (.tmp 15) = .slice none 0 0) ∧ W' = W)) A W := by
  conv => arg 2; whnf
  refine wp_region_list ?_
  refine wpList_yields rfl (.slice none 0 0) (yh_assign (by simp [Region.wanted]) (.const (.slice none 0 0)) rfl _ rfl) ?_
  exact wpList_nil ⟨rfl, ⟨(Keep.refl A _).put 15 _ (by decide), ev_eq _ _ (by rw [sz]; decide)⟩, rfl⟩
noncomputable def code30 : Code := ((Tryd.f104.body.bind (regionAt 30)).getD .skip)
theorem out30 (A : Act) (W : World) (sz : A.tmps.size = 288) :
    Code.wp Tryd.prog code30 (fun ex A' W' => ex = .normal ∧ ((Keep A A' [16] ∧ A'.eval (.tmp 16) = .int .i64 ((0 : Nat) : Int)) ∧ W' = W)) A W := by
  conv => arg 2; whnf
  refine wp_region_list ?_
  refine wpList_yields rfl (.int .i64 ((0 : Nat) : Int)) (yh_assign (by simp [Region.wanted]) (.const (.int .i64 0)) rfl _ rfl) ?_
  exact wpList_nil ⟨rfl, ⟨(Keep.refl A _).put 16 _ (by decide), ev_eq _ _ (by rw [sz]; decide)⟩, rfl⟩
noncomputable def code39 : Code := ((Tryd.f104.body.bind (regionAt 39)).getD .skip)
theorem out39 (A : Act) (W : World) (sz : A.tmps.size = 288) :
    Code.wp Tryd.prog code39 (fun ex A' W' => ex = .normal ∧ ((Keep A A' [22] ∧ A'.eval (.tmp 22) = .int .i64 ((0 : Nat) : Int)) ∧ W' = W)) A W := by
  conv => arg 2; whnf
  refine wp_region_list ?_
  refine wpList_yields rfl (.int .i64 ((0 : Nat) : Int)) (yh_assign (by simp [Region.wanted]) (.const (.int .i64 0)) rfl _ rfl) ?_
  exact wpList_nil ⟨rfl, ⟨(Keep.refl A _).put 22 _ (by decide), ev_eq _ _ (by rw [sz]; decide)⟩, rfl⟩
noncomputable def body3 : Code := ((Tryd.f104.body.bind (loopAt 15)).getD .skip)
structure Four (N gm M cm : Nat) (A0 A : Act) : Prop where
  sz : A.tmps.size = 288
  df : A.defers = A0.defers
  x2 : A.eval (.tmp 2) = A0.eval (.tmp 2)
  x3 : A.eval (.tmp 3) = .slice (some ⟨N + 1, 0, none⟩) 8 8
  x4 : A.eval (.tmp 4) = .slice (some ⟨N + 1 + 1, 0, none⟩) 64 64
  x5 : A.eval (.tmp 5) = .slice (some ⟨gm, 0, none⟩) M cm
theorem Four.keep {N gm M cm : Nat} {A0 A B : Act} {L : List Nat} (h : Four N gm M cm A0 A) (k : Keep A B L) (h2 : 2 ∉ L ∧ 3 ∉ L ∧ 4 ∉ L ∧ 5 ∉ L) : Four N gm M cm A0 B :=
  ⟨k.sz.trans h.sz, k.df.trans h.df, (k.keep 2 h2.1).trans h.x2, (k.keep 3 h2.2.1).trans h.x3, (k.keep 4 h2.2.2.1).trans h.x4, (k.keep 5 h2.2.2.2).trans h.x5⟩
structure I3 (N gm M cm : Nat) (cur : Array Value) (V2 : World) (m : List UInt8) (A0 A : Act) (W : World) (j : Nat) : Prop where
  f : Four N gm M cm A0 A
  le : 64 * j ≤ M
  ix : A.eval (.tmp 8) = .int .i64 ((64 * j : Nat) : Int)
  bl : BL N gm cur V2 W (blks init (m.take (64 * j)))
def mu3 (M : Nat) (A : Act) (_ : World) : Nat := M - (intOf (A.eval (.tmp 8))).toNat
set_option maxHeartbeats 1000000 in
theorem round3 {Q : Exit → Act → World → Prop} {N gm M cm : Nat} {cur : Array Value} {V2 : World} {m : List UInt8} {A0 : Act} (hM : M = m.length) (hM0 : M % 64 = 0) (hM1 : M ≤ 140737488355200) (hgm : N + 1 + 1 < gm)
    (hmb : ∀ (W : World) (i : Nat) (hi : i < m.length), W.heap[gm]? = some (.cells cur 5 (0, 0)) → W.cell? ⟨gm, i, none⟩ = some (.int .u8 ((m[i]'hi).toNat : Int)))
    (hexit : ∀ A W j, I3 N gm M cm cur V2 m A0 A W j → 64 * j = M → Q (.exit 4) A W) (A : Act) (W : World) (j : Nat) (I : I3 N gm M cm cur V2 m A0 A W j) :
    Code.wp Tryd.prog body3 (Exit.then (fun A' W' => (∃ j', I3 N gm M cm cur V2 m A0 A' W' j') ∧ mu3 M A' W' < mu3 M A W) Q) A W := by
  conv => arg 2; whnf
  refine wp_seq ?_
  refine wp_seq ?_
  refine wp_split _ (out13 A W (64 * j) gm M cm I.f.sz I.ix I.f.x5) ?_
  rintro A1 W1 ⟨⟨k1, c1⟩, hW1⟩
  show Code.wp _ _ _ A1 W1
  have F1 := I.f.keep k1 (by decide)
  have y8 := (k1.keep 8 (by decide)).trans I.ix
  have hbl1 : BL N gm cur V2 W1 (blks init (m.take (64 * j))) := by rw [hW1]; exact I.bl
  have hle := I.le
  by_cases hlt : 64 * j < M
  · refine wp_cond_true (by rw [c1, decide_eq_true (by omega)]) ?_
    refine wp_skip ?_
    show Code.wp _ _ _ A1 W1
    refine wp_seq ?_
    refine wp_block ?_
    refine wp_seq ?_
    obtain ⟨sH, hsH⟩ : ∃ sH, sH = blks init (m.take (64 * j)) := ⟨_, rfl⟩
    rw [← hsH] at hbl1
    obtain ⟨bs, hbs⟩ : ∃ bs, bs = (m.drop (64 * j)).take 64 := ⟨_, rfl⟩
    have lbs : bs.length = 64 := by rw [hbs]; simp; omega
    have Hbs : ∀ (i : Nat) (hi : i < bs.length), ∃ h1, m[64 * j + i]'h1 = bs[i]'hi := fun i hi => ⟨by omega, by simp [hbs]⟩
    have Hcmp : blks init (m.take (64 * (j + 1))) = comp sH bs := by
      have e : m.take (64 * (j + 1)) = m.take (64 * j) ++ bs := by rw [hbs, show 64 * (j + 1) = 64 * j + 64 by omega, List.take_add]
      rw [e, blks_append _ _ _ (by simp; omega), blks_one _ _ lbs, ← hsH]
    have hmb' : ∀ (W : World) (k : Nat) (h : k < bs.length), W.heap[gm]? = some (.cells cur 5 (0, 0)) → W.cell? ⟨gm, 64 * j + k, none⟩ = some (.int .u8 ((bs[k]'h).toNat : Int)) := fun W k h hW => by
      obtain ⟨h1, h2⟩ := Hbs k h
      rw [hmb W (64 * j + k) h1 hW, h2]
    refine wp_split _ (out15 A1 W1 F1.sz) ?_
    rintro A2 W2 ⟨⟨k2, c2⟩, hW2⟩
    show Code.wp _ _ _ A2 W2
    have F2 := F1.keep k2 (by decide)
    have y8_2 := (k2.keep 8 (by decide)).trans y8
    obtain ⟨gw, hgw⟩ : ∃ gw, gw = W1.heap.size := ⟨_, rfl⟩
    rw [← hgw] at c2
    have hw2 : W2.heap[gw]? = some (.cells (wvs (wordsZ bs (4 * 0))) 129 (0, 0)) := by rw [hW2, hgw, Nat.mul_zero, wordsZ_zero]; exact heap_alloc_new W1 _
    have hbl2 : BL N gm cur V2 W2 sH := by rw [hW2]; exact hbl1.alloc _
    have hgm1 : gm < gw := by rw [hgw]; exact heap_lt hbl1.m
    have hgk1 : N + 1 + 1 < gw := by rw [hgw]; exact heap_lt hbl1.k
    refine wp_seq ?_
    refine wp_seq ?_
    refine wp_split _ (out16 A2 W2 F2.sz) ?_
    rintro A3 W3 ⟨⟨k3, c3⟩, hW3⟩
    show Code.wp _ _ _ A3 W3
    have F3 := F2.keep k3 (by decide)
    have y8_3 := (k3.keep 8 (by decide)).trans y8_2
    have y9_3 := (k3.keep 9 (by decide)).trans c2
    refine wp_block ?_
    refine loop4 y9_3 F3.x5 y8_3 hgm1 hgk1 lbs (by omega) hM1 hmb' ⟨F3.sz, Keep.refl _ _, Nat.zero_le _, c3, by rw [hW3]; exact hw2, by rw [hW3]; exact hbl2⟩ ?_
    intro A4 W4 I4
    show Code.wp _ _ _ A4 W4
    have F4 := F3.keep I4.k (by decide)
    have y8_4 := (I4.k.keep 8 (by decide)).trans y8_3
    have y9_4 := (I4.k.keep 9 (by decide)).trans y9_3
    refine wp_seq ?_
    refine wp_seq ?_
    refine wp_split _ (out23 A4 W4 F4.sz) ?_
    rintro A5 W5 ⟨⟨k5, c5⟩, hW5⟩
    show Code.wp _ _ _ A5 W5
    have F5 := F4.keep k5 (by decide)
    have y8_5 := (k5.keep 8 (by decide)).trans y8_4
    have y9_5 := (k5.keep 9 (by decide)).trans y9_4
    refine wp_block ?_
    refine loop6 (bs := bs) y9_5 hgm1 hgk1 ⟨F5.sz, Keep.refl _ _, Nat.le_refl _, by decide, c5, by rw [hW5]; exact I4.w, by rw [hW5]; exact I4.bl⟩ ?_
    intro A6 W6 I6
    show Code.wp _ _ _ A6 W6
    have F6 := F5.keep I6.k (by decide)
    have y8_6 := (I6.k.keep 8 (by decide)).trans y8_5
    have y9_6 := (I6.k.keep 9 (by decide)).trans y9_5
    have hsc6 : W6.heap[gw]? = some (.cells (wvs (sched bs)) 129 (0, 0)) := by
      have h := I6.w
      rw [extZ_all] at h
      exact h
    refine wp_seq ?_
    refine wp_split _ (out28 A6 W6 F6.sz) ?_
    rintro A7 W7 ⟨⟨k7, c7⟩, hW7⟩
    show Code.wp _ _ _ A7 W7
    have F7 := F6.keep k7 (by decide)
    have y8_7 := (k7.keep 8 (by decide)).trans y8_6
    have y9_7 := (k7.keep 9 (by decide)).trans y9_6
    have hbl7 : BL N gm cur V2 W7 sH := by rw [hW7]; exact I6.bl
    have hsc7 : W7.heap[gw]? = some (.cells (wvs (sched bs)) 129 (0, 0)) := by rw [hW7]; exact hsc6
    refine wp_seq ?_
    refine wp_split _ (out29 A7 W7 N sH F7.sz c7 F7.x3 hbl7.h) ?_
    rintro A8 W8 ⟨k8, gv, cv, c8, hgv, hv8, hb8⟩
    show Code.wp _ _ _ A8 W8
    have F8 := F7.keep k8 (by decide)
    have y8_8 := (k8.keep 8 (by decide)).trans y8_7
    have y9_8 := (k8.keep 9 (by decide)).trans y9_7
    have hbl8 : BL N gm cur V2 W8 sH := hbl7.below hb8
    have hsc8 : W8.heap[gw]? = some (.cells (wvs (sched bs)) 129 (0, 0)) := (hb8.block _ (heap_lt hsc7)).trans hsc7
    have hgv' : N + 1 < gv := Nat.lt_of_lt_of_le (heap_lt hbl7.h) hgv
    refine wp_seq ?_
    refine wp_seq ?_
    refine wp_split _ (out30 A8 W8 F8.sz) ?_
    rintro A9 W9 ⟨⟨k9, c9⟩, hW9⟩
    show Code.wp _ _ _ A9 W9
    have F9 := F8.keep k9 (by decide)
    have y8_9 := (k9.keep 8 (by decide)).trans y8_8
    have y9_9 := (k9.keep 9 (by decide)).trans y9_8
    refine wp_block ?_
    refine loop7 (gm := gm) (cur := cur) (V2 := V2) (sH := sH) (bs := bs) F9.x4 y9_9 ⟨F9.sz, rfl, fun _ _ _ => rfl, by decide, c9, ⟨gv, cv, (k9.keep 15 (by decide)).trans c8, hgv', by rw [hW9]; exact hv8⟩, by rw [hW9]; exact hsc8, by rw [hW9]; exact hbl8⟩ ?_
    intro A10 W10 I7
    show Code.wp _ _ _ A10 W10
    obtain ⟨gv', cv', c10, hg10, hv10⟩ := I7.v
    have F10 : Four N gm M cm A0 A10 := ⟨I7.sz, I7.df.trans F9.df, (I7.keep 2 (by decide) (by decide)).trans F9.x2, (I7.keep 3 (by decide) (by decide)).trans F9.x3, (I7.keep 4 (by decide) (by decide)).trans F9.x4, (I7.keep 5 (by decide) (by decide)).trans F9.x5⟩
    have y8_10 := (I7.keep 8 (by decide) (by decide)).trans y8_9
    rw [rds_all] at hv10
    refine wp_seq ?_
    refine wp_split _ (out39 A10 W10 F10.sz) ?_
    rintro A11 W11 ⟨⟨k11, c11⟩, hW11⟩
    show Code.wp _ _ _ A11 W11
    have F11 := F10.keep k11 (by decide)
    have y8_11 := (k11.keep 8 (by decide)).trans y8_10
    refine wp_block ?_
    refine loop8 (gm := gm) (cur := cur) (V2 := V2) (sH := sH) F11.x3 ((k11.keep 15 (by decide)).trans c10) hg10 (by omega) ⟨F11.sz, Keep.refl _ _, by decide, c11, by rw [hW11]; exact hv10, by rw [hW11, mix8_zero]; exact I7.bl⟩ ?_
    intro A12 W12 I8
    show Code.wp _ _ _ A12 W12
    have F12 := F11.keep I8.k (by decide)
    have y8_12 := (I8.k.keep 8 (by decide)).trans y8_11
    refine wp_split _ (out14 A12 W12 (64 * j) (by omega) F12.sz y8_12) ?_
    rintro A13 W13 ⟨⟨k13, c13⟩, hW13⟩
    show (∃ j', I3 N gm M cm cur V2 m A0 A13 W13 j') ∧ mu3 M A13 W13 < mu3 M A W
    refine ⟨⟨j + 1, ⟨F12.keep k13 (by decide), by omega, c13, ?_⟩⟩, ?_⟩
    · rw [hW13, Hcmp]
      have h := I8.bl
      rw [mix8_all] at h
      exact h
    · unfold mu3
      rw [c13, I.ix]
      simp only [intOf]
      omega
  · refine wp_cond_false (by rw [c1, decide_eq_false (by omega)]) ?_
    refine wp_exit ?_
    show Q (.exit 4) A1 W1
    exact hexit A1 W1 j ⟨F1, hle, y8, by rw [hW1]; exact I.bl⟩ (by omega)
theorem loop3 {Q : Exit → Act → World → Prop} {N gm M cm : Nat} {cur : Array Value} {V2 : World} {m : List UInt8} {A0 : Act} {W0 : World} (hM : M = m.length) (hM0 : M % 64 = 0) (hM1 : M ≤ 140737488355200) (hgm : N + 1 + 1 < gm)
    (hmb : ∀ (W : World) (i : Nat) (hi : i < m.length), W.heap[gm]? = some (.cells cur 5 (0, 0)) → W.cell? ⟨gm, i, none⟩ = some (.int .u8 ((m[i]'hi).toNat : Int)))
    (start : I3 N gm M cm cur V2 m A0 A0 W0 0) (hexit : ∀ A W j, I3 N gm M cm cur V2 m A0 A W j → 64 * j = M → Q (.exit 4) A W) : Code.wp Tryd.prog (Code.loop body3) Q A0 W0 :=
  wp_loop (fun A W => ∃ j, I3 N gm M cm cur V2 m A0 A W j) (mu3 M) ⟨0, start⟩ (fun A W ⟨j, h⟩ => round3 hM hM0 hM1 hgm hmb hexit A W j h)
end Go.Proofs.YthfmpebgmojcaaaDoor
/- The bytes of the state: loop 9 of the reference's Sum, over a frame that is a letter. -/
namespace Go.Proofs.YthfmpebgmojcaaaDoor
open Go.RowKit
set_option linter.unusedVariables false
set_option maxRecDepth 100000
theorem ev_none (a : Act) (v : Value) (x : Operand) : (a.put none v).eval x = a.eval x := by cases x <;> rfl
theorem wpList_yieldsS {ops : Array Oper} {rest : List Oper} {o : Oper} {a : Act} {w : World} {Q : Exit → Act → World → Prop} {S : World → Prop} (hg : o.guard = none) (v : Value) (hy : YieldsIf Tryd.prog ops S o v a) (hs : S w) (h : wpList Tryd.prog ops Q rest (a.put o.dst v) w) : wpList Tryd.prog ops Q (o :: rest) a w := by
  rcases hy with ⟨_, hr⟩ | ⟨hn, _⟩
  · refine wpList_plain hg fun K hK => ?_
    unfold Oper.wp
    rw [hr w hs, Oper.upon_value]
    exact hK _ _ h
  · exact absurd hn (by simp [Region.wanted, hg])
section
variable {ops : Array Oper} {S : World → Prop} {op : Oper} {a : Act}
theorem y_quo4 (hw : Region.wanted op (yielded ops a.tmps) = true) (x y : Operand) (ho : op.op = .binOp .quo 3 x y 3) (i : Nat) (hi : i < 32) (hx : a.eval x = .int .i64 (i : Int)) (hy : a.eval y = .int .i64 4) : YieldsIf Tryd.prog ops S op (.int .i64 ((i / 4 : Nat) : Int)) a := by
  refine .inl ⟨hw, fun w _ => ?_⟩
  have h1 : IntKind.i64.wrap ((i : Int).tdiv 4) = ((i / 4 : Nat) : Int) := by rw [IntKind.wrap_i64, Int.tdiv_eq_ediv_of_nonneg (by omega)]; omega
  rw [← h1]
  unfold execOp
  simp only [ho, hx, hy]
  simp [go_sem]
theorem y_rem4 (hw : Region.wanted op (yielded ops a.tmps) = true) (x y : Operand) (ho : op.op = .binOp .rem 3 x y 3) (i : Nat) (hi : i < 32) (hx : a.eval x = .int .i64 (i : Int)) (hy : a.eval y = .int .i64 4) : YieldsIf Tryd.prog ops S op (.int .i64 ((i % 4 : Nat) : Int)) a := by
  refine .inl ⟨hw, fun w _ => ?_⟩
  have h1 : (i : Int).tmod 4 = ((i % 4 : Nat) : Int) := by rw [Int.tmod_eq_emod_of_nonneg (by omega)]; omega
  rw [← h1]
  unfold execOp
  simp only [ho, hx, hy]
  simp [go_sem]
theorem y_shrI (hw : Region.wanted op (yielded ops a.tmps) = true) (x y : Operand) (ho : op.op = .binOp .shr 129 x y 3) (p : W32) (n : Nat) (hn : n < 32) (hx : a.eval x = vw p) (hy : a.eval y = .int .i64 (n : Int)) : YieldsIf Tryd.prog ops S op (vw (p >>> n)) a := by
  refine .inl ⟨hw, fun w _ => ?_⟩
  unfold execOp
  simp only [ho, hx, hy]
  simp [go_sem]
  first
    | exact (Int.shiftRight_eq_div_pow _ _).symm
    | (rw [Int.shiftRight_eq_div_pow]; norm_cast)
theorem y_byteW (hw : Region.wanted op (yielded ops a.tmps) = true) (x : Operand) (ho : op.op = .convert 129 5 x) (p : W32) (hx : a.eval x = vw p) : YieldsIf Tryd.prog ops S op (.int .u8 ((UInt8.ofNat p.toNat).toNat : Int)) a := by
  refine .inl ⟨hw, fun w hS9 => ?_⟩
  have h1 : IntKind.u8.wrap (p.toNat : Int) = ((UInt8.ofNat p.toNat).toNat : Int) := by
    rw [IntKind.wrap_u8]; simp
  rw [← h1]
  unfold execOp
  simp only [ho, hx]
  simp [go_sem]
theorem y_indexH (hw : Region.wanted op (yielded ops a.tmps) = true) (x y : Operand) (ho : op.op = .indexAddr 69 x y) (g k : Nat) (hx : a.eval x = .pointer (some ⟨g, 0, none⟩)) (hy : a.eval y = .int .i64 (k : Int)) (hk : k < 32) : YieldsIf Tryd.prog ops S op (.pointer (some ⟨g, k, none⟩)) a := by
  refine .inl ⟨hw, fun w _ => ?_⟩
  have h1 : (k : Int) < 32 := by omega
  have h0 : (0 : Int) ≤ (k : Int) := by omega
  unfold execOp
  simp only [ho, hx, hy]
  simp [go_sem, h0, h1]
end
theorem wpList_storeB {ops : Array Oper} {rest : List Oper} {o : Oper} {a : Act} {w : World} {Q : Exit → Act → World → Prop} (hg : o.guard = none) (x y : Operand) (ho : o.op = .store 5 x y) (g i : Nat) (v : UInt8) (u : Value) (hx : a.eval x = .pointer (some ⟨g, i, none⟩)) (hy : a.eval y = .int .u8 (v.toNat : Int))
    (hc : w.cell? ⟨g, i, none⟩ = some u) (hf : w.frozen? ⟨g, i, none⟩ = false) (h : wpList Tryd.prog ops Q rest (a.put o.dst undef) (w.setCell ⟨g, i, none⟩ (.int .u8 (v.toNat : Int)))) : wpList Tryd.prog ops Q (o :: rest) a w := by
  refine wpList_plain hg fun K hK => ?_
  unfold Oper.wp execOp
  simp only [ho, hx, hy]
  simp [go_sem, hc, hf]
  exact hK _ _ h
abbrev L9 : List Nat := [24, 270, 271, 272, 273, 274, 275, 276, 277, 278, 279, 280, 281, 282, 283, 284, 285, 286]
noncomputable def code43 : Code := ((Tryd.f104.body.bind (regionAt 43)).getD .skip)
theorem out43 (A : Act) (W : World) (Z : Array Value) (hz : ∀ w, (zeroValue 69).run Tryd.prog w = .ok (.agg Z) w) (sz : A.tmps.size = 288) :
    Code.wp Tryd.prog code43 (fun ex A' W' => ex = .normal ∧ ((Keep A A' [23] ∧ A'.eval (.tmp 23) = .pointer (some ⟨W.heap.size, 0, none⟩)) ∧ W' = W.alloc (.cells Z 69))) A W := by
  conv => arg 2; whnf
  refine wp_region_list ?_
  refine wpList_alloc_row rfl 69 rfl Z hz ?_
  exact wpList_nil ⟨rfl, ⟨(Keep.refl A _).put 23 _ (by decide), ev_eq _ _ (by rw [sz]; decide)⟩, rfl⟩
noncomputable def code45 : Code := ((Tryd.f104.body.bind (regionAt 45)).getD .skip)
theorem out45 (A : Act) (W : World) (r : Nat) (sz : A.tmps.size = 288) (x24 : A.eval (.tmp 24) = .int .i64 (r : Int)) :
    Code.wp Tryd.prog code45 (fun ex A' W' => ex = .normal ∧ ((Keep A A' [270, 271] ∧ A'.eval (.tmp 271) = .bool (decide ((r : Int) < 32))) ∧ W' = W)) A W := by
  conv => arg 2; whnf
  refine wp_region_list ?_
  refine wpList_yields rfl (.int .i64 (r : Int)) (yields_move (by simp [Region.wanted]) (.tmp 24) rfl _ x24) ?_
  refine wpList_yields rfl (.bool (decide ((r : Int) < 32))) (y_lss (by simp [Region.wanted]) (.tmp 270) (.const (.int .i64 32)) rfl (r : Int) 32 (ev_eq _ _ (by rw [sz]; decide)) rfl) ?_
  exact wpList_nil ⟨rfl, ⟨((Keep.refl A _).put 270 _ (by decide)).put 271 _ (by decide), ev_eq _ _ (by simp only [put_sz]; rw [sz]; decide)⟩, rfl⟩
noncomputable def code46 : Code := ((Tryd.f104.body.bind (regionAt 46)).getD .skip)
theorem out46 (A : Act) (W : World) (r : Nat) (hr : r < 64) (sz : A.tmps.size = 288) (x24 : A.eval (.tmp 24) = .int .i64 (r : Int)) :
    Code.wp Tryd.prog code46 (fun ex A' W' => ex = .normal ∧ ((Keep A A' [24, 272, 273] ∧ A'.eval (.tmp 24) = .int .i64 ((r + 1 : Nat) : Int)) ∧ W' = W)) A W := by
  conv => arg 2; whnf
  refine wp_region_list ?_
  refine wpList_yields rfl (.int .i64 (r : Int)) (yields_move (by simp [Region.wanted]) (.tmp 24) rfl _ x24) ?_
  refine wpList_yields rfl (.int .i64 ((r + 1 : Nat) : Int)) (y_addi (by simp [Region.wanted]) (.tmp 272) (.const (.int .i64 1)) rfl (r : Int) 1 _ (ev_eq _ _ (by rw [sz]; decide)) rfl (by rw [IntKind.wrap_i64]; omega)) ?_
  refine wpList_yields rfl (.int .i64 ((r + 1 : Nat) : Int)) (yh_assign (by simp [Region.wanted]) (.tmp 273) rfl _ (ev_eq _ _ (by simp only [put_sz]; rw [sz]; decide))) ?_
  exact wpList_nil ⟨rfl, ⟨(((Keep.refl A _).put 272 _ (by decide)).put 273 _ (by decide)).put 24 _ (by decide), ev_eq _ _ (by simp only [put_sz]; rw [sz]; decide)⟩, rfl⟩
noncomputable def code44 : Code := ((Tryd.f104.body.bind (regionAt 44)).getD .skip)
theorem out44 (A : Act) (W : World) (sz : A.tmps.size = 288) :
    Code.wp Tryd.prog code44 (fun ex A' W' => ex = .normal ∧ ((Keep A A' [24] ∧ A'.eval (.tmp 24) = .int .i64 ((0 : Nat) : Int)) ∧ W' = W)) A W := by
  conv => arg 2; whnf
  refine wp_region_list ?_
  refine wpList_yields rfl (.int .i64 ((0 : Nat) : Int)) (yh_assign (by simp [Region.wanted]) (.const (.int .i64 0)) rfl _ rfl) ?_
  exact wpList_nil ⟨rfl, ⟨(Keep.refl A _).put 24 _ (by decide), ev_eq _ _ (by rw [sz]; decide)⟩, rfl⟩
noncomputable def code47 : Code := ((Tryd.f104.body.bind (regionAt 47)).getD .skip)
theorem out47 (A : Act) (W : World) (N go i : Nat) (p : W32) (u : Value) (hi : i < 32) (sz : A.tmps.size = 288) (x24 : A.eval (.tmp 24) = .int .i64 (i : Int)) (x3 : A.eval (.tmp 3) = .slice (some ⟨N + 1, 0, none⟩) 8 8) (x23 : A.eval (.tmp 23) = .pointer (some ⟨go, 0, none⟩))
    (hp : W.cell? ⟨N + 1, i / 4, none⟩ = some (vw p)) (hu : W.cell? ⟨go, i, none⟩ = some u) (hf : W.frozen? ⟨go, i, none⟩ = false) :
    Code.wp Tryd.prog code47 (fun ex A' W' => ex = .normal ∧ (Keep A A' L9 ∧ A'.eval (.tmp 24) = .int .i64 (i : Int) ∧ W' = W.setCell ⟨go, i, none⟩ (.int .u8 ((UInt8.ofNat (p >>> (24 - 8 * (i % 4))).toNat).toNat : Int)))) A W := by
  conv => arg 2; whnf
  refine wp_region_list ?_
  refine wpList_yields rfl (.int .i64 (i : Int)) (yields_move (by simp [Region.wanted]) (.tmp 24) rfl _ x24) ?_
  refine wpList_yields rfl (.slice (some ⟨N + 1, 0, none⟩) 8 8) (yields_move (by simp [Region.wanted]) (.tmp 3) rfl _ (evn (x3))) ?_
  refine wpList_yields rfl (.int .i64 (i : Int)) (yields_move (by simp [Region.wanted]) (.tmp 24) rfl _ (evn (evn (x24)))) ?_
  refine wpList_yields rfl (.int .i64 ((i / 4 : Nat) : Int)) (y_quo4 (by simp [Region.wanted]) (.tmp 276) (.const (.int .i64 4)) rfl i hi (ev_eq _ _ (by (try simp only [put_sz]); rw [sz]; decide)) rfl) ?_
  refine wpList_yields rfl (.pointer (some ⟨N + 1, i / 4, none⟩)) (y_index (by simp [Region.wanted]) (.tmp 275) (.tmp 277) rfl (N + 1) 8 8 (i / 4) (evn (evn (ev_eq _ _ (by (try simp only [put_sz]); rw [sz]; decide)))) (ev_eq _ _ (by (try simp only [put_sz]); rw [sz]; decide)) (by omega)) ?_
  refine wpList_yieldsS (S := fun x => x.cell? ⟨N + 1, i / 4, none⟩ = some (vw p)) rfl (vw p) (y_load (by simp [Region.wanted]) (.tmp 278) rfl (N + 1) (i / 4) p (ev_eq _ _ (by (try simp only [put_sz]); rw [sz]; decide)) (fun w h => h)) hp ?_
  refine wpList_yields rfl (.int .i64 (i : Int)) (yields_move (by simp [Region.wanted]) (.tmp 24) rfl _ (evn (evn (evn (evn (evn (evn (x24)))))))) ?_
  refine wpList_yields rfl (.int .i64 ((i % 4 : Nat) : Int)) (y_rem4 (by simp [Region.wanted]) (.tmp 280) (.const (.int .i64 4)) rfl i hi (ev_eq _ _ (by (try simp only [put_sz]); rw [sz]; decide)) rfl) ?_
  refine wpList_yields rfl (.int .i64 ((8 * (i % 4) : Nat) : Int)) (y_muli (by simp [Region.wanted]) (.const (.int .i64 8)) (.tmp 281) rfl 8 ((i % 4 : Nat) : Int) _ rfl (ev_eq _ _ (by (try simp only [put_sz]); rw [sz]; decide)) (by rw [IntKind.wrap_i64]; omega)) ?_
  refine wpList_yields rfl (.int .i64 ((24 - 8 * (i % 4) : Nat) : Int)) (y_subi (by simp [Region.wanted]) (.const (.int .i64 24)) (.tmp 282) rfl 24 ((8 * (i % 4) : Nat) : Int) _ rfl (ev_eq _ _ (by (try simp only [put_sz]); rw [sz]; decide)) (by rw [IntKind.wrap_i64]; omega)) ?_
  refine wpList_yields rfl (vw (p >>> (24 - 8 * (i % 4)))) (y_shrI (by simp [Region.wanted]) (.tmp 279) (.tmp 283) rfl p (24 - 8 * (i % 4)) (by omega) (evn (evn (evn (evn (ev_eq _ _ (by (try simp only [put_sz]); rw [sz]; decide)))))) (ev_eq _ _ (by (try simp only [put_sz]); rw [sz]; decide))) ?_
  refine wpList_yields rfl (.int .u8 ((UInt8.ofNat (p >>> (24 - 8 * (i % 4))).toNat).toNat : Int)) (y_byteW (by simp [Region.wanted]) (.tmp 284) rfl _ (ev_eq _ _ (by (try simp only [put_sz]); rw [sz]; decide))) ?_
  refine wpList_yields rfl (.pointer (some ⟨go, i, none⟩)) (y_indexH (by simp [Region.wanted]) (.tmp 23) (.tmp 274) rfl go i (evn (evn (evn (evn (evn (evn (evn (evn (evn (evn (evn (evn (x23))))))))))))) (evn (evn (evn (evn (evn (evn (evn (evn (evn (evn (evn (ev_eq _ _ (by (try simp only [put_sz]); rw [sz]; decide))))))))))))) hi) ?_
  refine wpList_storeB rfl (.tmp 286) (.tmp 285) rfl go i (UInt8.ofNat (p >>> (24 - 8 * (i % 4))).toNat) u (ev_eq _ _ (by (try simp only [put_sz]); rw [sz]; decide)) (evn (ev_eq _ _ (by (try simp only [put_sz]); rw [sz]; decide))) hu hf ?_
  refine wpList_nil ⟨rfl, ?_, ?_, rfl⟩
  · exact ((((((((((((((Keep.refl A _).put 274 _ (by decide)).put 275 _ (by decide)).put 276 _ (by decide)).put 277 _ (by decide)).put 278 _ (by decide)).put 279 _ (by decide)).put 280 _ (by decide)).put 281 _ (by decide)).put 282 _ (by decide)).put 283 _ (by decide)).put 284 _ (by decide)).put 285 _ (by decide)).put 286 _ (by decide)).putn _
  · exact (ev_none _ _ _).trans (evn (evn (evn (evn (evn (evn (evn (evn (evn (evn (evn (evn (evn (x24))))))))))))))
end Go.Proofs.YthfmpebgmojcaaaDoor
/- The bytes of the state, and the end of the reference's Sum, over a frame that is a letter. -/
namespace Go.Proofs.YthfmpebgmojcaaaDoor
open Go.RowKit
set_option linter.unusedVariables false
set_option maxRecDepth 100000
noncomputable def body9 : Code := ((Tryd.f104.body.bind (loopAt 47)).getD .skip)
structure I9 (N go : Nat) (s : S8) (Z : Array Value) (w : World) (A0 A : Act) (W : World) (i : Nat) : Prop where
  sz : A.tmps.size = 288
  k : Keep A0 A L9
  le : i ≤ 32
  ix : A.eval (.tmp 24) = .int .i64 (i : Int)
  o : W.heap[go]? = some (.cells (bvs (outAt s i)) 69 (0, 0))
  h : W.heap[N + 1]? = some (.cells s.vals 129 (0, 0))
  r : W.heap[N]? = some (.cells Z 69 (0, 0))
  b : Below N w W
def mu9 (A : Act) (_ : World) : Nat := 32 - (intOf (A.eval (.tmp 24))).toNat
set_option maxHeartbeats 400000 in
theorem round9 {Q : Exit → Act → World → Prop} {N go : Nat} {s : S8} {Z : Array Value} {w : World} {A0 : Act} (x3 : A0.eval (.tmp 3) = .slice (some ⟨N + 1, 0, none⟩) 8 8) (x23 : A0.eval (.tmp 23) = .pointer (some ⟨go, 0, none⟩)) (hg : N + 1 < go)
    (hexit : ∀ A W, I9 N go s Z w A0 A W 32 → Q (.exit 16) A W) (A : Act) (W : World) (i : Nat) (I : I9 N go s Z w A0 A W i) :
    Code.wp Tryd.prog body9 (Exit.then (fun A' W' => (∃ i', I9 N go s Z w A0 A' W' i') ∧ mu9 A' W' < mu9 A W) Q) A W := by
  conv => arg 2; whnf
  refine wp_seq ?_
  refine wp_seq ?_
  refine wp_split _ (out45 A W i I.sz I.ix) ?_
  rintro A1 W1 ⟨⟨k1, c1⟩, hW1⟩
  show Code.wp _ _ _ A1 W1
  have K1 : Keep A A1 L9 := k1.mono (by decide)
  have sz1 : A1.tmps.size = 288 := K1.sz.trans I.sz
  have y24 : A1.eval (.tmp 24) = .int .i64 (i : Int) := (k1.keep 24 (by decide)).trans I.ix
  by_cases hlt : i < 32
  · refine wp_cond_true (by rw [c1, decide_eq_true (by omega)]) ?_
    refine wp_skip ?_
    show Code.wp _ _ _ A1 W1
    refine wp_seq ?_
    refine wp_block ?_
    have y3 := (K1.keep 3 (by decide)).trans ((I.k.keep 3 (by decide)).trans x3)
    have y23 := (K1.keep 23 (by decide)).trans ((I.k.keep 23 (by decide)).trans x23)
    have h4 : i / 4 < 8 := by omega
    have hp : W1.cell? ⟨N + 1, i / 4, none⟩ = some (vw (s.toL[i / 4]'h4)) := by rw [hW1, cell_of_row _ _ _ _ _ _ I.h, vals_get _ _ h4]
    have ho1 : W1.heap[go]? = some (.cells (bvs (outAt s i)) 69 (0, 0)) := by rw [hW1]; exact I.o
    have hol : i < (outAt s i).length := by rw [outAt_length _ _ I.le]; exact hlt
    have hu : W1.cell? ⟨go, i, none⟩ = some (.int .u8 (((outAt s i)[i]'hol).toNat : Int)) := by rw [cell_of_row _ _ _ _ _ _ ho1, bvs_get _ _ hol]
    refine wp_split _ (out47 A1 W1 N go i _ _ hlt sz1 y24 y3 y23 hp hu (frozen_of_row _ _ i _ _ ho1)) ?_
    rintro A2 W2 ⟨K2, c2, hW2⟩
    show Code.wp _ _ _ A2 W2
    refine wp_split _ (out46 A2 W2 i (by omega) (K2.sz.trans sz1) c2) ?_
    rintro A3 W3 ⟨⟨k3, c3⟩, hW3⟩
    show (∃ i', I9 N go s Z w A0 A3 W3 i') ∧ mu9 A3 W3 < mu9 A W
    have K3 : Keep A2 A3 L9 := k3.mono (by decide)
    refine ⟨⟨i + 1, ⟨K3.sz.trans (K2.sz.trans sz1), I.k.trans (K1.trans (K2.trans K3)), by omega, c3, ?_, ?_, ?_, ?_⟩⟩, ?_⟩
    · rw [hW3, hW2, heap_setCell_same _ _ _ _ _ _ ho1, bvs_set]
      have e := outAt_set s (i / 4) (i % 4) h4 (by omega)
      rw [show 4 * (i / 4) + i % 4 = i by omega] at e
      rw [BitVec.toNat_ushiftRight, Nat.shiftRight_eq_div_pow, e]
    · rw [hW3, hW2, heap_setCell_other _ _ _ _ (show N + 1 ≠ go by omega), hW1]; exact I.h
    · rw [hW3, hW2, heap_setCell_other _ _ _ _ (show N ≠ go by omega), hW1]; exact I.r
    · rw [hW3, hW2, hW1]; exact I.b.setCell (p := ⟨go, i, none⟩) (show N ≤ go by omega) _
    · unfold mu9
      rw [c3, I.ix]
      simp only [intOf]
      omega
  · refine wp_cond_false (by rw [c1, decide_eq_false (by omega)]) ?_
    refine wp_exit ?_
    show Q (.exit 16) A1 W1
    have hr : i = 32 := by have := I.le; omega
    subst hr
    exact hexit A1 W1 ⟨sz1, I.k.trans K1, Nat.le_refl _, y24, by rw [hW1]; exact I.o, by rw [hW1]; exact I.h, by rw [hW1]; exact I.r, by rw [hW1]; exact I.b⟩
theorem loop9 {Q : Exit → Act → World → Prop} {N go : Nat} {s : S8} {Z : Array Value} {w : World} {A0 : Act} {W0 : World} (x3 : A0.eval (.tmp 3) = .slice (some ⟨N + 1, 0, none⟩) 8 8) (x23 : A0.eval (.tmp 23) = .pointer (some ⟨go, 0, none⟩)) (hg : N + 1 < go)
    (start : I9 N go s Z w A0 A0 W0 0) (hexit : ∀ A W, I9 N go s Z w A0 A W 32 → Q (.exit 16) A W) : Code.wp Tryd.prog (Code.loop body9) Q A0 W0 :=
  wp_loop (fun A W => ∃ i, I9 N go s Z w A0 A W i) mu9 ⟨0, start⟩ (fun A W ⟨i, h⟩ => round9 x3 x23 hg hexit A W i h)
noncomputable def code48 : Code := ((Tryd.f104.body.bind (regionAt 48)).getD .skip)
theorem out48 (A : Act) (W : World) (N go : Nat) (l : List UInt8) (hl : l.length = 32) (Z : Array Value) (hZ : Z.size = 32) (sz : A.tmps.size = 288) (x2 : A.eval (.tmp 2) = .pointer (some ⟨N, 0, none⟩)) (x23 : A.eval (.tmp 23) = .pointer (some ⟨go, 0, none⟩))
    (ho : W.heap[go]? = some (.cells (bvs l) 69 (0, 0))) (hr : W.heap[N]? = some (.cells Z 69 (0, 0))) (hi : (Tryd.prog.info? 69).map (·.size) = some 32) :
    Code.wp Tryd.prog code48 (fun ex A' W' => ex = .normal ∧ (Keep A A' [287] ∧ W' = W.setRow N (bvs l))) A W := by
  have hi' : (Tryd.prog.info? 69).map (·.size) = some (bvs l).size := by rw [bvs_size, hl]; exact hi
  conv => arg 2; whnf
  refine wp_region_list ?_
  refine wpList_load_row rfl 69 (.tmp 23) rfl go x23 _ _ _ _ ho Tryd.underlying69 rfl hi' ?_
  refine wpList_store_row rfl 69 (.tmp 2) (.tmp 287) rfl N (bvs l) (evn x2) (ev_eq _ _ (by rw [sz]; decide)) 69 Z hr hi' (by rw [hZ, bvs_size, hl]) (bvs_one l) ?_
  exact wpList_nil ⟨rfl, ((Keep.refl A _).put 287 _ (by decide)).putn _, rfl⟩
end Go.Proofs.YthfmpebgmojcaaaDoor
