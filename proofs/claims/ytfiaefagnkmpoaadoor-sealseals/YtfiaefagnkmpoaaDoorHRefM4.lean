/- The words of a block: loop 4 of the reference's Sum, over a frame that is a letter. -/
import Derived.Test.YtfiaefagnkmpoaaDoorHRefM5
namespace Go.Proofs.YtfiaefagnkmpoaaDoor
open Go.RowKit
set_option linter.unusedVariables false
set_option maxRecDepth 100000
/-- what the loop keeps -/
structure I4 (N gm gw : Nat) (cur : Array Value) (V2 : World) (sH : S8) (bs : List UInt8) (A0 A : Act) (W : World) (i : Nat) : Prop where
  sz : A.tmps.size = 288
  k : Keep A0 A L4
  le : i ≤ 16
  ix : A.eval (.tmp 10) = .int .i64 (i : Int)
  w : W.heap[gw]? = some (.cells (wvs (wordsZ bs (4 * i))) 53 (0, 0))
  bl : BL N gm cur V2 W sH
def mu4 (A : Act) (_ : World) : Nat := 16 - (intOf (A.eval (.tmp 10))).toNat
set_option maxHeartbeats 400000 in
theorem round4 {Q : Exit → Act → World → Prop} {N gm gw M cm at9 : Nat} {cur : Array Value} {V2 : World} {sH : S8} {bs : List UInt8} {A0 : Act} (x9 : A0.eval (.tmp 9) = .slice (some ⟨gw, 0, none⟩) 64 64) (x5 : A0.eval (.tmp 5) = .slice (some ⟨gm, 0, none⟩) M cm) (x8 : A0.eval (.tmp 8) = .int .i64 (at9 : Int)) (hgm : gm < gw) (hg : N + 1 + 1 < gw) (lbs : bs.length = 64) (hat : at9 + 64 ≤ M) (hM : M ≤ 140737488355200) (hmb : ∀ (W : World) (k : Nat) (h : k < bs.length), W.heap[gm]? = some (.cells cur 5 (0, 0)) → W.cell? ⟨gm, at9 + k, none⟩ = some (.int .u8 ((bs[k]'h).toNat : Int)))
    (hexit : ∀ A W, I4 N gm gw cur V2 sH bs A0 A W 16 → Q (.exit 6) A W) (A : Act) (W : World) (i : Nat) (I : I4 N gm gw cur V2 sH bs A0 A W i) :
    Code.wp Tryd.prog body4 (Exit.then (fun A' W' => (∃ i', I4 N gm gw cur V2 sH bs A0 A' W' i') ∧ mu4 A' W' < mu4 A W) Q) A W := by
  conv => arg 2; whnf
  refine wp_seq ?_
  refine wp_seq ?_
  refine wp_split _ (out17 A W i I.sz I.ix) ?_
  rintro A1 W1 ⟨⟨k1, c1⟩, hW1⟩
  show Code.wp _ _ _ A1 W1
  have K1 : Keep A A1 L4 := k1.mono (by decide)
  have sz1 : A1.tmps.size = 288 := K1.sz.trans I.sz
  have y10 : A1.eval (.tmp 10) = .int .i64 (i : Int) := (k1.keep 10 (by decide)).trans I.ix
  by_cases hlt : i < 16
  · refine wp_cond_true (by rw [c1, decide_eq_true (by omega)]) ?_
    refine wp_skip ?_
    show Code.wp _ _ _ A1 W1
    refine wp_seq ?_
    refine wp_block ?_
    refine wp_seq ?_
    refine wp_split _ (out19 A1 W1 sz1) ?_
    rintro A2 W2 ⟨⟨k2, c2⟩, hW2⟩
    show Code.wp _ _ _ A2 W2
    have K2 : Keep A1 A2 L4 := k2.mono (by decide)
    have y9 := (K2.keep 9 (by decide)).trans ((K1.keep 9 (by decide)).trans ((I.k.keep 9 (by decide)).trans x9))
    have y5 := (K2.keep 5 (by decide)).trans ((K1.keep 5 (by decide)).trans ((I.k.keep 5 (by decide)).trans x5))
    have y8 := (K2.keep 8 (by decide)).trans ((K1.keep 8 (by decide)).trans ((I.k.keep 8 (by decide)).trans x8))
    have z10 := (k2.keep 10 (by decide)).trans y10
    refine wp_block ?_
    refine loop5 hlt z10 y9 y5 y8 hgm hg lbs hat hM hmb ⟨K2.sz.trans sz1, Keep.refl _ _, Nat.zero_le _, c2, by rw [hW2, hW1]; exact I.w, by rw [hW2, hW1]; exact I.bl⟩ ?_
    intro A3 W3 I3
    show Code.wp _ _ _ A3 W3
    have K3 : Keep A2 A3 L4 := I3.k.mono (by decide)
    refine wp_split _ (out18 A3 W3 i (by omega) I3.sz ((I3.k.keep 10 (by decide)).trans z10)) ?_
    rintro A4 W4 ⟨⟨k4, c4⟩, hW4⟩
    show (∃ i', I4 N gm gw cur V2 sH bs A0 A4 W4 i') ∧ mu4 A4 W4 < mu4 A W
    have K4 : Keep A3 A4 L4 := k4.mono (by decide)
    refine ⟨⟨i + 1, ⟨K4.sz.trans I3.sz, I.k.trans (K1.trans (K2.trans (K3.trans K4))), by omega, c4, by rw [hW4]; exact I3.w, by rw [hW4]; exact I3.bl⟩⟩, ?_⟩
    unfold mu4
    rw [c4, I.ix]
    simp only [intOf]
    omega
  · refine wp_cond_false (by rw [c1, decide_eq_false (by omega)]) ?_
    refine wp_exit ?_
    show Q (.exit 6) A1 W1
    have hr : i = 16 := by have := I.le; omega
    subst hr
    exact hexit A1 W1 ⟨sz1, I.k.trans K1, Nat.le_refl _, y10, by rw [hW1]; exact I.w, by rw [hW1]; exact I.bl⟩
theorem loop4 {Q : Exit → Act → World → Prop} {N gm gw M cm at9 : Nat} {cur : Array Value} {V2 : World} {sH : S8} {bs : List UInt8} {A0 : Act} {W0 : World} (x9 : A0.eval (.tmp 9) = .slice (some ⟨gw, 0, none⟩) 64 64) (x5 : A0.eval (.tmp 5) = .slice (some ⟨gm, 0, none⟩) M cm) (x8 : A0.eval (.tmp 8) = .int .i64 (at9 : Int)) (hgm : gm < gw) (hg : N + 1 + 1 < gw) (lbs : bs.length = 64) (hat : at9 + 64 ≤ M) (hM : M ≤ 140737488355200) (hmb : ∀ (W : World) (k : Nat) (h : k < bs.length), W.heap[gm]? = some (.cells cur 5 (0, 0)) → W.cell? ⟨gm, at9 + k, none⟩ = some (.int .u8 ((bs[k]'h).toNat : Int)))
    (start : I4 N gm gw cur V2 sH bs A0 A0 W0 0) (hexit : ∀ A W, I4 N gm gw cur V2 sH bs A0 A W 16 → Q (.exit 6) A W) : Code.wp Tryd.prog (Code.loop body4) Q A0 W0 :=
  wp_loop (fun A W => ∃ i, I4 N gm gw cur V2 sH bs A0 A W i) mu4 ⟨0, start⟩ (fun A W ⟨i, h⟩ => round4 x9 x5 x8 hgm hg lbs hat hM hmb hexit A W i h)
end Go.Proofs.YtfiaefagnkmpoaaDoor
