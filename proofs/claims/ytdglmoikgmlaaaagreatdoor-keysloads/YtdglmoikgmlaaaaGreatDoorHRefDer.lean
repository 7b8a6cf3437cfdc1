/- YtdglmoikgmlaaaaGreatDoorHRefM9 + YtdglmoikgmlaaaaGreatDoorHRefN9 + YtdglmoikgmlaaaaGreatDoorHRefSum + YtdglmoikgmlaaaaGreatDoorHRefDer -/
import Derived.Test.YtdglmoikgmlaaaaGreatDoorHRefM3
import Derived.Test.YtdglmoikgmlaaaaGreatDoorHRefKey
import Derived.BigRegion
import Derived.Test.YtdglmoikgmlaaaaGreatDoorHDerive
/- The bytes of the state: loop 9 of the reference's Sum, over a frame that is a letter. -/
namespace Go.Proofs.YtdglmoikgmlaaaaGreatDoor
open Go.RowKit
set_option linter.unusedVariables false
set_option maxRecDepth 100000
theorem ev_none (a : Act) (v : Value) (x : Operand) : (a.put none v).eval x = a.eval x := by cases x <;> rfl
theorem wpList_yieldsS {ops : Array Oper} {rest : List Oper} {o : Oper} {a : Act} {w : World} {Q : Exit → Act → World → Prop} {S : World → Prop} (hg : o.guard = none) (v : Value) (hy : YieldsIf Tryz.prog ops S o v a) (hs : S w) (h : wpList Tryz.prog ops Q rest (a.put o.dst v) w) : wpList Tryz.prog ops Q (o :: rest) a w := by
  rcases hy with ⟨_, hr⟩ | ⟨hn, _⟩
  · refine wpList_plain hg fun K hK => ?_
    unfold Oper.wp
    rw [hr w hs, Oper.upon_value]
    exact hK _ _ h
  · exact absurd hn (by simp [Region.wanted, hg])
section
variable {ops : Array Oper} {S : World → Prop} {op : Oper} {a : Act}
theorem y_quo4 (hw : Region.wanted op (yielded ops a.tmps) = true) (x y : Operand) (ho : op.op = .binOp .quo 3 x y 3) (i : Nat) (hi : i < 32) (hx : a.eval x = .int .i64 (i : Int)) (hy : a.eval y = .int .i64 4) : YieldsIf Tryz.prog ops S op (.int .i64 ((i / 4 : Nat) : Int)) a := by
  refine .inl ⟨hw, fun w _ => ?_⟩
  have h1 : IntKind.i64.wrap ((i : Int).tdiv 4) = ((i / 4 : Nat) : Int) := by rw [IntKind.wrap_i64, Int.tdiv_eq_ediv_of_nonneg (by omega)]; omega
  rw [← h1]
  unfold execOp
  simp only [ho, hx, hy]
  simp [go_sem]
theorem y_rem4 (hw : Region.wanted op (yielded ops a.tmps) = true) (x y : Operand) (ho : op.op = .binOp .rem 3 x y 3) (i : Nat) (hi : i < 32) (hx : a.eval x = .int .i64 (i : Int)) (hy : a.eval y = .int .i64 4) : YieldsIf Tryz.prog ops S op (.int .i64 ((i % 4 : Nat) : Int)) a := by
  refine .inl ⟨hw, fun w _ => ?_⟩
  have h1 : (i : Int).tmod 4 = ((i % 4 : Nat) : Int) := by rw [Int.tmod_eq_emod_of_nonneg (by omega)]; omega
  rw [← h1]
  unfold execOp
  simp only [ho, hx, hy]
  simp [go_sem]
theorem y_shrI (hw : Region.wanted op (yielded ops a.tmps) = true) (x y : Operand) (ho : op.op = .binOp .shr 127 x y 3) (p : W32) (n : Nat) (hn : n < 32) (hx : a.eval x = vw p) (hy : a.eval y = .int .i64 (n : Int)) : YieldsIf Tryz.prog ops S op (vw (p >>> n)) a := by
  refine .inl ⟨hw, fun w _ => ?_⟩
  unfold execOp
  simp only [ho, hx, hy]
  simp [go_sem]
  first
    | exact (Int.shiftRight_eq_div_pow _ _).symm
    | (rw [Int.shiftRight_eq_div_pow]; norm_cast)
theorem y_byteW (hw : Region.wanted op (yielded ops a.tmps) = true) (x : Operand) (ho : op.op = .convert 127 5 x) (p : W32) (hx : a.eval x = vw p) : YieldsIf Tryz.prog ops S op (.int .u8 ((UInt8.ofNat p.toNat).toNat : Int)) a := by
  refine .inl ⟨hw, fun w hS9 => ?_⟩
  have h1 : IntKind.u8.wrap (p.toNat : Int) = ((UInt8.ofNat p.toNat).toNat : Int) := by
    rw [IntKind.wrap_u8]; simp
  rw [← h1]
  unfold execOp
  simp only [ho, hx]
  simp [go_sem]
theorem y_indexH (hw : Region.wanted op (yielded ops a.tmps) = true) (x y : Operand) (ho : op.op = .indexAddr 23 x y) (g k : Nat) (hx : a.eval x = .pointer (some ⟨g, 0, none⟩)) (hy : a.eval y = .int .i64 (k : Int)) (hk : k < 32) : YieldsIf Tryz.prog ops S op (.pointer (some ⟨g, k, none⟩)) a := by
  refine .inl ⟨hw, fun w _ => ?_⟩
  have h1 : (k : Int) < 32 := by omega
  have h0 : (0 : Int) ≤ (k : Int) := by omega
  unfold execOp
  simp only [ho, hx, hy]
  simp [go_sem, h0, h1]
end
theorem wpList_storeB {ops : Array Oper} {rest : List Oper} {o : Oper} {a : Act} {w : World} {Q : Exit → Act → World → Prop} (hg : o.guard = none) (x y : Operand) (ho : o.op = .store 5 x y) (g i : Nat) (v : UInt8) (u : Value) (hx : a.eval x = .pointer (some ⟨g, i, none⟩)) (hy : a.eval y = .int .u8 (v.toNat : Int))
    (hc : w.cell? ⟨g, i, none⟩ = some u) (hf : w.frozen? ⟨g, i, none⟩ = false) (h : wpList Tryz.prog ops Q rest (a.put o.dst undef) (w.setCell ⟨g, i, none⟩ (.int .u8 (v.toNat : Int)))) : wpList Tryz.prog ops Q (o :: rest) a w := by
  refine wpList_plain hg fun K hK => ?_
  unfold Oper.wp execOp
  simp only [ho, hx, hy]
  simp [go_sem, hc, hf]
  exact hK _ _ h
abbrev L9 : List Nat := [24, 270, 271, 272, 273, 274, 275, 276, 277, 278, 279, 280, 281, 282, 283, 284, 285, 286]
noncomputable def code43 : Code := ((Tryz.f89.body.bind (regionAt 43)).getD .skip)
theorem out43 (A : Act) (W : World) (Z : Array Value) (hz : ∀ w, (zeroValue 23).run Tryz.prog w = .ok (.agg Z) w) (sz : A.tmps.size = 288) :
    Code.wp Tryz.prog code43 (fun ex A' W' => ex = .normal ∧ ((Keep A A' [23] ∧ A'.eval (.tmp 23) = .pointer (some ⟨W.heap.size, 0, none⟩)) ∧ W' = W.alloc (.cells Z 23))) A W := by
  conv => arg 2; whnf
  refine wp_region_list ?_
  refine wpList_alloc_row rfl 23 rfl Z hz ?_
  exact wpList_nil ⟨rfl, ⟨(Keep.refl A _).put 23 _ (by decide), ev_eq _ _ (by rw [sz]; decide)⟩, rfl⟩
noncomputable def code45 : Code := ((Tryz.f89.body.bind (regionAt 45)).getD .skip)
theorem out45 (A : Act) (W : World) (r : Nat) (sz : A.tmps.size = 288) (x24 : A.eval (.tmp 24) = .int .i64 (r : Int)) :
    Code.wp Tryz.prog code45 (fun ex A' W' => ex = .normal ∧ ((Keep A A' [270, 271] ∧ A'.eval (.tmp 271) = .bool (decide ((r : Int) < 32))) ∧ W' = W)) A W := by
  conv => arg 2; whnf
  refine wp_region_list ?_
  refine wpList_yields rfl (.int .i64 (r : Int)) (yields_move (by simp [Region.wanted]) (.tmp 24) rfl _ x24) ?_
  refine wpList_yields rfl (.bool (decide ((r : Int) < 32))) (y_lss (by simp [Region.wanted]) (.tmp 270) (.const (.int .i64 32)) rfl (r : Int) 32 (ev_eq _ _ (by rw [sz]; decide)) rfl) ?_
  exact wpList_nil ⟨rfl, ⟨((Keep.refl A _).put 270 _ (by decide)).put 271 _ (by decide), ev_eq _ _ (by simp only [put_sz]; rw [sz]; decide)⟩, rfl⟩
noncomputable def code46 : Code := ((Tryz.f89.body.bind (regionAt 46)).getD .skip)
theorem out46 (A : Act) (W : World) (r : Nat) (hr : r < 64) (sz : A.tmps.size = 288) (x24 : A.eval (.tmp 24) = .int .i64 (r : Int)) :
    Code.wp Tryz.prog code46 (fun ex A' W' => ex = .normal ∧ ((Keep A A' [24, 272, 273] ∧ A'.eval (.tmp 24) = .int .i64 ((r + 1 : Nat) : Int)) ∧ W' = W)) A W := by
  conv => arg 2; whnf
  refine wp_region_list ?_
  refine wpList_yields rfl (.int .i64 (r : Int)) (yields_move (by simp [Region.wanted]) (.tmp 24) rfl _ x24) ?_
  refine wpList_yields rfl (.int .i64 ((r + 1 : Nat) : Int)) (y_addi (by simp [Region.wanted]) (.tmp 272) (.const (.int .i64 1)) rfl (r : Int) 1 _ (ev_eq _ _ (by rw [sz]; decide)) rfl (by rw [IntKind.wrap_i64]; omega)) ?_
  refine wpList_yields rfl (.int .i64 ((r + 1 : Nat) : Int)) (yh_assign (by simp [Region.wanted]) (.tmp 273) rfl _ (ev_eq _ _ (by simp only [put_sz]; rw [sz]; decide))) ?_
  exact wpList_nil ⟨rfl, ⟨(((Keep.refl A _).put 272 _ (by decide)).put 273 _ (by decide)).put 24 _ (by decide), ev_eq _ _ (by simp only [put_sz]; rw [sz]; decide)⟩, rfl⟩
noncomputable def code44 : Code := ((Tryz.f89.body.bind (regionAt 44)).getD .skip)
theorem out44 (A : Act) (W : World) (sz : A.tmps.size = 288) :
    Code.wp Tryz.prog code44 (fun ex A' W' => ex = .normal ∧ ((Keep A A' [24] ∧ A'.eval (.tmp 24) = .int .i64 ((0 : Nat) : Int)) ∧ W' = W)) A W := by
  conv => arg 2; whnf
  refine wp_region_list ?_
  refine wpList_yields rfl (.int .i64 ((0 : Nat) : Int)) (yh_assign (by simp [Region.wanted]) (.const (.int .i64 0)) rfl _ rfl) ?_
  exact wpList_nil ⟨rfl, ⟨(Keep.refl A _).put 24 _ (by decide), ev_eq _ _ (by rw [sz]; decide)⟩, rfl⟩
noncomputable def code47 : Code := ((Tryz.f89.body.bind (regionAt 47)).getD .skip)
theorem out47 (A : Act) (W : World) (N go i : Nat) (p : W32) (u : Value) (hi : i < 32) (sz : A.tmps.size = 288) (x24 : A.eval (.tmp 24) = .int .i64 (i : Int)) (x3 : A.eval (.tmp 3) = .slice (some ⟨N + 1, 0, none⟩) 8 8) (x23 : A.eval (.tmp 23) = .pointer (some ⟨go, 0, none⟩))
    (hp : W.cell? ⟨N + 1, i / 4, none⟩ = some (vw p)) (hu : W.cell? ⟨go, i, none⟩ = some u) (hf : W.frozen? ⟨go, i, none⟩ = false) :
    Code.wp Tryz.prog code47 (fun ex A' W' => ex = .normal ∧ (Keep A A' L9 ∧ A'.eval (.tmp 24) = .int .i64 (i : Int) ∧ W' = W.setCell ⟨go, i, none⟩ (.int .u8 ((UInt8.ofNat (p >>> (24 - 8 * (i % 4))).toNat).toNat : Int)))) A W := by
  conv => arg 2; whnf
  refine wp_region_list ?_
  refine wpList_yields rfl (.int .i64 (i : Int)) (yields_move (by simp [Region.wanted]) (.tmp 24) rfl _ x24) ?_
  refine wpList_yields rfl (.slice (some ⟨N + 1, 0, none⟩) 8 8) (yields_move (by simp [Region.wanted]) (.tmp 3) rfl _ ((ev_ne _ _ (by decide)).trans (x3))) ?_
  refine wpList_yields rfl (.int .i64 (i : Int)) (yields_move (by simp [Region.wanted]) (.tmp 24) rfl _ ((ev_ne _ _ (by decide)).trans ((ev_ne _ _ (by decide)).trans (x24)))) ?_
  refine wpList_yields rfl (.int .i64 ((i / 4 : Nat) : Int)) (y_quo4 (by simp [Region.wanted]) (.tmp 276) (.const (.int .i64 4)) rfl i hi (ev_eq _ _ (by (try simp only [put_sz]); rw [sz]; decide)) rfl) ?_
  refine wpList_yields rfl (.pointer (some ⟨N + 1, i / 4, none⟩)) (y_index (by simp [Region.wanted]) (.tmp 275) (.tmp 277) rfl (N + 1) 8 8 (i / 4) ((ev_ne _ _ (by decide)).trans ((ev_ne _ _ (by decide)).trans (ev_eq _ _ (by (try simp only [put_sz]); rw [sz]; decide)))) (ev_eq _ _ (by (try simp only [put_sz]); rw [sz]; decide)) (by omega)) ?_
  refine wpList_yieldsS (S := fun x => x.cell? ⟨N + 1, i / 4, none⟩ = some (vw p)) rfl (vw p) (y_load (by simp [Region.wanted]) (.tmp 278) rfl (N + 1) (i / 4) p (ev_eq _ _ (by (try simp only [put_sz]); rw [sz]; decide)) (fun w h => h)) hp ?_
  refine wpList_yields rfl (.int .i64 (i : Int)) (yields_move (by simp [Region.wanted]) (.tmp 24) rfl _ ((ev_ne _ _ (by decide)).trans ((ev_ne _ _ (by decide)).trans ((ev_ne _ _ (by decide)).trans ((ev_ne _ _ (by decide)).trans ((ev_ne _ _ (by decide)).trans ((ev_ne _ _ (by decide)).trans (x24)))))))) ?_
  refine wpList_yields rfl (.int .i64 ((i % 4 : Nat) : Int)) (y_rem4 (by simp [Region.wanted]) (.tmp 280) (.const (.int .i64 4)) rfl i hi (ev_eq _ _ (by (try simp only [put_sz]); rw [sz]; decide)) rfl) ?_
  refine wpList_yields rfl (.int .i64 ((8 * (i % 4) : Nat) : Int)) (y_muli (by simp [Region.wanted]) (.const (.int .i64 8)) (.tmp 281) rfl 8 ((i % 4 : Nat) : Int) _ rfl (ev_eq _ _ (by (try simp only [put_sz]); rw [sz]; decide)) (by rw [IntKind.wrap_i64]; omega)) ?_
  refine wpList_yields rfl (.int .i64 ((24 - 8 * (i % 4) : Nat) : Int)) (y_subi (by simp [Region.wanted]) (.const (.int .i64 24)) (.tmp 282) rfl 24 ((8 * (i % 4) : Nat) : Int) _ rfl (ev_eq _ _ (by (try simp only [put_sz]); rw [sz]; decide)) (by rw [IntKind.wrap_i64]; omega)) ?_
  refine wpList_yields rfl (vw (p >>> (24 - 8 * (i % 4)))) (y_shrI (by simp [Region.wanted]) (.tmp 279) (.tmp 283) rfl p (24 - 8 * (i % 4)) (by omega) ((ev_ne _ _ (by decide)).trans ((ev_ne _ _ (by decide)).trans ((ev_ne _ _ (by decide)).trans ((ev_ne _ _ (by decide)).trans (ev_eq _ _ (by (try simp only [put_sz]); rw [sz]; decide)))))) (ev_eq _ _ (by (try simp only [put_sz]); rw [sz]; decide))) ?_
  refine wpList_yields rfl (.int .u8 ((UInt8.ofNat (p >>> (24 - 8 * (i % 4))).toNat).toNat : Int)) (y_byteW (by simp [Region.wanted]) (.tmp 284) rfl _ (ev_eq _ _ (by (try simp only [put_sz]); rw [sz]; decide))) ?_
  refine wpList_yields rfl (.pointer (some ⟨go, i, none⟩)) (y_indexH (by simp [Region.wanted]) (.tmp 23) (.tmp 274) rfl go i ((ev_ne _ _ (by decide)).trans ((ev_ne _ _ (by decide)).trans ((ev_ne _ _ (by decide)).trans ((ev_ne _ _ (by decide)).trans ((ev_ne _ _ (by decide)).trans ((ev_ne _ _ (by decide)).trans ((ev_ne _ _ (by decide)).trans ((ev_ne _ _ (by decide)).trans ((ev_ne _ _ (by decide)).trans ((ev_ne _ _ (by decide)).trans ((ev_ne _ _ (by decide)).trans ((ev_ne _ _ (by decide)).trans (x23))))))))))))) ((ev_ne _ _ (by decide)).trans ((ev_ne _ _ (by decide)).trans ((ev_ne _ _ (by decide)).trans ((ev_ne _ _ (by decide)).trans ((ev_ne _ _ (by decide)).trans ((ev_ne _ _ (by decide)).trans ((ev_ne _ _ (by decide)).trans ((ev_ne _ _ (by decide)).trans ((ev_ne _ _ (by decide)).trans ((ev_ne _ _ (by decide)).trans ((ev_ne _ _ (by decide)).trans (ev_eq _ _ (by (try simp only [put_sz]); rw [sz]; decide))))))))))))) hi) ?_
  refine wpList_storeB rfl (.tmp 286) (.tmp 285) rfl go i (UInt8.ofNat (p >>> (24 - 8 * (i % 4))).toNat) u (ev_eq _ _ (by (try simp only [put_sz]); rw [sz]; decide)) ((ev_ne _ _ (by decide)).trans (ev_eq _ _ (by (try simp only [put_sz]); rw [sz]; decide))) hu hf ?_
  refine wpList_nil ⟨rfl, ?_, ?_, rfl⟩
  · exact ((((((((((((((Keep.refl A _).put 274 _ (by decide)).put 275 _ (by decide)).put 276 _ (by decide)).put 277 _ (by decide)).put 278 _ (by decide)).put 279 _ (by decide)).put 280 _ (by decide)).put 281 _ (by decide)).put 282 _ (by decide)).put 283 _ (by decide)).put 284 _ (by decide)).put 285 _ (by decide)).put 286 _ (by decide)).putn _
  · exact (ev_none _ _ _).trans ((ev_ne _ _ (by decide)).trans ((ev_ne _ _ (by decide)).trans ((ev_ne _ _ (by decide)).trans ((ev_ne _ _ (by decide)).trans ((ev_ne _ _ (by decide)).trans ((ev_ne _ _ (by decide)).trans ((ev_ne _ _ (by decide)).trans ((ev_ne _ _ (by decide)).trans ((ev_ne _ _ (by decide)).trans ((ev_ne _ _ (by decide)).trans ((ev_ne _ _ (by decide)).trans ((ev_ne _ _ (by decide)).trans ((ev_ne _ _ (by decide)).trans (x24))))))))))))))
end Go.Proofs.YtdglmoikgmlaaaaGreatDoor
/- The bytes of the state, and the end of the reference's Sum, over a frame that is a letter. -/
namespace Go.Proofs.YtdglmoikgmlaaaaGreatDoor
open Go.RowKit
set_option linter.unusedVariables false
set_option maxRecDepth 100000
noncomputable def body9 : Code := ((Tryz.f89.body.bind (loopAt 47)).getD .skip)
structure I9 (N go : Nat) (s : S8) (Z : Array Value) (w : World) (A0 A : Act) (W : World) (i : Nat) : Prop where
  sz : A.tmps.size = 288
  k : Keep A0 A L9
  le : i ≤ 32
  ix : A.eval (.tmp 24) = .int .i64 (i : Int)
  o : W.heap[go]? = some (.cells (bvs (outAt s i)) 23 (0, 0))
  h : W.heap[N + 1]? = some (.cells s.vals 127 (0, 0))
  r : W.heap[N]? = some (.cells Z 23 (0, 0))
  b : Below N w W
def mu9 (A : Act) (_ : World) : Nat := 32 - (intOf (A.eval (.tmp 24))).toNat
set_option maxHeartbeats 400000 in
theorem round9 {Q : Exit → Act → World → Prop} {N go : Nat} {s : S8} {Z : Array Value} {w : World} {A0 : Act} (x3 : A0.eval (.tmp 3) = .slice (some ⟨N + 1, 0, none⟩) 8 8) (x23 : A0.eval (.tmp 23) = .pointer (some ⟨go, 0, none⟩)) (hg : N + 1 < go)
    (hexit : ∀ A W, I9 N go s Z w A0 A W 32 → Q (.exit 16) A W) (A : Act) (W : World) (i : Nat) (I : I9 N go s Z w A0 A W i) :
    Code.wp Tryz.prog body9 (Exit.then (fun A' W' => (∃ i', I9 N go s Z w A0 A' W' i') ∧ mu9 A' W' < mu9 A W) Q) A W := by
  conv => arg 2; whnf
  refine wp_seq ?_
  refine wp_seq ?_
  refine wp_split _ (out45 A W i I.sz I.ix) ?_
  rintro A1 W1 ⟨⟨k1, c1⟩, hW1⟩
  show Code.wp _ _ _ A1 W1
  have K1 : Keep A A1 L9 := k1.mono (by decide)
  have sz1 : A1.tmps.size = 288 := K1.sz.trans I.sz
  have y24 : A1.eval (.tmp 24) = .int .i64 (i : Int) := (k1.keep 24 (by decide)).trans I.ix
  by_cases hlt : i < 32
  · refine wp_cond_true (by rw [c1, decide_eq_true (by omega)]) ?_
    refine wp_skip ?_
    show Code.wp _ _ _ A1 W1
    refine wp_seq ?_
    refine wp_block ?_
    have y3 := (K1.keep 3 (by decide)).trans ((I.k.keep 3 (by decide)).trans x3)
    have y23 := (K1.keep 23 (by decide)).trans ((I.k.keep 23 (by decide)).trans x23)
    have h4 : i / 4 < 8 := by omega
    have hp : W1.cell? ⟨N + 1, i / 4, none⟩ = some (vw (s.toL[i / 4]'h4)) := by rw [hW1, cell_of_row _ _ _ _ _ _ I.h, vals_get _ _ h4]
    have ho1 : W1.heap[go]? = some (.cells (bvs (outAt s i)) 23 (0, 0)) := by rw [hW1]; exact I.o
    have hol : i < (outAt s i).length := by rw [outAt_length _ _ I.le]; exact hlt
    have hu : W1.cell? ⟨go, i, none⟩ = some (.int .u8 (((outAt s i)[i]'hol).toNat : Int)) := by rw [cell_of_row _ _ _ _ _ _ ho1, bvs_get _ _ hol]
    refine wp_split _ (out47 A1 W1 N go i _ _ hlt sz1 y24 y3 y23 hp hu (frozen_of_row _ _ i _ _ ho1)) ?_
    rintro A2 W2 ⟨K2, c2, hW2⟩
    show Code.wp _ _ _ A2 W2
    refine wp_split _ (out46 A2 W2 i (by omega) (K2.sz.trans sz1) c2) ?_
    rintro A3 W3 ⟨⟨k3, c3⟩, hW3⟩
    show (∃ i', I9 N go s Z w A0 A3 W3 i') ∧ mu9 A3 W3 < mu9 A W
    have K3 : Keep A2 A3 L9 := k3.mono (by decide)
    refine ⟨⟨i + 1, ⟨K3.sz.trans (K2.sz.trans sz1), I.k.trans (K1.trans (K2.trans K3)), by omega, c3, ?_, ?_, ?_, ?_⟩⟩, ?_⟩
    · rw [hW3, hW2, heap_setCell_same _ _ _ _ _ _ ho1, bvs_set]
      have e := outAt_set s (i / 4) (i % 4) h4 (by omega)
      rw [show 4 * (i / 4) + i % 4 = i by omega] at e
      rw [BitVec.toNat_ushiftRight, Nat.shiftRight_eq_div_pow, e]
    · rw [hW3, hW2, heap_setCell_other _ _ _ _ (show N + 1 ≠ go by omega), hW1]; exact I.h
    · rw [hW3, hW2, heap_setCell_other _ _ _ _ (show N ≠ go by omega), hW1]; exact I.r
    · rw [hW3, hW2, hW1]; exact I.b.setCell (p := ⟨go, i, none⟩) (show N ≤ go by omega) _
    · unfold mu9
      rw [c3, I.ix]
      simp only [intOf]
      omega
  · refine wp_cond_false (by rw [c1, decide_eq_false (by omega)]) ?_
    refine wp_exit ?_
    show Q (.exit 16) A1 W1
    have hr : i = 32 := by have := I.le; omega
    subst hr
    exact hexit A1 W1 ⟨sz1, I.k.trans K1, Nat.le_refl _, y24, by rw [hW1]; exact I.o, by rw [hW1]; exact I.h, by rw [hW1]; exact I.r, by rw [hW1]; exact I.b⟩
theorem loop9 {Q : Exit → Act → World → Prop} {N go : Nat} {s : S8} {Z : Array Value} {w : World} {A0 : Act} {W0 : World} (x3 : A0.eval (.tmp 3) = .slice (some ⟨N + 1, 0, none⟩) 8 8) (x23 : A0.eval (.tmp 23) = .pointer (some ⟨go, 0, none⟩)) (hg : N + 1 < go)
    (start : I9 N go s Z w A0 A0 W0 0) (hexit : ∀ A W, I9 N go s Z w A0 A W 32 → Q (.exit 16) A W) : Code.wp Tryz.prog (Code.loop body9) Q A0 W0 :=
  wp_loop (fun A W => ∃ i, I9 N go s Z w A0 A W i) mu9 ⟨0, start⟩ (fun A W ⟨i, h⟩ => round9 x3 x23 hg hexit A W i h)
noncomputable def code48 : Code := ((Tryz.f89.body.bind (regionAt 48)).getD .skip)
theorem out48 (A : Act) (W : World) (N go : Nat) (l : List UInt8) (hl : l.length = 32) (Z : Array Value) (hZ : Z.size = 32) (sz : A.tmps.size = 288) (x2 : A.eval (.tmp 2) = .pointer (some ⟨N, 0, none⟩)) (x23 : A.eval (.tmp 23) = .pointer (some ⟨go, 0, none⟩))
    (ho : W.heap[go]? = some (.cells (bvs l) 23 (0, 0))) (hr : W.heap[N]? = some (.cells Z 23 (0, 0))) (hi : (Tryz.prog.info? 23).map (·.size) = some 32) :
    Code.wp Tryz.prog code48 (fun ex A' W' => ex = .normal ∧ (Keep A A' [287] ∧ W' = W.setRow N (bvs l))) A W := by
  have hi' : (Tryz.prog.info? 23).map (·.size) = some (bvs l).size := by rw [bvs_size, hl]; exact hi
  conv => arg 2; whnf
  refine wp_region_list ?_
  refine wpList_load_row rfl 23 (.tmp 23) rfl go x23 _ _ _ _ ho Tryz.underlying23 rfl hi' ?_
  refine wpList_store_row rfl 23 (.tmp 2) (.tmp 287) rfl N (bvs l) ((ev_ne _ _ (by decide)).trans x2) (ev_eq _ _ (by rw [sz]; decide)) 23 Z hr hi' (by rw [hZ, bvs_size, hl]) (bvs_one l) ?_
  exact wpList_nil ⟨rfl, ((Keep.refl A _).put 287 _ (by decide)).putn _, rfl⟩
end Go.Proofs.YtdglmoikgmlaaaaGreatDoor
/- The reference's SHA-256: holdfastref07.Sum. -/
namespace Go.Proofs.YtdglmoikgmlaaaaGreatDoor
open Go.RowKit
set_option linter.unusedVariables false
set_option maxRecDepth 100000
set_option maxHeartbeats 8000000 in
theorem refSum_any {w : World} (l : List UInt8) (a : Option Addr) (n cap : Nat) (hn : n = l.length) (hB : Bytes w a l) (hc : a = none → cap = 0) (hl : l.length ≤ 140737488355000) (hcap : l.length ≤ cap) :
    Calls Tryz.prog 89 #[.slice a n cap] w fun e w' => ∃ O, e = .returned (.agg O) ∧ Hid (HV O (sha l)) ∧ Below w.heap.size w w' := by
  obtain ⟨Z, hZ⟩ : ∃ Z, Z = bvs (List.replicate 32 0) := ⟨_, rfl⟩
  have zh := (zero_of_info zero_hash).1
  rw [← hZ] at zh
  have hz : Hid (HV Z (List.replicate 32 0)) := by
    show HV _ _
    rw [hZ]; exact hv_zero
  have zh := hid zh
  have HB := hid hB
  have Hn := hid hn
  have Hc := hid hc
  clear hZ hB hn hc
  go_enter Tryz.func89, Tryz.ntmps89
  go_wp2_with (with_reducible show Go.wpList _ _ _ _ _ _; refine wpList_alloc_row rfl 23 rfl Z zh.out ?_)
  refine (constants_any _).mono ?_
  rintro _ w1 ⟨rfl, hw1⟩
  have R0 : Hid (w1.heap[w.heap.size]? = some (.cells Z 23 (0, 0))) := by
    show _ = _
    rw [hw1]; exact alloc3_0 _ _ _ _
  have H0 : Hid (w1.heap[w.heap.size + 1]? = some (.cells init.vals 127 (0, 0))) := by
    show _ = _
    rw [hw1]; exact alloc3_1 _ _ _ _
  have K0 : Hid (w1.heap[w.heap.size + 1 + 1]? = some (.cells kcells 127 (0, 0))) := by
    show _ = _
    rw [hw1]; exact alloc3_2 _ _ _ _
  have B0 : Hid (Below w.heap.size w w1) := by
    show Below _ _ _
    rw [hw1]; exact (((Below.refl _ w).alloc (Nat.le_refl _) _).alloc (by simp) _).alloc (by simp; omega) _
  have S0 : Hid (w1.heap.size = w.heap.size + 3) := by
    show _ = _
    rw [hw1]; simp
  clear hw1
  go_wp2_with (at_builtin; first
    | (refine app_src _ rfl (.tmp 27) (.tmp 28) rfl (w.heap.size + 3) _ [] rfl (World.ownsRow_nil _ _ _ _) a n cap l Hn.out rfl (HB.out.below B0.out) Hc.out (by simp; omega) (Nat.le_of_eq S0.out.symm) ?_; intro v2 w2 ho2 hb2; have Ho2 := hid ho2; have Hb2 := hid hb2; have S2 : Hid (w.heap.size + 3 ≤ w2.heap.size) := (by have := hb2.size; have := S0.out; show _ ≤ _; omega); clear ho2 hb2)
    | (refine app_lits _ rfl (.tmp 29) (.tmp 30) rfl (w.heap.size + 3) _ l rfl (by have h := Ho2.out; rwa [List.nil_append] at h) [128] 1 rfl rfl (by omega) S2.out ?_; intro v3 w3 ho3 hb3 hv3; have Ho3 := hid ho3; have Hb3 := hid hb3; clear ho3 hb3 hv3))
  have B3 : Hid (Below (w.heap.size + 3) w1 w3) := Hb2.out.trans Hb3.out
  have nl : noughts l.length < 64 := by unfold noughts; omega
  obtain ⟨nz, hnz⟩ : ∃ nz, nz = noughts l.length := ⟨_, rfl⟩
  have Hnz := hid hnz
  have dnz : nz = (64 - (l.length + 1 + 8) % 64) % 64 := by rw [hnz]; rfl
  rw [← hnz] at nl
  clear Hb2 Hb3 Ho2 S2 HB hnz
  have Dnz := hid dnz
  clear dnz
  go_loopw [5] (fun v5 wr => ∃ k : Nat, k ≤ nz ∧ wr.ownsRow (w.heap.size + 3) 5 1 v5 (zpad l k).length (cellsOf (zpad l k)) ∧ Below (w.heap.size + 3) w1 wr) (fun v5 _ => 200 + l.length - (match v5 with | .slice _ n _ => n | _ => 0))
  case atStart => exact ⟨0, Nat.zero_le _, Ho3.out, B3.out⟩
  case round =>
    clear Ho3 B3
    obtain ⟨k, hk, hown, hbel⟩ := hrel
    have Hown := hid hown
    have Hbel := hid hbel
    obtain ⟨a5, c5, rfl, hB5, hc5⟩ := bytes_of_own hown
    have Hbig : Hid (w.heap.size + 3 ≤ wr.heap.size) := (by have := hbel.size; have := S0.out; show _ ≤ _; omega)
    clear hbel hown
    obtain ⟨N5, hN5⟩ : ∃ N5, N5 = (zpad l k).length := ⟨_, rfl⟩
    have hN5' : N5 = l.length + 1 + k := by rw [hN5, zpad_length]
    have Hown2 : Hid (wr.ownsRow (w.heap.size + 3) 5 1 (.slice a5 N5 c5) (zpad l k).length (cellsOf (zpad l k))) := (by show World.ownsRow _ _ _ _ _ _ _; rw [hN5]; exact Hown.out)
    rw [← hN5] at Hown hc5 ⊢
    have q1 : (N5 : Int).tmod 64 = ((N5 % 64 : Nat) : Int) := by rw [Int.tmod_eq_emod_of_nonneg (by omega)]; omega
    have HN5 := hid hN5
    by_cases hex : N5 % 64 = 56
    rotate_left
    · have q2 : (((N5 % 64 : Nat) : Int) != 56) = true := by rw [bne_iff_ne]; omega
      have hlt : k < nz := by have := Dnz.out; omega
      have hN5b : N5 ≤ 140737488355200 := by omega
      have Hst := hid (zpad_step l k)
      have HL : Hid ((zpad l k).length = N5) := HN5.out.symm
      have Hfin : Hid (N5 < 200 + l.length) := (by show _ < _; omega)
      clear hN5 hN5' hex hB5
      go_wp2_with (at_builtin; refine app_lits _ rfl (.tmp 36) (.tmp 37) rfl (w.heap.size + 3) _ (zpad l k) rfl Hown2.out [0] 1 rfl rfl (by have := HL.out; omega) Hbig.out ?_; intro v' w' hown' hb' hv'; have Hown' := hid hown'; have Hb' := hid hb'; clear hown' hb' hv')
      go_roundw
      case rel => exact ⟨k + 1, by omega, by rw [← Hst.out]; exact Hown'.out, Hbel.out.trans Hb'.out⟩
      case measure =>
        obtain ⟨a6, c6, e6, _, _⟩ := bytes_of_own Hown'.out
        rw [e6]
        have := HL.out
        have := Hfin.out
        simp
        omega
    · have q2 : (((N5 % 64 : Nat) : Int) != 56) = false := by rw [bne_eq_false_iff_eq]; omega
      have q2' : ((N5 : Int) % 64 != 56) = false := by rw [bne_eq_false_iff_eq]; omega
      have hkz : k = nz := by have := Dnz.out; omega
      have Hm0 : Hid (wr.ownsRow (w.heap.size + 3) 5 1 (.slice a5 N5 c5) (mAt l 0).length (cellsOf (mAt l 0))) := by
        have h := Hown.out
        have e : mAt l 0 = zpad l k := by rw [hkz, Hnz.out]; simp [mAt]
        rw [e, ← HN5.out]
        exact h
      have Hn2 : Hid (IntKind.u64.wrap (n : Int) = (l.length : Int)) := (by have := Hn.out; show _ = _; rw [IntKind.wrap_u64]; omega)
      have q3 := Hn2.out
      have q4 : IntKind.u64.wrap ((l.length : Int) * 8) = (l.length : Int) * 8 := by rw [IntKind.wrap_u64]; omega
      obtain ⟨V, hV⟩ : ∃ V, V = wr := ⟨_, rfl⟩
      rw [← hV] at Hm0 Hbig Hbel ⊢
      clear hV hkz hN5 hN5' hex hB5 Hown q1 hk
      go_wp2_with fail
      clear q2 q2'
      go_loopw [5, 7] (fun v5 v7 wr => ∃ k : Nat, k ≤ 8 ∧ v7 = .int .i64 k ∧ wr.ownsRow (w.heap.size + 3) 5 1 v5 (mAt l k).length (cellsOf (mAt l k)) ∧ Below (w.heap.size + 3) w1 wr) (fun _ v7 _ => 8 - (intOf v7).toNat)
      case atStart => exact ⟨0, Nat.zero_le _, rfl, Hm0.out, Hbel.out⟩
      case round =>
        clear Hm0 Hbel Hbig
        obtain ⟨k, hk, rfl, hown, hbel⟩ := hrel
        have Hown := hid hown
        have Hbel := hid hbel
        have Hbig : Hid (w.heap.size + 3 ≤ wr.heap.size) := (by have := hbel.size; have := S0.out; show _ ≤ _; omega)
        clear hown hbel
        by_cases hlt : k < 8
        · have r0 : (0 : Int) ≤ 56 - 8 * (k : Int) := by omega
          have r1 : (56 : Int) - 8 * (k : Int) ≤ 64 := by omega
          have Hst := hid (mAt_step l k hlt)
          obtain ⟨b, hb8⟩ : ∃ b, b = UInt8.ofNat (l.length * 8 / 2 ^ (56 - 8 * k)) := ⟨_, rfl⟩
          have r5 : (l.length : Int) * 8 / 2 ^ (56 - 8 * k) % 256 = (b.toNat : Int) := by
            have h := byte_of (l.length * 8 / 2 ^ (56 - 8 * k))
            rw [← hb8, IntKind.wrap_u8] at h
            rw [← h]
            simp
          rw [← hb8] at Hst
          have Hlen := hid (mAt_length l k)
          clear hb8 q3 q4
          go_wp2_with (at_builtin; refine app_lits _ rfl (.tmp 47) (.tmp 54) rfl (w.heap.size + 3) _ (mAt l k) rfl Hown.out [b] 1 rfl rfl (by have := Hlen.out; omega) Hbig.out ?_; intro v' w' hown' hb' hv'; have Hown' := hid hown'; have Hb' := hid hb'; clear hown' hb' hv')
          go_roundw
          case rel =>
            exact ⟨k + 1, by omega, by go_num, by rw [← Hst.out]; exact Hown'.out, Hbel.out.trans Hb'.out⟩
          case measure => simp [intOf]; omega
        · have hk8 : k = 8 := by omega
          have Hend : Hid (wr.ownsRow (w.heap.size + 3) 5 1 u5 (l ++ pad l.length).length (cellsOf (l ++ pad l.length))) := by
            have h := Hown.out
            rw [hk8, mAt_all] at h
            exact h
          have hpos : 0 < (l ++ pad l.length).length := by rw [List.length_append, pad_length]; omega
          obtain ⟨gm, cm, cur, rfl, hgm, hcur, hcm, _, _, hcut⟩ : ∃ gm cm cur, u5 = .slice (some ⟨gm, 0, none⟩) (l ++ pad l.length).length cm ∧ w.heap.size + 3 ≤ gm ∧ wr.heap[gm]? = some (.cells cur 5 (0, 0)) ∧ (l ++ pad l.length).length ≤ cm ∧ cm ≤ maxLen ∧ cur.size = cm * 1 ∧ cur.toList.take ((l ++ pad l.length).length * 1) = cellsOf (l ++ pad l.length) := by
            rcases Hend.out.2 with ⟨_, h0⟩ | ⟨g, cap, cur, h1, h2, h3, h4, h5, h6, h7⟩
            · omega
            · exact ⟨g, cap, cur, h1, h2, h3, h4, h5, h6, h7⟩
          have Hcur := hid hcur
          have Hcut := hid hcut
          clear hcut
          have hM0 : (l ++ pad l.length).length % 64 = 0 := by rw [List.length_append]; exact pad_whole _
          have hM1 : (l ++ pad l.length).length ≤ 140737488355200 := by
            rw [List.length_append, pad_length]
            have : noughts l.length < 64 := by unfold noughts; omega
            omega
          have Hsha : Hid (sha l = outB (blks init (l ++ pad l.length))) := rfl
          obtain ⟨m, hm⟩ : ∃ m, m = l ++ pad l.length := ⟨_, rfl⟩
          rw [← hm] at Hcut hM0 hM1 Hsha hcm hpos ⊢
          obtain ⟨M, hM⟩ : ∃ M, M = m.length := ⟨_, rfl⟩
          rw [← hM] at Hcut hM0 hM1 hcm hpos ⊢
          rw [Nat.mul_one] at Hcut
          have HM := hid hM
          have HM0 := hid hM0
          obtain ⟨V2, hV2⟩ : ∃ V2, V2 = wr := ⟨_, rfl⟩
          rw [← hV2] at Hcur hcur Hbig Hbel ⊢
          have HR : Hid (V2.heap[w.heap.size]? = some (.cells Z 23 (0, 0))) := (Hbel.out.block _ (by omega)).trans R0.out
          have HKk : Hid (V2.heap[w.heap.size + 1 + 1]? = some (.cells kcells 127 (0, 0))) := (Hbel.out.block _ (by omega)).trans K0.out
          have HV2 : Hid (Below w.heap.size w V2) := B0.out.trans (Hbel.out.mono (by omega))
          have BL0 : Hid (BL w.heap.size gm cur V2 V2 (blks init (m.take (64 * 0)))) := ⟨(by rw [Nat.mul_zero, List.take_zero]; exact (Hbel.out.block _ (by omega)).trans H0.out), HKk.out, hcur, Below.refl _ _⟩
          have Hmb : Hid (∀ (W : World) (i : Nat) (hi : i < m.length), W.heap[gm]? = some (.cells cur 5 (0, 0)) → W.cell? ⟨gm, i, none⟩ = some (.int .u8 (m[i].toNat : Int))) := fun W i hi hW => by
            rw [cell_of_row _ _ _ _ _ _ hW]
            have h1 := congrArg (fun l : List Value => l[i]?) Hcut.out
            simp only [List.getElem?_take_of_lt (show i < M by rw [hM]; exact hi)] at h1
            rw [← Array.getElem?_toList, h1, cellsOf_get m i hi]
          clear hV2 hm hM Hend Hown hk8 hk R0 H0 K0 B0 Hbel q3 q4 hM0 hcur Hcur Hcut HKk
          go_wp2_with fail
          clear hlt
          refine loop3 (N := w.heap.size) (gm := gm) (M := M) (cm := cm) (cur := cur) (V2 := V2) (m := m) HM.out HM0.out hM1 (by omega) Hmb.out ⟨⟨rfl, rfl, rfl, rfl, rfl, rfl⟩, Nat.zero_le _, rfl, BL0.out⟩ ?_
          rename_i K9 hK9
          intro A3 W3 j3 I3 hj3
          show K9 A3 W3
          refine hK9 _ _ ?_
          clear hK9
          have F3 := I3.f
          have hb3 := I3.bl
          have hsm : blks init (m.take (64 * j3)) = blks init m := by rw [hj3, HM.out, List.take_length]
          rw [hsm] at hb3
          have x2 : A3.eval (.tmp 2) = .pointer (some ⟨w.heap.size, 0, none⟩) := F3.x2
          have d3 : A3.defers = [] := F3.df
          have r3 : W3.heap[w.heap.size]? = some (.cells Z 23 (0, 0)) := (hb3.bel.block _ (by omega)).trans HR.out
          have b3 : Below w.heap.size w W3 := HV2.out.trans (hb3.bel.mono (by omega))
          have s3 : w.heap.size + 1 < W3.heap.size := heap_lt hb3.h
          refine wp_seq ?_
          refine wp_split _ (out43 A3 W3 Z zh.out F3.sz) ?_
          rintro A4 W4 ⟨⟨k4, c4⟩, hW4⟩
          show Code.wp _ _ _ A4 W4
          have bb : Below W3.heap.size W3 W4 := by rw [hW4]; exact (Below.refl _ _).alloc (Nat.le_refl _) _
          have F4 := F3.keep k4 (by decide)
          refine wp_seq ?_
          refine wp_seq ?_
          refine wp_split _ (out44 A4 W4 F4.sz) ?_
          rintro A5 W5 ⟨⟨k5, c5'⟩, hW5⟩
          show Code.wp _ _ _ A5 W5
          have F5 := F4.keep k5 (by decide)
          have x23 := (k5.keep 23 (by decide)).trans c4
          refine wp_block ?_
          refine loop9 (N := w.heap.size) (s := blks init m) (Z := Z) (w := w) F5.x3 x23 s3 ⟨F5.sz, Keep.refl _ _, Nat.zero_le _, c5', ?_, ?_, ?_, ?_⟩ ?_
          · rw [hW5, hW4, outAt_zero, ← hz.out.eq]; exact heap_alloc_new W3 _
          · rw [hW5]; exact (bb.block _ s3).trans hb3.h
          · rw [hW5]; exact (bb.block _ (by omega)).trans r3
          · rw [hW5]; exact b3.trans (bb.mono (by omega))
          intro A6 W6 I6
          show Code.wp _ _ _ A6 W6
          have x23_6 := (I6.k.keep 23 (by decide)).trans x23
          have x2_6 := (I6.k.keep 2 (by decide)).trans ((k5.keep 2 (by decide)).trans ((k4.keep 2 (by decide)).trans x2))
          have hO6 := I6.o
          rw [outAt_all] at hO6
          refine wp_seq ?_
          refine wp_split _ (out48 A6 W6 w.heap.size W3.heap.size (outB (blks init m)) (outB_length _) Z hz.out.size I6.sz x2_6 x23_6 hO6 I6.r size_hash) ?_
          rintro A7 W7 ⟨k7, hW7⟩
          show Code.wp _ _ _ A7 W7
          refine wp_ret ?_
          have x2_7 := (k7.keep 2 (by decide)).trans x2_6
          have d7 : A7.defers = [] := k7.df.trans (I6.k.df.trans (k5.df.trans (k4.df.trans d3)))
          show bodyPost _ _ _ _ _ _
          refine bodyPost_ret (results_cell_row rfl _ _ w.heap.size 23 (bvs (outB (blks init m))) (0, 0) _ (by simpa [Act.eval] using x2_7) (by rw [hW7]; exact setRow_heap _ _ _ _ _ _ I6.r) Tryz.underlying23 rfl (by rw [bvs_size, outB_length]; exact size_hash)) d7 ⟨_, rfl, ?_, ?_⟩
          · show HV _ _
            rw [Hsha.out]
            exact ⟨rfl, outB_length _⟩
          · rw [hW7]; exact I6.b.setRow (Nat.le_refl _) _
theorem sumOk : SumOk := fun w l a n cap hn hB hc hl hcap => refSum_any l a n cap hn hB hc hl hcap
end Go.Proofs.YtdglmoikgmlaaaaGreatDoor
/- Keys below a key, and links of a chain, as the reference has them. -/
namespace Go.Proofs.YtdglmoikgmlaaaaGreatDoor
open Go.RowKit
set_option linter.unusedVariables false
set_option maxRecDepth 20000
set_option maxHeartbeats 1000000 in
theorem refDerive_any {w : World} {K : Array Value} {key : List UInt8} (hK : HV K key) (l : List ByteArray) (a : Option Addr) (n cap : Nat) (hn : n = l.length) (hX : Texts w a l) (hsz : ∀ s ∈ l, s.size ≤ 140737488351232) (hlen : l.length ≤ 140737488351232) (hT : True) :
    Calls Tryz.prog 51 #[.agg K, .slice a n cap] w (HashErr w (derRes key l) (keyErr l : Int)) := by
  obtain ⟨Z, hZ⟩ : ∃ Z, Z = bvs (List.replicate 32 0) := ⟨_, rfl⟩
  have zh := (zero_of_info zero_hash).1
  have bh := built_hash
  rw [← hZ] at zh bh
  have hz : Hid (HV Z (List.replicate 32 0)) := by
    show HV _ _
    rw [hZ]; exact hv_zero
  have zh := hid zh
  have bh := hid bh
  have HK := hid hK
  have HX := hid hX
  have HT := hid hT
  have Hsz := hid hsz
  have hinf : (Tryz.prog.info? 23).map (·.size) = some K.size := hK.info
  obtain ⟨W0, hW0⟩ : ∃ W0, W0 = (w.alloc (.cells K 23)).alloc (.cells Z 23) := ⟨_, rfl⟩
  have b0 : Hid (Below w.heap.size w W0) := by
    show Below _ _ _
    rw [hW0]; exact ((Below.refl _ w).alloc (Nat.le_refl _) _).alloc (by simp) _
  have k0 : Hid (W0.heap[w.heap.size]? = some (.cells K 23 (0, 0))) := by
    show _ = _
    rw [hW0]; exact heap_alloc2_old w _ _
  have r0 : Hid (W0.heap[w.heap.size + 1]? = some (.cells Z 23 (0, 0))) := by
    show _ = _
    rw [hW0]; exact heap_alloc2_new w _ _
  have HW0 := hid hW0.symm
  have lk : keyErr l = 0 → (keyRes l).length ≤ 64 := fun h => by
    have h1 := h
    unfold keyErr at h
    unfold keyRes
    rw [if_pos h1]
    split at h
    · cases h
    · split at h
      · cases h
      · omega
  have Hlk := hid lk
  subst hn
  clear hK hX hT hsz hZ hW0 lk
  go_enter Tryz.func51, Tryz.ntmps51
  go_wp2_with (with_reducible show Go.wpList _ _ _ _ _ _; refine wpList_alloc_row rfl 23 rfl Z zh.out ?_)
  rw [HW0.out]
  refine (refKey_any l a cap _ (HX.out.below b0.out) Hsz.out hlen).mono ?_
  rintro _ W1 ⟨a1, c1, rfl, hB1, hb1, hc1, hcn1⟩
  have Hcn := hid hcn1
  clear hcn1
  have b1 : Hid (Below w.heap.size w W1) := Below.on' b0.out hb1
  have k1 : Hid (W1.heap[w.heap.size]? = some (.cells K 23 (0, 0))) := (hb1.block _ (heap_lt k0.out)).trans k0.out
  have r1 : Hid (W1.heap[w.heap.size + 1]? = some (.cells Z 23 (0, 0))) := (hb1.block _ (heap_lt r0.out)).trans r0.out
  have HB1 := hid hB1
  clear hb1 hB1 b0 k0 r0
  by_cases he : keyErr l = 0
  · have hl64 := Hlk.out he
    have Hr : Hid (derRes key l = hmac key (keyRes l)) := by
      show _ = _
      unfold derRes; rw [if_pos he]
    have He := hid he
    rw [he]
    obtain ⟨m, hm⟩ : ∃ m, m = (keyRes l).length := ⟨_, rfl⟩
    rw [← hm] at hl64 hc1 ⊢
    have Hm := hid hm
    clear he hm Hlk
    go_wp2_with (with_reducible show Go.wpList _ _ _ _ _ _; refine wpList_load_row rfl 23 _ rfl w.heap.size rfl _ _ _ _ k1.out Tryz.underlying23 rfl hinf ?_)
    refine (bytesOf_any HK.out).mono ?_
    rintro _ W6 ⟨v6, rfl, ho6, hb6⟩
    obtain ⟨a6, c6, rfl, B6, lc6, hn6⟩ := bytes_ofH ho6
    have HB6 := hid B6
    have HB1 : Hid (Bytes W6 a1 (keyRes l)) := HB1.out.below hb6
    have Hn6 := hid hn6
    have r1 : Hid (W6.heap[w.heap.size + 1]? = some (.cells Z 23 (0, 0))) := (hb6.block _ (heap_lt r1.out)).trans r1.out
    have b1 : Hid (Below w.heap.size w W6) := Below.on' b1.out hb6
    clear ho6 hb6 B6 hn6
    go_wp2_with fail
    refine (refTag_any sumOk key a6 key.length c6 rfl HB6.out Hn6.out (by rw [HK.out.len]; omega) lc6 (keyRes l) a1 m c1 Hm.out HB1.out Hcn.out (by have := Hm.out; omega) (by have := Hm.out; omega)).mono ?_
    rintro _ W2 ⟨O, rfl, hO, hb2⟩
    have HO := hid hO
    have b2 : Hid (Below w.heap.size w W2) := Below.on' b1.out hb2
    have r2 : Hid (W2.heap[w.heap.size + 1]? = some (.cells Z 23 (0, 0))) := (hb2.block _ (heap_lt r1.out)).trans r1.out
    clear hO hb2 b1 r1 k1 HB1
    go_wp2_with (with_reducible show Go.wpList _ _ _ _ _ _; refine wpList_store_row rfl 23 (.tmp 4) (.tmp 20) rfl (w.heap.size + 1) O rfl rfl 23 Z r2.out HO.out.info (hz.out.size.trans HO.out.size.symm) HO.out.one ?_)
    refine bodyPost_ret (results_row_tmp rfl _ _ (w.heap.size + 1) 23 O (0, 0) _ rfl (setRow_heap _ _ _ _ _ _ r2.out) Tryz.underlying23 rfl HO.out.info) rfl ?_
    rw [He.out]
    refine ⟨O, rfl, ?_, b2.out.setRow (by omega) _⟩
    rw [Hr.out]; exact HO.out
  · have Hr : Hid (derRes key l = List.replicate 32 0) := by
      show _ = _
      unfold derRes; rw [if_neg he]
    have q0 : ((keyErr l : Int) != 0) = true := by rw [bne_iff_ne]; omega
    have q1 : ¬ (keyErr l : Int) = 0 := by omega
    go_wp2_with (with_reducible show Go.wpList _ _ _ _ _ _; first
      | refine wpList_build_none rfl 23 rfl Z bh.out ?_
      | refine wpList_store_row rfl 23 (.tmp 4) (.tmp 15) rfl (w.heap.size + 1) Z rfl rfl 23 Z r1.out hz.out.info rfl hz.out.one ?_)
    refine bodyPost_ret (results_row_tmp rfl _ _ (w.heap.size + 1) 23 Z (0, 0) _ rfl (setRow_heap _ _ _ _ _ _ r1.out) Tryz.underlying23 rfl hz.out.info) rfl ?_
    refine ⟨Z, rfl, ?_, b1.out.setRow (by omega) _⟩
    rw [Hr.out]; exact hz.out
end Go.Proofs.YtdglmoikgmlaaaaGreatDoor
