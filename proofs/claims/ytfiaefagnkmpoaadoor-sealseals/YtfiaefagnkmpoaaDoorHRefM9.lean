/- The bytes of the state: loop 9 of the reference's Sum, over a frame that is a letter. -/
import Derived.Test.YtfiaefagnkmpoaaDoorHRefM3
namespace Go.Proofs.YtfiaefagnkmpoaaDoor
open Go.RowKit
set_option linter.unusedVariables false
set_option maxRecDepth 100000
theorem ev_none (a : Act) (v : Value) (x : Operand) : (a.put none v).eval x = a.eval x := by cases x <;> rfl
theorem wpList_yieldsS {ops : Array Oper} {rest : List Oper} {o : Oper} {a : Act} {w : World} {Q : Exit → Act → World → Prop} {S : World → Prop} (hg : o.guard = none) (v : Value) (hy : YieldsIf Tryd.prog ops S o v a) (hs : S w) (h : wpList Tryd.prog ops Q rest (a.put o.dst v) w) : wpList Tryd.prog ops Q (o :: rest) a w := by
  rcases hy with ⟨_, hr⟩ | ⟨hn, _⟩
  · refine wpList_plain hg fun K hK => ?_
    unfold Oper.wp
    rw [hr w hs, Oper.upon_value]
    exact hK _ _ h
  · exact absurd hn (by simp [Region.wanted, hg])
section
variable {ops : Array Oper} {S : World → Prop} {op : Oper} {a : Act}
theorem y_quo4 (hw : Region.wanted op (yielded ops a.tmps) = true) (x y : Operand) (ho : op.op = .binOp .quo 3 x y 3) (i : Nat) (hi : i < 32) (hx : a.eval x = .int .i64 (i : Int)) (hy : a.eval y = .int .i64 4) : YieldsIf Tryd.prog ops S op (.int .i64 ((i / 4 : Nat) : Int)) a := by
  refine .inl ⟨hw, fun w _ => ?_⟩
  have h1 : IntKind.i64.wrap ((i : Int).tdiv 4) = ((i / 4 : Nat) : Int) := by rw [IntKind.wrap_i64, Int.tdiv_eq_ediv_of_nonneg (by omega)]; omega
  rw [← h1]
  unfold execOp
  simp only [ho, hx, hy]
  simp [go_sem]
theorem y_rem4 (hw : Region.wanted op (yielded ops a.tmps) = true) (x y : Operand) (ho : op.op = .binOp .rem 3 x y 3) (i : Nat) (hi : i < 32) (hx : a.eval x = .int .i64 (i : Int)) (hy : a.eval y = .int .i64 4) : YieldsIf Tryd.prog ops S op (.int .i64 ((i % 4 : Nat) : Int)) a := by
  refine .inl ⟨hw, fun w _ => ?_⟩
  have h1 : (i : Int).tmod 4 = ((i % 4 : Nat) : Int) := by rw [Int.tmod_eq_emod_of_nonneg (by omega)]; omega
  rw [← h1]
  unfold execOp
  simp only [ho, hx, hy]
  simp [go_sem]
theorem y_shrI (hw : Region.wanted op (yielded ops a.tmps) = true) (x y : Operand) (ho : op.op = .binOp .shr 53 x y 3) (p : W32) (n : Nat) (hn : n < 32) (hx : a.eval x = vw p) (hy : a.eval y = .int .i64 (n : Int)) : YieldsIf Tryd.prog ops S op (vw (p >>> n)) a := by
  refine .inl ⟨hw, fun w _ => ?_⟩
  unfold execOp
  simp only [ho, hx, hy]
  simp [go_sem]
  first
    | exact (Int.shiftRight_eq_div_pow _ _).symm
    | (rw [Int.shiftRight_eq_div_pow]; norm_cast)
theorem y_byteW (hw : Region.wanted op (yielded ops a.tmps) = true) (x : Operand) (ho : op.op = .convert 53 5 x) (p : W32) (hx : a.eval x = vw p) : YieldsIf Tryd.prog ops S op (.int .u8 ((UInt8.ofNat p.toNat).toNat : Int)) a := by
  refine .inl ⟨hw, fun w hS9 => ?_⟩
  have h1 : IntKind.u8.wrap (p.toNat : Int) = ((UInt8.ofNat p.toNat).toNat : Int) := by
    rw [IntKind.wrap_u8]; simp
  rw [← h1]
  unfold execOp
  simp only [ho, hx]
  simp [go_sem]
theorem y_indexH (hw : Region.wanted op (yielded ops a.tmps) = true) (x y : Operand) (ho : op.op = .indexAddr 26 x y) (g k : Nat) (hx : a.eval x = .pointer (some ⟨g, 0, none⟩)) (hy : a.eval y = .int .i64 (k : Int)) (hk : k < 32) : YieldsIf Tryd.prog ops S op (.pointer (some ⟨g, k, none⟩)) a := by
  refine .inl ⟨hw, fun w _ => ?_⟩
  have h1 : (k : Int) < 32 := by omega
  have h0 : (0 : Int) ≤ (k : Int) := by omega
  unfold execOp
  simp only [ho, hx, hy]
  simp [go_sem, h0, h1]
end
theorem wpList_storeB {ops : Array Oper} {rest : List Oper} {o : Oper} {a : Act} {w : World} {Q : Exit → Act → World → Prop} (hg : o.guard = none) (x y : Operand) (ho : o.op = .store 5 x y) (g i : Nat) (v : UInt8) (u : Value) (hx : a.eval x = .pointer (some ⟨g, i, none⟩)) (hy : a.eval y = .int .u8 (v.toNat : Int))
    (hc : w.cell? ⟨g, i, none⟩ = some u) (hf : w.frozen? ⟨g, i, none⟩ = false) (h : wpList Tryd.prog ops Q rest (a.put o.dst undef) (w.setCell ⟨g, i, none⟩ (.int .u8 (v.toNat : Int)))) : wpList Tryd.prog ops Q (o :: rest) a w := by
  refine wpList_plain hg fun K hK => ?_
  unfold Oper.wp execOp
  simp only [ho, hx, hy]
  simp [go_sem, hc, hf]
  exact hK _ _ h
abbrev L9 : List Nat := [24, 270, 271, 272, 273, 274, 275, 276, 277, 278, 279, 280, 281, 282, 283, 284, 285, 286]
noncomputable def code43 : Code := ((Tryd.f12.body.bind (regionAt 43)).getD .skip)
theorem out43 (A : Act) (W : World) (Z : Array Value) (hz : ∀ w, (zeroValue 26).run Tryd.prog w = .ok (.agg Z) w) (sz : A.tmps.size = 288) :
    Code.wp Tryd.prog code43 (fun ex A' W' => ex = .normal ∧ ((Keep A A' [23] ∧ A'.eval (.tmp 23) = .pointer (some ⟨W.heap.size, 0, none⟩)) ∧ W' = W.alloc (.cells Z 26))) A W := by
  conv => arg 2; whnf
  refine wp_region_list ?_
  refine wpList_alloc_row rfl 26 rfl Z hz ?_
  exact wpList_nil ⟨rfl, ⟨(Keep.refl A _).put 23 _ (by decide), ev_eq _ _ (by rw [sz]; decide)⟩, rfl⟩
noncomputable def code45 : Code := ((Tryd.f12.body.bind (regionAt 45)).getD .skip)
theorem out45 (A : Act) (W : World) (r : Nat) (sz : A.tmps.size = 288) (x24 : A.eval (.tmp 24) = .int .i64 (r : Int)) :
    Code.wp Tryd.prog code45 (fun ex A' W' => ex = .normal ∧ ((Keep A A' [270, 271] ∧ A'.eval (.tmp 271) = .bool (decide ((r : Int) < 32))) ∧ W' = W)) A W := by
  conv => arg 2; whnf
  refine wp_region_list ?_
  refine wpList_yields rfl (.int .i64 (r : Int)) (yields_move (by simp [Region.wanted]) (.tmp 24) rfl _ x24) ?_
  refine wpList_yields rfl (.bool (decide ((r : Int) < 32))) (y_lss (by simp [Region.wanted]) (.tmp 270) (.const (.int .i64 32)) rfl (r : Int) 32 (ev_eq _ _ (by rw [sz]; decide)) rfl) ?_
  exact wpList_nil ⟨rfl, ⟨((Keep.refl A _).put 270 _ (by decide)).put 271 _ (by decide), ev_eq _ _ (by simp only [put_sz]; rw [sz]; decide)⟩, rfl⟩
noncomputable def code46 : Code := ((Tryd.f12.body.bind (regionAt 46)).getD .skip)
theorem out46 (A : Act) (W : World) (r : Nat) (hr : r < 64) (sz : A.tmps.size = 288) (x24 : A.eval (.tmp 24) = .int .i64 (r : Int)) :
    Code.wp Tryd.prog code46 (fun ex A' W' => ex = .normal ∧ ((Keep A A' [24, 272, 273] ∧ A'.eval (.tmp 24) = .int .i64 ((r + 1 : Nat) : Int)) ∧ W' = W)) A W := by
  conv => arg 2; whnf
  refine wp_region_list ?_
  refine wpList_yields rfl (.int .i64 (r : Int)) (yields_move (by simp [Region.wanted]) (.tmp 24) rfl _ x24) ?_
  refine wpList_yields rfl (.int .i64 ((r + 1 : Nat) : Int)) (y_addi (by simp [Region.wanted]) (.tmp 272) (.const (.int .i64 1)) rfl (r : Int) 1 _ (ev_eq _ _ (by rw [sz]; decide)) rfl (by rw [IntKind.wrap_i64]; omega)) ?_
  refine wpList_yields rfl (.int .i64 ((r + 1 : Nat) : Int)) (yh_assign (by simp [Region.wanted]) (.tmp 273) rfl _ (ev_eq _ _ (by simp only [put_sz]; rw [sz]; decide))) ?_
  exact wpList_nil ⟨rfl, ⟨(((Keep.refl A _).put 272 _ (by decide)).put 273 _ (by decide)).put 24 _ (by decide), ev_eq _ _ (by simp only [put_sz]; rw [sz]; decide)⟩, rfl⟩
noncomputable def code44 : Code := ((Tryd.f12.body.bind (regionAt 44)).getD .skip)
theorem out44 (A : Act) (W : World) (sz : A.tmps.size = 288) :
    Code.wp Tryd.prog code44 (fun ex A' W' => ex = .normal ∧ ((Keep A A' [24] ∧ A'.eval (.tmp 24) = .int .i64 ((0 : Nat) : Int)) ∧ W' = W)) A W := by
  conv => arg 2; whnf
  refine wp_region_list ?_
  refine wpList_yields rfl (.int .i64 ((0 : Nat) : Int)) (yh_assign (by simp [Region.wanted]) (.const (.int .i64 0)) rfl _ rfl) ?_
  exact wpList_nil ⟨rfl, ⟨(Keep.refl A _).put 24 _ (by decide), ev_eq _ _ (by rw [sz]; decide)⟩, rfl⟩

noncomputable def code47 : Code := ((Tryd.f12.body.bind (regionAt 47)).getD .skip)
theorem out47 (A : Act) (W : World) (N go i : Nat) (p : W32) (u : Value) (hi : i < 32) (sz : A.tmps.size = 288) (x24 : A.eval (.tmp 24) = .int .i64 (i : Int)) (x3 : A.eval (.tmp 3) = .slice (some ⟨N + 1, 0, none⟩) 8 8) (x23 : A.eval (.tmp 23) = .pointer (some ⟨go, 0, none⟩))
    (hp : W.cell? ⟨N + 1, i / 4, none⟩ = some (vw p)) (hu : W.cell? ⟨go, i, none⟩ = some u) (hf : W.frozen? ⟨go, i, none⟩ = false) :
    Code.wp Tryd.prog code47 (fun ex A' W' => ex = .normal ∧ (Keep A A' L9 ∧ A'.eval (.tmp 24) = .int .i64 (i : Int) ∧ W' = W.setCell ⟨go, i, none⟩ (.int .u8 ((UInt8.ofNat (p >>> (24 - 8 * (i % 4))).toNat).toNat : Int)))) A W := by
  conv => arg 2; whnf
  refine wp_region_list ?_
  refine wpList_yields rfl (.int .i64 (i : Int)) (yields_move (by simp [Region.wanted]) (.tmp 24) rfl _ x24) ?_
  refine wpList_yields rfl (.slice (some ⟨N + 1, 0, none⟩) 8 8) (yields_move (by simp [Region.wanted]) (.tmp 3) rfl _ ((ev_ne _ _ (by decide)).trans (x3))) ?_
  refine wpList_yields rfl (.int .i64 (i : Int)) (yields_move (by simp [Region.wanted]) (.tmp 24) rfl _ ((ev_ne _ _ (by decide)).trans ((ev_ne _ _ (by decide)).trans (x24)))) ?_
  refine wpList_yields rfl (.int .i64 ((i / 4 : Nat) : Int)) (y_quo4 (by simp [Region.wanted]) (.tmp 276) (.const (.int .i64 4)) rfl i hi (ev_eq _ _ (by (try simp only [put_sz]); rw [sz]; decide)) rfl) ?_
  refine wpList_yields rfl (.pointer (some ⟨N + 1, i / 4, none⟩)) (y_index (by simp [Region.wanted]) (.tmp 275) (.tmp 277) rfl (N + 1) 8 8 (i / 4) ((ev_ne _ _ (by decide)).trans ((ev_ne _ _ (by decide)).trans (ev_eq _ _ (by (try simp only [put_sz]); rw [sz]; decide)))) (ev_eq _ _ (by (try simp only [put_sz]); rw [sz]; decide)) (by omega)) ?_
  refine wpList_yieldsS (S := fun x => x.cell? ⟨N + 1, i / 4, none⟩ = some (vw p)) rfl (vw p) (y_load (by simp [Region.wanted]) (.tmp 278) rfl (N + 1) (i / 4) p (ev_eq _ _ (by (try simp only [put_sz]); rw [sz]; decide)) (fun w h => h)) hp ?_
  refine wpList_yields rfl (.int .i64 (i : Int)) (yields_move (by simp [Region.wanted]) (.tmp 24) rfl _ ((ev_ne _ _ (by decide)).trans ((ev_ne _ _ (by decide)).trans ((ev_ne _ _ (by decide)).trans ((ev_ne _ _ (by decide)).trans ((ev_ne _ _ (by decide)).trans ((ev_ne _ _ (by decide)).trans (x24)))))))) ?_
  refine wpList_yields rfl (.int .i64 ((i % 4 : Nat) : Int)) (y_rem4 (by simp [Region.wanted]) (.tmp 280) (.const (.int .i64 4)) rfl i hi (ev_eq _ _ (by (try simp only [put_sz]); rw [sz]; decide)) rfl) ?_
  refine wpList_yields rfl (.int .i64 ((8 * (i % 4) : Nat) : Int)) (y_muli (by simp [Region.wanted]) (.const (.int .i64 8)) (.tmp 281) rfl 8 ((i % 4 : Nat) : Int) _ rfl (ev_eq _ _ (by (try simp only [put_sz]); rw [sz]; decide)) (by rw [IntKind.wrap_i64]; omega)) ?_
  refine wpList_yields rfl (.int .i64 ((24 - 8 * (i % 4) : Nat) : Int)) (y_subi (by simp [Region.wanted]) (.const (.int .i64 24)) (.tmp 282) rfl 24 ((8 * (i % 4) : Nat) : Int) _ rfl (ev_eq _ _ (by (try simp only [put_sz]); rw [sz]; decide)) (by rw [IntKind.wrap_i64]; omega)) ?_
  refine wpList_yields rfl (vw (p >>> (24 - 8 * (i % 4)))) (y_shrI (by simp [Region.wanted]) (.tmp 279) (.tmp 283) rfl p (24 - 8 * (i % 4)) (by omega) ((ev_ne _ _ (by decide)).trans ((ev_ne _ _ (by decide)).trans ((ev_ne _ _ (by decide)).trans ((ev_ne _ _ (by decide)).trans (ev_eq _ _ (by (try simp only [put_sz]); rw [sz]; decide)))))) (ev_eq _ _ (by (try simp only [put_sz]); rw [sz]; decide))) ?_
  refine wpList_yields rfl (.int .u8 ((UInt8.ofNat (p >>> (24 - 8 * (i % 4))).toNat).toNat : Int)) (y_byteW (by simp [Region.wanted]) (.tmp 284) rfl _ (ev_eq _ _ (by (try simp only [put_sz]); rw [sz]; decide))) ?_
  refine wpList_yields rfl (.pointer (some ⟨go, i, none⟩)) (y_indexH (by simp [Region.wanted]) (.tmp 23) (.tmp 274) rfl go i ((ev_ne _ _ (by decide)).trans ((ev_ne _ _ (by decide)).trans ((ev_ne _ _ (by decide)).trans ((ev_ne _ _ (by decide)).trans ((ev_ne _ _ (by decide)).trans ((ev_ne _ _ (by decide)).trans ((ev_ne _ _ (by decide)).trans ((ev_ne _ _ (by decide)).trans ((ev_ne _ _ (by decide)).trans ((ev_ne _ _ (by decide)).trans ((ev_ne _ _ (by decide)).trans ((ev_ne _ _ (by decide)).trans (x23))))))))))))) ((ev_ne _ _ (by decide)).trans ((ev_ne _ _ (by decide)).trans ((ev_ne _ _ (by decide)).trans ((ev_ne _ _ (by decide)).trans ((ev_ne _ _ (by decide)).trans ((ev_ne _ _ (by decide)).trans ((ev_ne _ _ (by decide)).trans ((ev_ne _ _ (by decide)).trans ((ev_ne _ _ (by decide)).trans ((ev_ne _ _ (by decide)).trans ((ev_ne _ _ (by decide)).trans (ev_eq _ _ (by (try simp only [put_sz]); rw [sz]; decide))))))))))))) hi) ?_
  refine wpList_storeB rfl (.tmp 286) (.tmp 285) rfl go i (UInt8.ofNat (p >>> (24 - 8 * (i % 4))).toNat) u (ev_eq _ _ (by (try simp only [put_sz]); rw [sz]; decide)) ((ev_ne _ _ (by decide)).trans (ev_eq _ _ (by (try simp only [put_sz]); rw [sz]; decide))) hu hf ?_
  refine wpList_nil ⟨rfl, ?_, ?_, rfl⟩
  · exact ((((((((((((((Keep.refl A _).put 274 _ (by decide)).put 275 _ (by decide)).put 276 _ (by decide)).put 277 _ (by decide)).put 278 _ (by decide)).put 279 _ (by decide)).put 280 _ (by decide)).put 281 _ (by decide)).put 282 _ (by decide)).put 283 _ (by decide)).put 284 _ (by decide)).put 285 _ (by decide)).put 286 _ (by decide)).putn _
  · exact (ev_none _ _ _).trans ((ev_ne _ _ (by decide)).trans ((ev_ne _ _ (by decide)).trans ((ev_ne _ _ (by decide)).trans ((ev_ne _ _ (by decide)).trans ((ev_ne _ _ (by decide)).trans ((ev_ne _ _ (by decide)).trans ((ev_ne _ _ (by decide)).trans ((ev_ne _ _ (by decide)).trans ((ev_ne _ _ (by decide)).trans ((ev_ne _ _ (by decide)).trans ((ev_ne _ _ (by decide)).trans ((ev_ne _ _ (by decide)).trans ((ev_ne _ _ (by decide)).trans (x24))))))))))))))
end Go.Proofs.YtfiaefagnkmpoaaDoor
