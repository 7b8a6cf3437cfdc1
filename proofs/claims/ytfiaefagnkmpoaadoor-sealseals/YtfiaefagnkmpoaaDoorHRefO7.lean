/- The rounds of the reference's Sum (loop 7), over a frame that is a letter. -/
import Derived.Test.YtfiaefagnkmpoaaDoorHRefR7
namespace Go.Proofs.YtfiaefagnkmpoaaDoor
open Go.RowKit
set_option linter.unusedVariables false
set_option maxRecDepth 100000
/-- the innermost loop about a region: its body -/
def loopAt (n : Nat) : Code → Option Code
  | .loop c => match loopAt n c with
    | some d => some d
    | none => if (regionAt n c).isSome then some c else none
  | .seq a b => match loopAt n a with
    | some c => some c
    | none => loopAt n b
  | .block _ c => loopAt n c
  | .scope c => loopAt n c
  | .cond _ a b => match loopAt n a with
    | some c => some c
    | none => loopAt n b
  | _ => none
noncomputable def body7 : Code := ((Tryd.f12.body.bind (loopAt 33)).getD .skip)
/-- a frame behind a piece of code that writes one variable -/
structure Out1 (A A' : Act) (D : Nat) (v : Value) : Prop where
  sz : A'.tmps.size = 288
  df : A'.defers = A.defers
  keep : ∀ i, i < 139 → i ≠ D → A'.eval (.tmp i) = A.eval (.tmp i)
  at' : A'.eval (.tmp D) = v
theorem put_df (a : Act) (d : Option Tmp) (v : Value) : (a.put d v).defers = a.defers := by cases d <;> rfl
theorem wpList_yields {ops : Array Oper} {rest : List Oper} {o : Oper} {a : Act} {w : World} {Q : Exit → Act → World → Prop} (hg : o.guard = none) (v : Value) (hy : YieldsIf Tryd.prog ops (fun _ => True) o v a) (h : wpList Tryd.prog ops Q rest (a.put o.dst v) w) : wpList Tryd.prog ops Q (o :: rest) a w := by
  rcases hy with ⟨_, hr⟩ | ⟨hn, _⟩
  · refine wpList_plain hg fun K hK => ?_
    unfold Oper.wp
    rw [hr w trivial, Oper.upon_value]
    exact hK _ _ h
  · exact absurd hn (by simp [Region.wanted, hg])
theorem y_lss {ops : Array Oper} {S : World → Prop} {op : Oper} {a : Act} (hw : Region.wanted op (yielded ops a.tmps) = true) (x y : Operand) (ho : op.op = .binOp .lss 3 x y 3) (p q : Int) (hx : a.eval x = .int .i64 p) (hy : a.eval y = .int .i64 q) : YieldsIf Tryd.prog ops S op (.bool (decide (p < q))) a := by
  refine .inl ⟨hw, fun w _ => ?_⟩
  unfold execOp
  simp only [ho, hx, hy]
  simp [go_sem]
theorem y_addi {ops : Array Oper} {S : World → Prop} {op : Oper} {a : Act} (hw : Region.wanted op (yielded ops a.tmps) = true) (x y : Operand) (ho : op.op = .binOp .add 3 x y 3) (p q z : Int) (hx : a.eval x = .int .i64 p) (hy : a.eval y = .int .i64 q) (hz : IntKind.i64.wrap (p + q) = z) : YieldsIf Tryd.prog ops S op (.int .i64 z) a := by
  refine .inl ⟨hw, fun w _ => ?_⟩
  unfold execOp
  simp only [ho, hx, hy]
  simp [go_sem, hz]
noncomputable def code31 : Code := ((Tryd.f12.body.bind (regionAt 31)).getD .skip)
noncomputable def code32 : Code := ((Tryd.f12.body.bind (regionAt 32)).getD .skip)
theorem out31 (A : Act) (W : World) (r : Nat) (sz : A.tmps.size = 288) (x16 : A.eval (.tmp 16) = .int .i64 (r : Int)) :
    Code.wp Tryd.prog code31 (fun ex A' W' => ex = .normal ∧ ((A'.tmps.size = 288 ∧ A'.defers = A.defers ∧ (∀ i, i < 139 → A'.eval (.tmp i) = A.eval (.tmp i)) ∧ A'.eval (.tmp 140) = .bool (decide ((r : Int) < 64))) ∧ W' = W)) A W := by
  conv => arg 2; whnf
  refine wp_region_list ?_
  refine wpList_yields rfl (.int .i64 (r : Int)) (yields_move (by simp [Region.wanted]) (.tmp 16) rfl _ x16) ?_
  refine wpList_yields rfl (.bool (decide ((r : Int) < 64))) (y_lss (by simp [Region.wanted]) (.tmp 139) (.const (.int .i64 64)) rfl (r : Int) 64 (ev_eq _ _ (by rw [sz]; decide)) rfl) ?_
  refine wpList_nil ⟨rfl, ⟨by simp only [put_sz]; exact sz, by simp only [put_df], fun i hi => (ev_ne _ _ (Nat.ne_of_gt (Nat.lt_of_lt_of_le hi (by decide)))).trans (ev_ne _ _ (Nat.ne_of_gt (Nat.lt_of_lt_of_le hi (by decide)))), ev_eq _ _ (by simp only [put_sz]; rw [sz]; decide)⟩, rfl⟩
theorem out32 (A : Act) (W : World) (r : Nat) (hr : r < 64) (sz : A.tmps.size = 288) (x16 : A.eval (.tmp 16) = .int .i64 (r : Int)) :
    Code.wp Tryd.prog code32 (fun ex A' W' => ex = .normal ∧ (Out1 A A' 16 (.int .i64 ((r + 1 : Nat) : Int)) ∧ W' = W)) A W := by
  conv => arg 2; whnf
  refine wp_region_list ?_
  refine wpList_yields rfl (.int .i64 (r : Int)) (yields_move (by simp [Region.wanted]) (.tmp 16) rfl _ x16) ?_
  refine wpList_yields rfl (.int .i64 ((r + 1 : Nat) : Int)) (y_addi (by simp [Region.wanted]) (.tmp 141) (.const (.int .i64 1)) rfl (r : Int) 1 _ (ev_eq _ _ (by rw [sz]; decide)) rfl (by rw [IntKind.wrap_i64]; omega)) ?_
  refine wpList_yields rfl (.int .i64 ((r + 1 : Nat) : Int)) (yh_assign (by simp [Region.wanted]) (.tmp 142) rfl _ (ev_eq _ _ (by simp only [put_sz]; rw [sz]; decide))) ?_
  exact wpList_nil ⟨rfl, ⟨by simp only [put_sz]; exact sz, by simp only [put_df], fun i hi hd => (ev_ne _ _ (Ne.symm hd)).trans ((ev_ne _ _ (Nat.ne_of_gt (Nat.lt_of_lt_of_le hi (by decide)))).trans (ev_ne _ _ (Nat.ne_of_gt (Nat.lt_of_lt_of_le hi (by decide))))), ev_eq _ _ (by simp only [put_sz]; rw [sz]; decide)⟩, rfl⟩
theorem out33 (A : Act) (W : World) (gv cv gk gw r : Nat) (a b c d e f g h kk ww X1 SG1 : W32) (ZX1 : Hid (X1 = rotr e 6 ^^^ rotr e 11)) (ZSG1 : Hid (SG1 = X1 ^^^ rotr e 25)) (sz : A.tmps.size = 288) (x15 : A.eval (.tmp 15) = .slice (some ⟨gv, 0, none⟩) 8 cv) (hs0 : Hid (VW W gv ⟨a, b, c, d, e, f, g, h⟩ ∧ W.cell? ⟨gk, r, none⟩ = some (vw kk) ∧ W.cell? ⟨gw, r, none⟩ = some (vw ww))) :
    Code.wp Tryd.prog code33 (fun ex A' W' => ex = .normal ∧ (Out1 A A' 17 (vw SG1) ∧ W' = W.drew.drew.drew.drew)) A W := by
  refine wp_split _ (reg33 A W gv cv gk gw r a b c d e f g h kk ww X1 SG1 ZX1 ZSG1 sz x15 hs0) ?_
  rintro A' W' ⟨rfl, rfl⟩
  exact ⟨rfl, ⟨by simp only [put_sz]; exact sz, by simp only [put_df], fun i hi hd => ((ev_ne _ _ (Ne.symm hd)).trans ((ev_ne _ _ (Nat.ne_of_gt (Nat.lt_of_lt_of_le hi (by decide)))).trans ((ev_ne _ _ (Nat.ne_of_gt (Nat.lt_of_lt_of_le hi (by decide)))).trans ((ev_ne _ _ (Nat.ne_of_gt (Nat.lt_of_lt_of_le hi (by decide)))).trans ((ev_ne _ _ (Nat.ne_of_gt (Nat.lt_of_lt_of_le hi (by decide)))).trans ((ev_ne _ _ (Nat.ne_of_gt (Nat.lt_of_lt_of_le hi (by decide)))).trans ((ev_ne _ _ (Nat.ne_of_gt (Nat.lt_of_lt_of_le hi (by decide)))).trans ((ev_ne _ _ (Nat.ne_of_gt (Nat.lt_of_lt_of_le hi (by decide)))).trans ((ev_ne _ _ (Nat.ne_of_gt (Nat.lt_of_lt_of_le hi (by decide)))).trans ((ev_ne _ _ (Nat.ne_of_gt (Nat.lt_of_lt_of_le hi (by decide)))).trans ((ev_ne _ _ (Nat.ne_of_gt (Nat.lt_of_lt_of_le hi (by decide)))).trans ((ev_ne _ _ (Nat.ne_of_gt (Nat.lt_of_lt_of_le hi (by decide)))).trans ((ev_ne _ _ (Nat.ne_of_gt (Nat.lt_of_lt_of_le hi (by decide)))).trans ((ev_ne _ _ (Nat.ne_of_gt (Nat.lt_of_lt_of_le hi (by decide)))).trans (ev_ne _ _ (Nat.ne_of_gt (Nat.lt_of_lt_of_le hi (by decide)))))))))))))))))), ev_eq _ _ (by simp only [put_sz]; rw [sz]; decide)⟩, rfl⟩
theorem out34 (A : Act) (W : World) (gv cv gk gw r : Nat) (a b c d e f g h kk ww P1 NE P2 CH : W32) (ZP1 : Hid (P1 = e &&& f)) (ZNE : Hid (NE = ~~~e)) (ZP2 : Hid (P2 = NE &&& g)) (ZCH : Hid (CH = P1 ^^^ P2)) (sz : A.tmps.size = 288) (x15 : A.eval (.tmp 15) = .slice (some ⟨gv, 0, none⟩) 8 cv) (hs0 : Hid (VW W gv ⟨a, b, c, d, e, f, g, h⟩ ∧ W.cell? ⟨gk, r, none⟩ = some (vw kk) ∧ W.cell? ⟨gw, r, none⟩ = some (vw ww))) :
    Code.wp Tryd.prog code34 (fun ex A' W' => ex = .normal ∧ (Out1 A A' 18 (vw CH) ∧ W' = W.drew)) A W := by
  refine wp_split _ (reg34 A W gv cv gk gw r a b c d e f g h kk ww P1 NE P2 CH ZP1 ZNE ZP2 ZCH sz x15 hs0) ?_
  rintro A' W' ⟨rfl, rfl⟩
  exact ⟨rfl, ⟨by simp only [put_sz]; exact sz, by simp only [put_df], fun i hi hd => ((ev_ne _ _ (Ne.symm hd)).trans ((ev_ne _ _ (Nat.ne_of_gt (Nat.lt_of_lt_of_le hi (by decide)))).trans ((ev_ne _ _ (Nat.ne_of_gt (Nat.lt_of_lt_of_le hi (by decide)))).trans ((ev_ne _ _ (Nat.ne_of_gt (Nat.lt_of_lt_of_le hi (by decide)))).trans ((ev_ne _ _ (Nat.ne_of_gt (Nat.lt_of_lt_of_le hi (by decide)))).trans ((ev_ne _ _ (Nat.ne_of_gt (Nat.lt_of_lt_of_le hi (by decide)))).trans ((ev_ne _ _ (Nat.ne_of_gt (Nat.lt_of_lt_of_le hi (by decide)))).trans ((ev_ne _ _ (Nat.ne_of_gt (Nat.lt_of_lt_of_le hi (by decide)))).trans ((ev_ne _ _ (Nat.ne_of_gt (Nat.lt_of_lt_of_le hi (by decide)))).trans ((ev_ne _ _ (Nat.ne_of_gt (Nat.lt_of_lt_of_le hi (by decide)))).trans ((ev_ne _ _ (Nat.ne_of_gt (Nat.lt_of_lt_of_le hi (by decide)))).trans ((ev_ne _ _ (Nat.ne_of_gt (Nat.lt_of_lt_of_le hi (by decide)))).trans ((ev_ne _ _ (Nat.ne_of_gt (Nat.lt_of_lt_of_le hi (by decide)))).trans ((ev_ne _ _ (Nat.ne_of_gt (Nat.lt_of_lt_of_le hi (by decide)))).trans ((ev_ne _ _ (Nat.ne_of_gt (Nat.lt_of_lt_of_le hi (by decide)))).trans ((ev_ne _ _ (Nat.ne_of_gt (Nat.lt_of_lt_of_le hi (by decide)))).trans (ev_ne _ _ (Nat.ne_of_gt (Nat.lt_of_lt_of_le hi (by decide)))))))))))))))))))), ev_eq _ _ (by simp only [put_sz]; rw [sz]; decide)⟩, rfl⟩
theorem out35 (A : Act) (W : World) (gv cv gk gw r : Nat) (a b c d e f g h kk ww SG1 CH U1 U2 U3 T1 : W32) (ZU1 : Hid (U1 = h + SG1)) (ZU2 : Hid (U2 = U1 + CH)) (ZU3 : Hid (U3 = U2 + kk)) (ZT1 : Hid (T1 = U3 + ww)) (hlt : r < 64) (sz : A.tmps.size = 288) (x15 : A.eval (.tmp 15) = .slice (some ⟨gv, 0, none⟩) 8 cv) (x17 : A.eval (.tmp 17) = vw SG1) (x18 : A.eval (.tmp 18) = vw CH) (x4 : A.eval (.tmp 4) = .slice (some ⟨gk, 0, none⟩) 64 64) (x9 : A.eval (.tmp 9) = .slice (some ⟨gw, 0, none⟩) 64 64) (x16 : A.eval (.tmp 16) = .int .i64 (r : Int)) (hs0 : Hid (VW W gv ⟨a, b, c, d, e, f, g, h⟩ ∧ W.cell? ⟨gk, r, none⟩ = some (vw kk) ∧ W.cell? ⟨gw, r, none⟩ = some (vw ww))) :
    Code.wp Tryd.prog code35 (fun ex A' W' => ex = .normal ∧ (Out1 A A' 19 (vw T1) ∧ W' = W.drew)) A W := by
  refine wp_split _ (reg35 A W gv cv gk gw r a b c d e f g h kk ww SG1 CH U1 U2 U3 T1 ZU1 ZU2 ZU3 ZT1 hlt sz x15 x17 x18 x4 x9 x16 hs0) ?_
  rintro A' W' ⟨rfl, rfl⟩
  exact ⟨rfl, ⟨by simp only [put_sz]; exact sz, by simp only [put_df], fun i hi hd => ((ev_ne _ _ (Ne.symm hd)).trans ((ev_ne _ _ (Nat.ne_of_gt (Nat.lt_of_lt_of_le hi (by decide)))).trans ((ev_ne _ _ (Nat.ne_of_gt (Nat.lt_of_lt_of_le hi (by decide)))).trans ((ev_ne _ _ (Nat.ne_of_gt (Nat.lt_of_lt_of_le hi (by decide)))).trans ((ev_ne _ _ (Nat.ne_of_gt (Nat.lt_of_lt_of_le hi (by decide)))).trans ((ev_ne _ _ (Nat.ne_of_gt (Nat.lt_of_lt_of_le hi (by decide)))).trans ((ev_ne _ _ (Nat.ne_of_gt (Nat.lt_of_lt_of_le hi (by decide)))).trans ((ev_ne _ _ (Nat.ne_of_gt (Nat.lt_of_lt_of_le hi (by decide)))).trans ((ev_ne _ _ (Nat.ne_of_gt (Nat.lt_of_lt_of_le hi (by decide)))).trans ((ev_ne _ _ (Nat.ne_of_gt (Nat.lt_of_lt_of_le hi (by decide)))).trans ((ev_ne _ _ (Nat.ne_of_gt (Nat.lt_of_lt_of_le hi (by decide)))).trans ((ev_ne _ _ (Nat.ne_of_gt (Nat.lt_of_lt_of_le hi (by decide)))).trans ((ev_ne _ _ (Nat.ne_of_gt (Nat.lt_of_lt_of_le hi (by decide)))).trans ((ev_ne _ _ (Nat.ne_of_gt (Nat.lt_of_lt_of_le hi (by decide)))).trans ((ev_ne _ _ (Nat.ne_of_gt (Nat.lt_of_lt_of_le hi (by decide)))).trans ((ev_ne _ _ (Nat.ne_of_gt (Nat.lt_of_lt_of_le hi (by decide)))).trans ((ev_ne _ _ (Nat.ne_of_gt (Nat.lt_of_lt_of_le hi (by decide)))).trans (ev_ne _ _ (Nat.ne_of_gt (Nat.lt_of_lt_of_le hi (by decide))))))))))))))))))))), ev_eq _ _ (by simp only [put_sz]; rw [sz]; decide)⟩, rfl⟩
theorem out36 (A : Act) (W : World) (gv cv gk gw r : Nat) (a b c d e f g h kk ww Y1 SG0 : W32) (ZY1 : Hid (Y1 = rotr a 2 ^^^ rotr a 13)) (ZSG0 : Hid (SG0 = Y1 ^^^ rotr a 22)) (sz : A.tmps.size = 288) (x15 : A.eval (.tmp 15) = .slice (some ⟨gv, 0, none⟩) 8 cv) (hs0 : Hid (VW W gv ⟨a, b, c, d, e, f, g, h⟩ ∧ W.cell? ⟨gk, r, none⟩ = some (vw kk) ∧ W.cell? ⟨gw, r, none⟩ = some (vw ww))) :
    Code.wp Tryd.prog code36 (fun ex A' W' => ex = .normal ∧ (Out1 A A' 20 (vw SG0) ∧ W' = W.drew.drew.drew.drew)) A W := by
  refine wp_split _ (reg36 A W gv cv gk gw r a b c d e f g h kk ww Y1 SG0 ZY1 ZSG0 sz x15 hs0) ?_
  rintro A' W' ⟨rfl, rfl⟩
  exact ⟨rfl, ⟨by simp only [put_sz]; exact sz, by simp only [put_df], fun i hi hd => ((ev_ne _ _ (Ne.symm hd)).trans ((ev_ne _ _ (Nat.ne_of_gt (Nat.lt_of_lt_of_le hi (by decide)))).trans ((ev_ne _ _ (Nat.ne_of_gt (Nat.lt_of_lt_of_le hi (by decide)))).trans ((ev_ne _ _ (Nat.ne_of_gt (Nat.lt_of_lt_of_le hi (by decide)))).trans ((ev_ne _ _ (Nat.ne_of_gt (Nat.lt_of_lt_of_le hi (by decide)))).trans ((ev_ne _ _ (Nat.ne_of_gt (Nat.lt_of_lt_of_le hi (by decide)))).trans ((ev_ne _ _ (Nat.ne_of_gt (Nat.lt_of_lt_of_le hi (by decide)))).trans ((ev_ne _ _ (Nat.ne_of_gt (Nat.lt_of_lt_of_le hi (by decide)))).trans ((ev_ne _ _ (Nat.ne_of_gt (Nat.lt_of_lt_of_le hi (by decide)))).trans ((ev_ne _ _ (Nat.ne_of_gt (Nat.lt_of_lt_of_le hi (by decide)))).trans ((ev_ne _ _ (Nat.ne_of_gt (Nat.lt_of_lt_of_le hi (by decide)))).trans ((ev_ne _ _ (Nat.ne_of_gt (Nat.lt_of_lt_of_le hi (by decide)))).trans ((ev_ne _ _ (Nat.ne_of_gt (Nat.lt_of_lt_of_le hi (by decide)))).trans ((ev_ne _ _ (Nat.ne_of_gt (Nat.lt_of_lt_of_le hi (by decide)))).trans (ev_ne _ _ (Nat.ne_of_gt (Nat.lt_of_lt_of_le hi (by decide)))))))))))))))))), ev_eq _ _ (by simp only [put_sz]; rw [sz]; decide)⟩, rfl⟩
theorem out37 (A : Act) (W : World) (gv cv gk gw r : Nat) (a b c d e f g h kk ww Q1 Q2 Q3 Q4 MJ : W32) (ZQ1 : Hid (Q1 = a &&& b)) (ZQ2 : Hid (Q2 = a &&& c)) (ZQ3 : Hid (Q3 = Q1 ^^^ Q2)) (ZQ4 : Hid (Q4 = b &&& c)) (ZMJ : Hid (MJ = Q3 ^^^ Q4)) (sz : A.tmps.size = 288) (x15 : A.eval (.tmp 15) = .slice (some ⟨gv, 0, none⟩) 8 cv) (hs0 : Hid (VW W gv ⟨a, b, c, d, e, f, g, h⟩ ∧ W.cell? ⟨gk, r, none⟩ = some (vw kk) ∧ W.cell? ⟨gw, r, none⟩ = some (vw ww))) :
    Code.wp Tryd.prog code37 (fun ex A' W' => ex = .normal ∧ (Out1 A A' 21 (vw MJ) ∧ W' = W.drew)) A W := by
  refine wp_split _ (reg37 A W gv cv gk gw r a b c d e f g h kk ww Q1 Q2 Q3 Q4 MJ ZQ1 ZQ2 ZQ3 ZQ4 ZMJ sz x15 hs0) ?_
  rintro A' W' ⟨rfl, rfl⟩
  exact ⟨rfl, ⟨by simp only [put_sz]; exact sz, by simp only [put_df], fun i hi hd => ((ev_ne _ _ (Ne.symm hd)).trans ((ev_ne _ _ (Nat.ne_of_gt (Nat.lt_of_lt_of_le hi (by decide)))).trans ((ev_ne _ _ (Nat.ne_of_gt (Nat.lt_of_lt_of_le hi (by decide)))).trans ((ev_ne _ _ (Nat.ne_of_gt (Nat.lt_of_lt_of_le hi (by decide)))).trans ((ev_ne _ _ (Nat.ne_of_gt (Nat.lt_of_lt_of_le hi (by decide)))).trans ((ev_ne _ _ (Nat.ne_of_gt (Nat.lt_of_lt_of_le hi (by decide)))).trans ((ev_ne _ _ (Nat.ne_of_gt (Nat.lt_of_lt_of_le hi (by decide)))).trans ((ev_ne _ _ (Nat.ne_of_gt (Nat.lt_of_lt_of_le hi (by decide)))).trans ((ev_ne _ _ (Nat.ne_of_gt (Nat.lt_of_lt_of_le hi (by decide)))).trans ((ev_ne _ _ (Nat.ne_of_gt (Nat.lt_of_lt_of_le hi (by decide)))).trans ((ev_ne _ _ (Nat.ne_of_gt (Nat.lt_of_lt_of_le hi (by decide)))).trans ((ev_ne _ _ (Nat.ne_of_gt (Nat.lt_of_lt_of_le hi (by decide)))).trans ((ev_ne _ _ (Nat.ne_of_gt (Nat.lt_of_lt_of_le hi (by decide)))).trans ((ev_ne _ _ (Nat.ne_of_gt (Nat.lt_of_lt_of_le hi (by decide)))).trans ((ev_ne _ _ (Nat.ne_of_gt (Nat.lt_of_lt_of_le hi (by decide)))).trans ((ev_ne _ _ (Nat.ne_of_gt (Nat.lt_of_lt_of_le hi (by decide)))).trans ((ev_ne _ _ (Nat.ne_of_gt (Nat.lt_of_lt_of_le hi (by decide)))).trans ((ev_ne _ _ (Nat.ne_of_gt (Nat.lt_of_lt_of_le hi (by decide)))).trans ((ev_ne _ _ (Nat.ne_of_gt (Nat.lt_of_lt_of_le hi (by decide)))).trans ((ev_ne _ _ (Nat.ne_of_gt (Nat.lt_of_lt_of_le hi (by decide)))).trans ((ev_ne _ _ (Nat.ne_of_gt (Nat.lt_of_lt_of_le hi (by decide)))).trans ((ev_ne _ _ (Nat.ne_of_gt (Nat.lt_of_lt_of_le hi (by decide)))).trans ((ev_ne _ _ (Nat.ne_of_gt (Nat.lt_of_lt_of_le hi (by decide)))).trans (ev_ne _ _ (Nat.ne_of_gt (Nat.lt_of_lt_of_le hi (by decide))))))))))))))))))))))))))), ev_eq _ _ (by simp only [put_sz]; rw [sz]; decide)⟩, rfl⟩
theorem out38 (A : Act) (W : World) (gv cv gk gw r : Nat) (a b c d e f g h kk ww T1 SG0 MJ V1 NA ND : W32) (ZV1 : Hid (V1 = T1 + SG0)) (ZNA : Hid (NA = V1 + MJ)) (ZND : Hid (ND = d + T1)) (sz : A.tmps.size = 288) (x15 : A.eval (.tmp 15) = .slice (some ⟨gv, 0, none⟩) 8 cv) (x19 : A.eval (.tmp 19) = vw T1) (x20 : A.eval (.tmp 20) = vw SG0) (x21 : A.eval (.tmp 21) = vw MJ) (hs0 : Hid (VW W gv ⟨a, b, c, d, e, f, g, h⟩ ∧ W.cell? ⟨gk, r, none⟩ = some (vw kk) ∧ W.cell? ⟨gw, r, none⟩ = some (vw ww))) :
    Code.wp Tryd.prog code38 (fun ex A' W' => ex = .normal ∧ (Out1 A A' 15 (.slice (some ⟨W.heap.size, 0, none⟩) 8 8) ∧ W' = W.drew.alloc (.cells #[vw NA, vw a, vw b, vw c, vw ND, vw e, vw f, vw g] 53))) A W := by
  refine wp_split _ (reg38 A W gv cv gk gw r a b c d e f g h kk ww T1 SG0 MJ V1 NA ND ZV1 ZNA ZND sz x15 x19 x20 x21 hs0) ?_
  rintro A' W' ⟨rfl, rfl⟩
  exact ⟨rfl, ⟨by simp only [put_sz]; exact sz, by simp only [put_df], fun i hi hd => ((ev_ne _ _ (Ne.symm hd)).trans ((ev_ne _ _ (Nat.ne_of_gt (Nat.lt_of_lt_of_le hi (by decide)))).trans ((ev_ne _ _ (Nat.ne_of_gt (Nat.lt_of_lt_of_le hi (by decide)))).trans ((ev_ne _ _ (Nat.ne_of_gt (Nat.lt_of_lt_of_le hi (by decide)))).trans ((ev_ne _ _ (Nat.ne_of_gt (Nat.lt_of_lt_of_le hi (by decide)))).trans ((ev_ne _ _ (Nat.ne_of_gt (Nat.lt_of_lt_of_le hi (by decide)))).trans ((ev_ne _ _ (Nat.ne_of_gt (Nat.lt_of_lt_of_le hi (by decide)))).trans ((ev_ne _ _ (Nat.ne_of_gt (Nat.lt_of_lt_of_le hi (by decide)))).trans ((ev_ne _ _ (Nat.ne_of_gt (Nat.lt_of_lt_of_le hi (by decide)))).trans ((ev_ne _ _ (Nat.ne_of_gt (Nat.lt_of_lt_of_le hi (by decide)))).trans ((ev_ne _ _ (Nat.ne_of_gt (Nat.lt_of_lt_of_le hi (by decide)))).trans ((ev_ne _ _ (Nat.ne_of_gt (Nat.lt_of_lt_of_le hi (by decide)))).trans ((ev_ne _ _ (Nat.ne_of_gt (Nat.lt_of_lt_of_le hi (by decide)))).trans ((ev_ne _ _ (Nat.ne_of_gt (Nat.lt_of_lt_of_le hi (by decide)))).trans ((ev_ne _ _ (Nat.ne_of_gt (Nat.lt_of_lt_of_le hi (by decide)))).trans ((ev_ne _ _ (Nat.ne_of_gt (Nat.lt_of_lt_of_le hi (by decide)))).trans ((ev_ne _ _ (Nat.ne_of_gt (Nat.lt_of_lt_of_le hi (by decide)))).trans ((ev_ne _ _ (Nat.ne_of_gt (Nat.lt_of_lt_of_le hi (by decide)))).trans ((ev_ne _ _ (Nat.ne_of_gt (Nat.lt_of_lt_of_le hi (by decide)))).trans ((ev_ne _ _ (Nat.ne_of_gt (Nat.lt_of_lt_of_le hi (by decide)))).trans ((ev_ne _ _ (Nat.ne_of_gt (Nat.lt_of_lt_of_le hi (by decide)))).trans ((ev_ne _ _ (Nat.ne_of_gt (Nat.lt_of_lt_of_le hi (by decide)))).trans ((ev_ne _ _ (Nat.ne_of_gt (Nat.lt_of_lt_of_le hi (by decide)))).trans ((ev_ne _ _ (Nat.ne_of_gt (Nat.lt_of_lt_of_le hi (by decide)))).trans ((ev_ne _ _ (Nat.ne_of_gt (Nat.lt_of_lt_of_le hi (by decide)))).trans ((ev_ne _ _ (Nat.ne_of_gt (Nat.lt_of_lt_of_le hi (by decide)))).trans ((ev_ne _ _ (Nat.ne_of_gt (Nat.lt_of_lt_of_le hi (by decide)))).trans ((ev_ne _ _ (Nat.ne_of_gt (Nat.lt_of_lt_of_le hi (by decide)))).trans ((ev_ne _ _ (Nat.ne_of_gt (Nat.lt_of_lt_of_le hi (by decide)))).trans (ev_ne _ _ (Nat.ne_of_gt (Nat.lt_of_lt_of_le hi (by decide))))))))))))))))))))))))))))))))), ev_eq _ _ (by simp only [put_sz]; rw [sz]; decide)⟩, rfl⟩
end Go.Proofs.YtfiaefagnkmpoaaDoor
