/- YthfmpebgmojcaaaDoorHRefO7 + YthfmpebgmojcaaaDoorHRefL7 + YthfmpebgmojcaaaDoorHRefL8 + YthfmpebgmojcaaaDoorHRefM8 -/
import Derived.Test.YthfmpebgmojcaaaDoorHRefR7
/- The rounds of the reference's Sum (loop 7), over a frame that is a letter. -/
namespace Go.Proofs.YthfmpebgmojcaaaDoor
open Go.RowKit
set_option linter.unusedVariables false
set_option maxRecDepth 100000
def loopAt (n : Nat) : Code → Option Code
  | .loop c => match loopAt n c with
    | some d => some d
    | none => if (regionAt n c).isSome then some c else none
  | .seq a b => match loopAt n a with
    | some c => some c
    | none => loopAt n b
  | .block _ c => loopAt n c
  | .scope c => loopAt n c
  | .cond _ a b => match loopAt n a with
    | some c => some c
    | none => loopAt n b
  | _ => none
noncomputable def body7 : Code := ((Tryd.f104.body.bind (loopAt 33)).getD .skip)
structure Out1 (A A' : Act) (D : Nat) (v : Value) : Prop where
  sz : A'.tmps.size = 288
  df : A'.defers = A.defers
  keep : ∀ i, i < 139 → i ≠ D → A'.eval (.tmp i) = A.eval (.tmp i)
  at' : A'.eval (.tmp D) = v
theorem put_df (a : Act) (d : Option Tmp) (v : Value) : (a.put d v).defers = a.defers := by cases d <;> rfl
theorem wpList_yields {ops : Array Oper} {rest : List Oper} {o : Oper} {a : Act} {w : World} {Q : Exit → Act → World → Prop} (hg : o.guard = none) (v : Value) (hy : YieldsIf Tryd.prog ops (fun _ => True) o v a) (h : wpList Tryd.prog ops Q rest (a.put o.dst v) w) : wpList Tryd.prog ops Q (o :: rest) a w := by
  rcases hy with ⟨_, hr⟩ | ⟨hn, _⟩
  · refine wpList_plain hg fun K hK => ?_
    unfold Oper.wp
    rw [hr w trivial, Oper.upon_value]
    exact hK _ _ h
  · exact absurd hn (by simp [Region.wanted, hg])
theorem y_lss {ops : Array Oper} {S : World → Prop} {op : Oper} {a : Act} (hw : Region.wanted op (yielded ops a.tmps) = true) (x y : Operand) (ho : op.op = .binOp .lss 3 x y 3) (p q : Int) (hx : a.eval x = .int .i64 p) (hy : a.eval y = .int .i64 q) : YieldsIf Tryd.prog ops S op (.bool (decide (p < q))) a := by
  refine .inl ⟨hw, fun w _ => ?_⟩
  unfold execOp
  simp only [ho, hx, hy]
  simp [go_sem]
theorem y_addi {ops : Array Oper} {S : World → Prop} {op : Oper} {a : Act} (hw : Region.wanted op (yielded ops a.tmps) = true) (x y : Operand) (ho : op.op = .binOp .add 3 x y 3) (p q z : Int) (hx : a.eval x = .int .i64 p) (hy : a.eval y = .int .i64 q) (hz : IntKind.i64.wrap (p + q) = z) : YieldsIf Tryd.prog ops S op (.int .i64 z) a := by
  refine .inl ⟨hw, fun w _ => ?_⟩
  unfold execOp
  simp only [ho, hx, hy]
  simp [go_sem, hz]
noncomputable def code31 : Code := ((Tryd.f104.body.bind (regionAt 31)).getD .skip)
noncomputable def code32 : Code := ((Tryd.f104.body.bind (regionAt 32)).getD .skip)
theorem out31 (A : Act) (W : World) (r : Nat) (sz : A.tmps.size = 288) (x16 : A.eval (.tmp 16) = .int .i64 (r : Int)) :
    Code.wp Tryd.prog code31 (fun ex A' W' => ex = .normal ∧ ((A'.tmps.size = 288 ∧ A'.defers = A.defers ∧ (∀ i, i < 139 → A'.eval (.tmp i) = A.eval (.tmp i)) ∧ A'.eval (.tmp 140) = .bool (decide ((r : Int) < 64))) ∧ W' = W)) A W := by
  conv => arg 2; whnf
  refine wp_region_list ?_
  refine wpList_yields rfl (.int .i64 (r : Int)) (yields_move (by simp [Region.wanted]) (.tmp 16) rfl _ x16) ?_
  refine wpList_yields rfl (.bool (decide ((r : Int) < 64))) (y_lss (by simp [Region.wanted]) (.tmp 139) (.const (.int .i64 64)) rfl (r : Int) 64 (ev_eq _ _ (by rw [sz]; decide)) rfl) ?_
  refine wpList_nil ⟨rfl, ⟨by simp only [put_sz]; exact sz, by simp only [put_df], fun i hi => (ev_ne _ _ (Nat.ne_of_gt (Nat.lt_of_lt_of_le hi (by decide)))).trans (ev_ne _ _ (Nat.ne_of_gt (Nat.lt_of_lt_of_le hi (by decide)))), ev_eq _ _ (by simp only [put_sz]; rw [sz]; decide)⟩, rfl⟩
theorem out32 (A : Act) (W : World) (r : Nat) (hr : r < 64) (sz : A.tmps.size = 288) (x16 : A.eval (.tmp 16) = .int .i64 (r : Int)) :
    Code.wp Tryd.prog code32 (fun ex A' W' => ex = .normal ∧ (Out1 A A' 16 (.int .i64 ((r + 1 : Nat) : Int)) ∧ W' = W)) A W := by
  conv => arg 2; whnf
  refine wp_region_list ?_
  refine wpList_yields rfl (.int .i64 (r : Int)) (yields_move (by simp [Region.wanted]) (.tmp 16) rfl _ x16) ?_
  refine wpList_yields rfl (.int .i64 ((r + 1 : Nat) : Int)) (y_addi (by simp [Region.wanted]) (.tmp 141) (.const (.int .i64 1)) rfl (r : Int) 1 _ (ev_eq _ _ (by rw [sz]; decide)) rfl (by rw [IntKind.wrap_i64]; omega)) ?_
  refine wpList_yields rfl (.int .i64 ((r + 1 : Nat) : Int)) (yh_assign (by simp [Region.wanted]) (.tmp 142) rfl _ (ev_eq _ _ (by simp only [put_sz]; rw [sz]; decide))) ?_
  exact wpList_nil ⟨rfl, ⟨by simp only [put_sz]; exact sz, by simp only [put_df], fun i hi hd => (ev_ne _ _ (Ne.symm hd)).trans ((ev_ne _ _ (Nat.ne_of_gt (Nat.lt_of_lt_of_le hi (by decide)))).trans (ev_ne _ _ (Nat.ne_of_gt (Nat.lt_of_lt_of_le hi (by decide))))), ev_eq _ _ (by simp only [put_sz]; rw [sz]; decide)⟩, rfl⟩
theorem out33 (A : Act) (W : World) (gv cv gk gw r : Nat) (a b c d e f g h kk ww X1 SG1 : W32) (ZX1 : Hid (X1 = rotr e 6 ^^^ rotr e 11)) (ZSG1 : Hid (SG1 = X1 ^^^ rotr e 25)) (sz : A.tmps.size = 288) (x15 : A.eval (.tmp 15) = .slice (some ⟨gv, 0, none⟩) 8 cv) (hs0 : Hid (VW W gv ⟨a, b, c, d, e, f, g, h⟩ ∧ W.cell? ⟨gk, r, none⟩ = some (vw kk) ∧ W.cell? ⟨gw, r, none⟩ = some (vw ww))) :
    Code.wp Tryd.prog code33 (fun ex A' W' => ex = .normal ∧ (Out1 A A' 17 (vw SG1) ∧ W' = W.drew.drew.drew.drew)) A W := by
  refine wp_split _ (reg33 A W gv cv gk gw r a b c d e f g h kk ww X1 SG1 ZX1 ZSG1 sz x15 hs0) ?_
  rintro A' W' ⟨rfl, rfl⟩
  exact ⟨rfl, ⟨by simp only [put_sz]; exact sz, by simp only [put_df], fun i hi hd => ((ev_ne _ _ (Ne.symm hd)).trans ((ev_ne _ _ (Nat.ne_of_gt (Nat.lt_of_lt_of_le hi (by decide)))).trans ((ev_ne _ _ (Nat.ne_of_gt (Nat.lt_of_lt_of_le hi (by decide)))).trans ((ev_ne _ _ (Nat.ne_of_gt (Nat.lt_of_lt_of_le hi (by decide)))).trans ((ev_ne _ _ (Nat.ne_of_gt (Nat.lt_of_lt_of_le hi (by decide)))).trans ((ev_ne _ _ (Nat.ne_of_gt (Nat.lt_of_lt_of_le hi (by decide)))).trans ((ev_ne _ _ (Nat.ne_of_gt (Nat.lt_of_lt_of_le hi (by decide)))).trans ((ev_ne _ _ (Nat.ne_of_gt (Nat.lt_of_lt_of_le hi (by decide)))).trans ((ev_ne _ _ (Nat.ne_of_gt (Nat.lt_of_lt_of_le hi (by decide)))).trans ((ev_ne _ _ (Nat.ne_of_gt (Nat.lt_of_lt_of_le hi (by decide)))).trans ((ev_ne _ _ (Nat.ne_of_gt (Nat.lt_of_lt_of_le hi (by decide)))).trans ((ev_ne _ _ (Nat.ne_of_gt (Nat.lt_of_lt_of_le hi (by decide)))).trans ((ev_ne _ _ (Nat.ne_of_gt (Nat.lt_of_lt_of_le hi (by decide)))).trans ((ev_ne _ _ (Nat.ne_of_gt (Nat.lt_of_lt_of_le hi (by decide)))).trans (ev_ne _ _ (Nat.ne_of_gt (Nat.lt_of_lt_of_le hi (by decide)))))))))))))))))), ev_eq _ _ (by simp only [put_sz]; rw [sz]; decide)⟩, rfl⟩
theorem out34 (A : Act) (W : World) (gv cv gk gw r : Nat) (a b c d e f g h kk ww P1 NE P2 CH : W32) (ZP1 : Hid (P1 = e &&& f)) (ZNE : Hid (NE = ~~~e)) (ZP2 : Hid (P2 = NE &&& g)) (ZCH : Hid (CH = P1 ^^^ P2)) (sz : A.tmps.size = 288) (x15 : A.eval (.tmp 15) = .slice (some ⟨gv, 0, none⟩) 8 cv) (hs0 : Hid (VW W gv ⟨a, b, c, d, e, f, g, h⟩ ∧ W.cell? ⟨gk, r, none⟩ = some (vw kk) ∧ W.cell? ⟨gw, r, none⟩ = some (vw ww))) :
    Code.wp Tryd.prog code34 (fun ex A' W' => ex = .normal ∧ (Out1 A A' 18 (vw CH) ∧ W' = W.drew)) A W := by
  refine wp_split _ (reg34 A W gv cv gk gw r a b c d e f g h kk ww P1 NE P2 CH ZP1 ZNE ZP2 ZCH sz x15 hs0) ?_
  rintro A' W' ⟨rfl, rfl⟩
  exact ⟨rfl, ⟨by simp only [put_sz]; exact sz, by simp only [put_df], fun i hi hd => ((ev_ne _ _ (Ne.symm hd)).trans ((ev_ne _ _ (Nat.ne_of_gt (Nat.lt_of_lt_of_le hi (by decide)))).trans ((ev_ne _ _ (Nat.ne_of_gt (Nat.lt_of_lt_of_le hi (by decide)))).trans ((ev_ne _ _ (Nat.ne_of_gt (Nat.lt_of_lt_of_le hi (by decide)))).trans ((ev_ne _ _ (Nat.ne_of_gt (Nat.lt_of_lt_of_le hi (by decide)))).trans ((ev_ne _ _ (Nat.ne_of_gt (Nat.lt_of_lt_of_le hi (by decide)))).trans ((ev_ne _ _ (Nat.ne_of_gt (Nat.lt_of_lt_of_le hi (by decide)))).trans ((ev_ne _ _ (Nat.ne_of_gt (Nat.lt_of_lt_of_le hi (by decide)))).trans ((ev_ne _ _ (Nat.ne_of_gt (Nat.lt_of_lt_of_le hi (by decide)))).trans ((ev_ne _ _ (Nat.ne_of_gt (Nat.lt_of_lt_of_le hi (by decide)))).trans ((ev_ne _ _ (Nat.ne_of_gt (Nat.lt_of_lt_of_le hi (by decide)))).trans ((ev_ne _ _ (Nat.ne_of_gt (Nat.lt_of_lt_of_le hi (by decide)))).trans ((ev_ne _ _ (Nat.ne_of_gt (Nat.lt_of_lt_of_le hi (by decide)))).trans ((ev_ne _ _ (Nat.ne_of_gt (Nat.lt_of_lt_of_le hi (by decide)))).trans ((ev_ne _ _ (Nat.ne_of_gt (Nat.lt_of_lt_of_le hi (by decide)))).trans ((ev_ne _ _ (Nat.ne_of_gt (Nat.lt_of_lt_of_le hi (by decide)))).trans (ev_ne _ _ (Nat.ne_of_gt (Nat.lt_of_lt_of_le hi (by decide)))))))))))))))))))), ev_eq _ _ (by simp only [put_sz]; rw [sz]; decide)⟩, rfl⟩
theorem out35 (A : Act) (W : World) (gv cv gk gw r : Nat) (a b c d e f g h kk ww SG1 CH U1 U2 U3 T1 : W32) (ZU1 : Hid (U1 = h + SG1)) (ZU2 : Hid (U2 = U1 + CH)) (ZU3 : Hid (U3 = U2 + kk)) (ZT1 : Hid (T1 = U3 + ww)) (hlt : r < 64) (sz : A.tmps.size = 288) (x15 : A.eval (.tmp 15) = .slice (some ⟨gv, 0, none⟩) 8 cv) (x17 : A.eval (.tmp 17) = vw SG1) (x18 : A.eval (.tmp 18) = vw CH) (x4 : A.eval (.tmp 4) = .slice (some ⟨gk, 0, none⟩) 64 64) (x9 : A.eval (.tmp 9) = .slice (some ⟨gw, 0, none⟩) 64 64) (x16 : A.eval (.tmp 16) = .int .i64 (r : Int)) (hs0 : Hid (VW W gv ⟨a, b, c, d, e, f, g, h⟩ ∧ W.cell? ⟨gk, r, none⟩ = some (vw kk) ∧ W.cell? ⟨gw, r, none⟩ = some (vw ww))) :
    Code.wp Tryd.prog code35 (fun ex A' W' => ex = .normal ∧ (Out1 A A' 19 (vw T1) ∧ W' = W.drew)) A W := by
  refine wp_split _ (reg35 A W gv cv gk gw r a b c d e f g h kk ww SG1 CH U1 U2 U3 T1 ZU1 ZU2 ZU3 ZT1 hlt sz x15 x17 x18 x4 x9 x16 hs0) ?_
  rintro A' W' ⟨rfl, rfl⟩
  exact ⟨rfl, ⟨by simp only [put_sz]; exact sz, by simp only [put_df], fun i hi hd => ((ev_ne _ _ (Ne.symm hd)).trans ((ev_ne _ _ (Nat.ne_of_gt (Nat.lt_of_lt_of_le hi (by decide)))).trans ((ev_ne _ _ (Nat.ne_of_gt (Nat.lt_of_lt_of_le hi (by decide)))).trans ((ev_ne _ _ (Nat.ne_of_gt (Nat.lt_of_lt_of_le hi (by decide)))).trans ((ev_ne _ _ (Nat.ne_of_gt (Nat.lt_of_lt_of_le hi (by decide)))).trans ((ev_ne _ _ (Nat.ne_of_gt (Nat.lt_of_lt_of_le hi (by decide)))).trans ((ev_ne _ _ (Nat.ne_of_gt (Nat.lt_of_lt_of_le hi (by decide)))).trans ((ev_ne _ _ (Nat.ne_of_gt (Nat.lt_of_lt_of_le hi (by decide)))).trans ((ev_ne _ _ (Nat.ne_of_gt (Nat.lt_of_lt_of_le hi (by decide)))).trans ((ev_ne _ _ (Nat.ne_of_gt (Nat.lt_of_lt_of_le hi (by decide)))).trans ((ev_ne _ _ (Nat.ne_of_gt (Nat.lt_of_lt_of_le hi (by decide)))).trans ((ev_ne _ _ (Nat.ne_of_gt (Nat.lt_of_lt_of_le hi (by decide)))).trans ((ev_ne _ _ (Nat.ne_of_gt (Nat.lt_of_lt_of_le hi (by decide)))).trans ((ev_ne _ _ (Nat.ne_of_gt (Nat.lt_of_lt_of_le hi (by decide)))).trans ((ev_ne _ _ (Nat.ne_of_gt (Nat.lt_of_lt_of_le hi (by decide)))).trans ((ev_ne _ _ (Nat.ne_of_gt (Nat.lt_of_lt_of_le hi (by decide)))).trans ((ev_ne _ _ (Nat.ne_of_gt (Nat.lt_of_lt_of_le hi (by decide)))).trans (ev_ne _ _ (Nat.ne_of_gt (Nat.lt_of_lt_of_le hi (by decide))))))))))))))))))))), ev_eq _ _ (by simp only [put_sz]; rw [sz]; decide)⟩, rfl⟩
theorem out36 (A : Act) (W : World) (gv cv gk gw r : Nat) (a b c d e f g h kk ww Y1 SG0 : W32) (ZY1 : Hid (Y1 = rotr a 2 ^^^ rotr a 13)) (ZSG0 : Hid (SG0 = Y1 ^^^ rotr a 22)) (sz : A.tmps.size = 288) (x15 : A.eval (.tmp 15) = .slice (some ⟨gv, 0, none⟩) 8 cv) (hs0 : Hid (VW W gv ⟨a, b, c, d, e, f, g, h⟩ ∧ W.cell? ⟨gk, r, none⟩ = some (vw kk) ∧ W.cell? ⟨gw, r, none⟩ = some (vw ww))) :
    Code.wp Tryd.prog code36 (fun ex A' W' => ex = .normal ∧ (Out1 A A' 20 (vw SG0) ∧ W' = W.drew.drew.drew.drew)) A W := by
  refine wp_split _ (reg36 A W gv cv gk gw r a b c d e f g h kk ww Y1 SG0 ZY1 ZSG0 sz x15 hs0) ?_
  rintro A' W' ⟨rfl, rfl⟩
  exact ⟨rfl, ⟨by simp only [put_sz]; exact sz, by simp only [put_df], fun i hi hd => ((ev_ne _ _ (Ne.symm hd)).trans ((ev_ne _ _ (Nat.ne_of_gt (Nat.lt_of_lt_of_le hi (by decide)))).trans ((ev_ne _ _ (Nat.ne_of_gt (Nat.lt_of_lt_of_le hi (by decide)))).trans ((ev_ne _ _ (Nat.ne_of_gt (Nat.lt_of_lt_of_le hi (by decide)))).trans ((ev_ne _ _ (Nat.ne_of_gt (Nat.lt_of_lt_of_le hi (by decide)))).trans ((ev_ne _ _ (Nat.ne_of_gt (Nat.lt_of_lt_of_le hi (by decide)))).trans ((ev_ne _ _ (Nat.ne_of_gt (Nat.lt_of_lt_of_le hi (by decide)))).trans ((ev_ne _ _ (Nat.ne_of_gt (Nat.lt_of_lt_of_le hi (by decide)))).trans ((ev_ne _ _ (Nat.ne_of_gt (Nat.lt_of_lt_of_le hi (by decide)))).trans ((ev_ne _ _ (Nat.ne_of_gt (Nat.lt_of_lt_of_le hi (by decide)))).trans ((ev_ne _ _ (Nat.ne_of_gt (Nat.lt_of_lt_of_le hi (by decide)))).trans ((ev_ne _ _ (Nat.ne_of_gt (Nat.lt_of_lt_of_le hi (by decide)))).trans ((ev_ne _ _ (Nat.ne_of_gt (Nat.lt_of_lt_of_le hi (by decide)))).trans ((ev_ne _ _ (Nat.ne_of_gt (Nat.lt_of_lt_of_le hi (by decide)))).trans (ev_ne _ _ (Nat.ne_of_gt (Nat.lt_of_lt_of_le hi (by decide)))))))))))))))))), ev_eq _ _ (by simp only [put_sz]; rw [sz]; decide)⟩, rfl⟩
theorem out37 (A : Act) (W : World) (gv cv gk gw r : Nat) (a b c d e f g h kk ww Q1 Q2 Q3 Q4 MJ : W32) (ZQ1 : Hid (Q1 = a &&& b)) (ZQ2 : Hid (Q2 = a &&& c)) (ZQ3 : Hid (Q3 = Q1 ^^^ Q2)) (ZQ4 : Hid (Q4 = b &&& c)) (ZMJ : Hid (MJ = Q3 ^^^ Q4)) (sz : A.tmps.size = 288) (x15 : A.eval (.tmp 15) = .slice (some ⟨gv, 0, none⟩) 8 cv) (hs0 : Hid (VW W gv ⟨a, b, c, d, e, f, g, h⟩ ∧ W.cell? ⟨gk, r, none⟩ = some (vw kk) ∧ W.cell? ⟨gw, r, none⟩ = some (vw ww))) :
    Code.wp Tryd.prog code37 (fun ex A' W' => ex = .normal ∧ (Out1 A A' 21 (vw MJ) ∧ W' = W.drew)) A W := by
  refine wp_split _ (reg37 A W gv cv gk gw r a b c d e f g h kk ww Q1 Q2 Q3 Q4 MJ ZQ1 ZQ2 ZQ3 ZQ4 ZMJ sz x15 hs0) ?_
  rintro A' W' ⟨rfl, rfl⟩
  exact ⟨rfl, ⟨by simp only [put_sz]; exact sz, by simp only [put_df], fun i hi hd => ((ev_ne _ _ (Ne.symm hd)).trans ((ev_ne _ _ (Nat.ne_of_gt (Nat.lt_of_lt_of_le hi (by decide)))).trans ((ev_ne _ _ (Nat.ne_of_gt (Nat.lt_of_lt_of_le hi (by decide)))).trans ((ev_ne _ _ (Nat.ne_of_gt (Nat.lt_of_lt_of_le hi (by decide)))).trans ((ev_ne _ _ (Nat.ne_of_gt (Nat.lt_of_lt_of_le hi (by decide)))).trans ((ev_ne _ _ (Nat.ne_of_gt (Nat.lt_of_lt_of_le hi (by decide)))).trans ((ev_ne _ _ (Nat.ne_of_gt (Nat.lt_of_lt_of_le hi (by decide)))).trans ((ev_ne _ _ (Nat.ne_of_gt (Nat.lt_of_lt_of_le hi (by decide)))).trans ((ev_ne _ _ (Nat.ne_of_gt (Nat.lt_of_lt_of_le hi (by decide)))).trans ((ev_ne _ _ (Nat.ne_of_gt (Nat.lt_of_lt_of_le hi (by decide)))).trans ((ev_ne _ _ (Nat.ne_of_gt (Nat.lt_of_lt_of_le hi (by decide)))).trans ((ev_ne _ _ (Nat.ne_of_gt (Nat.lt_of_lt_of_le hi (by decide)))).trans ((ev_ne _ _ (Nat.ne_of_gt (Nat.lt_of_lt_of_le hi (by decide)))).trans ((ev_ne _ _ (Nat.ne_of_gt (Nat.lt_of_lt_of_le hi (by decide)))).trans ((ev_ne _ _ (Nat.ne_of_gt (Nat.lt_of_lt_of_le hi (by decide)))).trans ((ev_ne _ _ (Nat.ne_of_gt (Nat.lt_of_lt_of_le hi (by decide)))).trans ((ev_ne _ _ (Nat.ne_of_gt (Nat.lt_of_lt_of_le hi (by decide)))).trans ((ev_ne _ _ (Nat.ne_of_gt (Nat.lt_of_lt_of_le hi (by decide)))).trans ((ev_ne _ _ (Nat.ne_of_gt (Nat.lt_of_lt_of_le hi (by decide)))).trans ((ev_ne _ _ (Nat.ne_of_gt (Nat.lt_of_lt_of_le hi (by decide)))).trans ((ev_ne _ _ (Nat.ne_of_gt (Nat.lt_of_lt_of_le hi (by decide)))).trans ((ev_ne _ _ (Nat.ne_of_gt (Nat.lt_of_lt_of_le hi (by decide)))).trans ((ev_ne _ _ (Nat.ne_of_gt (Nat.lt_of_lt_of_le hi (by decide)))).trans (ev_ne _ _ (Nat.ne_of_gt (Nat.lt_of_lt_of_le hi (by decide))))))))))))))))))))))))))), ev_eq _ _ (by simp only [put_sz]; rw [sz]; decide)⟩, rfl⟩
theorem out38 (A : Act) (W : World) (gv cv gk gw r : Nat) (a b c d e f g h kk ww T1 SG0 MJ V1 NA ND : W32) (ZV1 : Hid (V1 = T1 + SG0)) (ZNA : Hid (NA = V1 + MJ)) (ZND : Hid (ND = d + T1)) (sz : A.tmps.size = 288) (x15 : A.eval (.tmp 15) = .slice (some ⟨gv, 0, none⟩) 8 cv) (x19 : A.eval (.tmp 19) = vw T1) (x20 : A.eval (.tmp 20) = vw SG0) (x21 : A.eval (.tmp 21) = vw MJ) (hs0 : Hid (VW W gv ⟨a, b, c, d, e, f, g, h⟩ ∧ W.cell? ⟨gk, r, none⟩ = some (vw kk) ∧ W.cell? ⟨gw, r, none⟩ = some (vw ww))) :
    Code.wp Tryd.prog code38 (fun ex A' W' => ex = .normal ∧ (Out1 A A' 15 (.slice (some ⟨W.heap.size, 0, none⟩) 8 8) ∧ W' = W.drew.alloc (.cells #[vw NA, vw a, vw b, vw c, vw ND, vw e, vw f, vw g] 129))) A W := by
  refine wp_split _ (reg38 A W gv cv gk gw r a b c d e f g h kk ww T1 SG0 MJ V1 NA ND ZV1 ZNA ZND sz x15 x19 x20 x21 hs0) ?_
  rintro A' W' ⟨rfl, rfl⟩
  exact ⟨rfl, ⟨by simp only [put_sz]; exact sz, by simp only [put_df], fun i hi hd => ((ev_ne _ _ (Ne.symm hd)).trans ((ev_ne _ _ (Nat.ne_of_gt (Nat.lt_of_lt_of_le hi (by decide)))).trans ((ev_ne _ _ (Nat.ne_of_gt (Nat.lt_of_lt_of_le hi (by decide)))).trans ((ev_ne _ _ (Nat.ne_of_gt (Nat.lt_of_lt_of_le hi (by decide)))).trans ((ev_ne _ _ (Nat.ne_of_gt (Nat.lt_of_lt_of_le hi (by decide)))).trans ((ev_ne _ _ (Nat.ne_of_gt (Nat.lt_of_lt_of_le hi (by decide)))).trans ((ev_ne _ _ (Nat.ne_of_gt (Nat.lt_of_lt_of_le hi (by decide)))).trans ((ev_ne _ _ (Nat.ne_of_gt (Nat.lt_of_lt_of_le hi (by decide)))).trans ((ev_ne _ _ (Nat.ne_of_gt (Nat.lt_of_lt_of_le hi (by decide)))).trans ((ev_ne _ _ (Nat.ne_of_gt (Nat.lt_of_lt_of_le hi (by decide)))).trans ((ev_ne _ _ (Nat.ne_of_gt (Nat.lt_of_lt_of_le hi (by decide)))).trans ((ev_ne _ _ (Nat.ne_of_gt (Nat.lt_of_lt_of_le hi (by decide)))).trans ((ev_ne _ _ (Nat.ne_of_gt (Nat.lt_of_lt_of_le hi (by decide)))).trans ((ev_ne _ _ (Nat.ne_of_gt (Nat.lt_of_lt_of_le hi (by decide)))).trans ((ev_ne _ _ (Nat.ne_of_gt (Nat.lt_of_lt_of_le hi (by decide)))).trans ((ev_ne _ _ (Nat.ne_of_gt (Nat.lt_of_lt_of_le hi (by decide)))).trans ((ev_ne _ _ (Nat.ne_of_gt (Nat.lt_of_lt_of_le hi (by decide)))).trans ((ev_ne _ _ (Nat.ne_of_gt (Nat.lt_of_lt_of_le hi (by decide)))).trans ((ev_ne _ _ (Nat.ne_of_gt (Nat.lt_of_lt_of_le hi (by decide)))).trans ((ev_ne _ _ (Nat.ne_of_gt (Nat.lt_of_lt_of_le hi (by decide)))).trans ((ev_ne _ _ (Nat.ne_of_gt (Nat.lt_of_lt_of_le hi (by decide)))).trans ((ev_ne _ _ (Nat.ne_of_gt (Nat.lt_of_lt_of_le hi (by decide)))).trans ((ev_ne _ _ (Nat.ne_of_gt (Nat.lt_of_lt_of_le hi (by decide)))).trans ((ev_ne _ _ (Nat.ne_of_gt (Nat.lt_of_lt_of_le hi (by decide)))).trans ((ev_ne _ _ (Nat.ne_of_gt (Nat.lt_of_lt_of_le hi (by decide)))).trans ((ev_ne _ _ (Nat.ne_of_gt (Nat.lt_of_lt_of_le hi (by decide)))).trans ((ev_ne _ _ (Nat.ne_of_gt (Nat.lt_of_lt_of_le hi (by decide)))).trans ((ev_ne _ _ (Nat.ne_of_gt (Nat.lt_of_lt_of_le hi (by decide)))).trans ((ev_ne _ _ (Nat.ne_of_gt (Nat.lt_of_lt_of_le hi (by decide)))).trans (ev_ne _ _ (Nat.ne_of_gt (Nat.lt_of_lt_of_le hi (by decide))))))))))))))))))))))))))))))))), ev_eq _ _ (by simp only [put_sz]; rw [sz]; decide)⟩, rfl⟩
end Go.Proofs.YthfmpebgmojcaaaDoor
/- The rounds of the reference's Sum: the loop, over a frame that is a letter. -/
namespace Go.Proofs.YthfmpebgmojcaaaDoor
open Go.RowKit
set_option linter.unusedVariables false
set_option maxRecDepth 100000
structure I7 (N gm gw : Nat) (cur : Array Value) (V2 : World) (sH : S8) (bs : List UInt8) (A0 A : Act) (W : World) (r : Nat) : Prop where
  sz : A.tmps.size = 288
  df : A.defers = A0.defers
  keep : ∀ i : Nat, i < 139 → (i < 15 ∨ 21 < i) → A.eval (.tmp i) = A0.eval (.tmp i)
  le : r ≤ 64
  i : A.eval (.tmp 16) = .int .i64 (r : Int)
  v : ∃ gv cv, A.eval (.tmp 15) = .slice (some ⟨gv, 0, none⟩) 8 cv ∧ N + 1 < gv ∧ VW W gv (rds sH bs r)
  sc : W.heap[gw]? = some (.cells (wvs (sched bs)) 129 (0, 0))
  bl : BL N gm cur V2 W sH
def mu7 (A : Act) (_ : World) : Nat := 64 - (intOf (A.eval (.tmp 16))).toNat
theorem ne_mid {i D : Nat} (hc : i < 15 ∨ 21 < i) (h1 : 15 ≤ D) (h2 : D ≤ 21) : i ≠ D := by omega
set_option maxHeartbeats 4000000 in
theorem round7 {Q : Exit → Act → World → Prop} {N gm gw : Nat} {cur : Array Value} {V2 : World} {sH : S8} {bs : List UInt8} {A0 : Act} (x4 : A0.eval (.tmp 4) = .slice (some ⟨N + 1 + 1, 0, none⟩) 64 64) (x9 : A0.eval (.tmp 9) = .slice (some ⟨gw, 0, none⟩) 64 64)
    (hexit : ∀ A W, I7 N gm gw cur V2 sH bs A0 A W 64 → Q (.exit 12) A W) (A : Act) (W : World) (r : Nat) (I : I7 N gm gw cur V2 sH bs A0 A W r) :
    Code.wp Tryd.prog body7 (Exit.then (fun A' W' => (∃ r', I7 N gm gw cur V2 sH bs A0 A' W' r') ∧ mu7 A' W' < mu7 A W) Q) A W := by
  obtain ⟨gv, cv, x15, hgv, hv⟩ := I.v
  conv => arg 2; whnf
  refine wp_seq ?_
  refine wp_seq ?_
  refine wp_split _ (out31 A W r I.sz I.i) ?_
  rintro A1 W1 ⟨⟨sz1, df1, k1, c1⟩, hW1⟩
  show Code.wp _ _ _ A1 W1
  by_cases hlt : r < 64
  · refine wp_cond_true (by rw [c1, decide_eq_true (by omega)]) ?_
    refine wp_skip ?_
    show Code.wp _ _ _ A1 W1
    refine wp_seq ?_
    refine wp_block ?_
    refine wp_seq ?_
    have Hstep := rds_step sH bs r hlt
    have cw : W1.cell? ⟨gw, r, none⟩ = some (vw ((sched bs)[r]'(by rw [sched_length]; exact hlt))) := by
      rw [hW1, cell_of_row _ _ _ _ _ _ I.sc, wvs_get _ r (by rw [sched_length]; exact hlt)]
    have ck : W1.cell? ⟨N + 1 + 1, r, none⟩ = some (vw (KL[r]'(by rw [KL_length]; exact hlt))) := by
      rw [hW1, cell_of_row _ _ _ _ _ _ I.bl.k, kcells_eq, List.getElem?_toArray, List.getElem?_map, List.getElem?_eq_getElem (by rw [KL_length]; exact hlt)]
      rfl
    generalize (sched bs)[r]'(by rw [sched_length]; exact hlt) = ww at cw Hstep
    generalize KL[r]'(by rw [KL_length]; exact hlt) = kk at ck Hstep
    obtain ⟨S, hS⟩ : ∃ S, S = rds sH bs r := ⟨_, rfl⟩
    rw [← hS] at hv Hstep
    obtain ⟨a, b, c, d, e, f, g, h⟩ := S
    obtain ⟨X1, hX1⟩ : ∃ X1 : W32, X1 = rotr e 6 ^^^ rotr e 11 := ⟨_, rfl⟩
    obtain ⟨SG1, hSG1⟩ : ∃ SG1 : W32, SG1 = X1 ^^^ rotr e 25 := ⟨_, rfl⟩
    obtain ⟨P1, hP1⟩ : ∃ P1 : W32, P1 = e &&& f := ⟨_, rfl⟩
    obtain ⟨NE, hNE⟩ : ∃ NE : W32, NE = ~~~e := ⟨_, rfl⟩
    obtain ⟨P2, hP2⟩ : ∃ P2 : W32, P2 = NE &&& g := ⟨_, rfl⟩
    obtain ⟨CH, hCH⟩ : ∃ CH : W32, CH = P1 ^^^ P2 := ⟨_, rfl⟩
    obtain ⟨U1, hU1⟩ : ∃ U1 : W32, U1 = h + SG1 := ⟨_, rfl⟩
    obtain ⟨U2, hU2⟩ : ∃ U2 : W32, U2 = U1 + CH := ⟨_, rfl⟩
    obtain ⟨U3, hU3⟩ : ∃ U3 : W32, U3 = U2 + kk := ⟨_, rfl⟩
    obtain ⟨T1, hT1⟩ : ∃ T1 : W32, T1 = U3 + ww := ⟨_, rfl⟩
    obtain ⟨Y1, hY1⟩ : ∃ Y1 : W32, Y1 = rotr a 2 ^^^ rotr a 13 := ⟨_, rfl⟩
    obtain ⟨SG0, hSG0⟩ : ∃ SG0 : W32, SG0 = Y1 ^^^ rotr a 22 := ⟨_, rfl⟩
    obtain ⟨Q1, hQ1⟩ : ∃ Q1 : W32, Q1 = a &&& b := ⟨_, rfl⟩
    obtain ⟨Q2, hQ2⟩ : ∃ Q2 : W32, Q2 = a &&& c := ⟨_, rfl⟩
    obtain ⟨Q3, hQ3⟩ : ∃ Q3 : W32, Q3 = Q1 ^^^ Q2 := ⟨_, rfl⟩
    obtain ⟨Q4, hQ4⟩ : ∃ Q4 : W32, Q4 = b &&& c := ⟨_, rfl⟩
    obtain ⟨MJ, hMJ⟩ : ∃ MJ : W32, MJ = Q3 ^^^ Q4 := ⟨_, rfl⟩
    obtain ⟨V1, hV1⟩ : ∃ V1 : W32, V1 = T1 + SG0 := ⟨_, rfl⟩
    obtain ⟨NA, hNA⟩ : ∃ NA : W32, NA = V1 + MJ := ⟨_, rfl⟩
    obtain ⟨ND, hND⟩ : ∃ ND : W32, ND = d + T1 := ⟨_, rfl⟩
    have Hnew : rds sH bs (r + 1) = ⟨NA, a, b, c, ND, e, f, g⟩ := by
      rw [Hstep, rd_at, hND, hNA, hV1, hMJ, hQ4, hQ3, hQ2, hQ1, hSG0, hY1, hT1, hU3, hU2, hU1, hCH, hP2, hNE, hP1, hSG1, hX1]
    have hs1 : Hid (VW W1 gv ⟨a, b, c, d, e, f, g, h⟩ ∧ W1.cell? ⟨N + 1 + 1, r, none⟩ = some (vw kk) ∧ W1.cell? ⟨gw, r, none⟩ = some (vw ww)) := ⟨by rw [hW1]; exact hv, ck, cw⟩
    have hd1 : Below W.heap.size W W1 := by rw [hW1]; exact Below.refl _ _
    have y15 : A1.eval (.tmp 15) = .slice (some ⟨gv, 0, none⟩) 8 cv := (k1 15 (by decide)).trans x15
    have y16 : A1.eval (.tmp 16) = .int .i64 (r : Int) := (k1 16 (by decide)).trans I.i
    have y4 : A1.eval (.tmp 4) = .slice (some ⟨N + 1 + 1, 0, none⟩) 64 64 := (k1 4 (by decide)).trans ((I.keep 4 (by decide) (by decide)).trans x4)
    have y9 : A1.eval (.tmp 9) = .slice (some ⟨gw, 0, none⟩) 64 64 := (k1 9 (by decide)).trans ((I.keep 9 (by decide) (by decide)).trans x9)
    have sz := sz1
    refine wp_split _ (out33 A1 W1 gv cv (N + 1 + 1) gw r a b c d e f g h kk ww X1 SG1 hX1 hSG1 sz1 y15 hs1) ?_
    rintro A2 W2 ⟨o2, hW2⟩
    show Code.wp _ _ _ A2 W2
    have sz2 := o2.sz
    have y4_2 : A2.eval (.tmp 4) = .slice (some ⟨N + 1 + 1, 0, none⟩) 64 64 := (o2.keep 4 (by decide) (by decide)).trans y4
    have y9_2 : A2.eval (.tmp 9) = .slice (some ⟨gw, 0, none⟩) 64 64 := (o2.keep 9 (by decide) (by decide)).trans y9
    have y15_2 : A2.eval (.tmp 15) = .slice (some ⟨gv, 0, none⟩) 8 cv := (o2.keep 15 (by decide) (by decide)).trans y15
    have y16_2 : A2.eval (.tmp 16) = .int .i64 (r : Int) := (o2.keep 16 (by decide) (by decide)).trans y16
    have y17_2 : A2.eval (.tmp 17) = vw SG1 := o2.at'
    have hs2 : Hid (VW W2 gv ⟨a, b, c, d, e, f, g, h⟩ ∧ W2.cell? ⟨N + 1 + 1, r, none⟩ = some (vw kk) ∧ W2.cell? ⟨gw, r, none⟩ = some (vw ww)) := by rw [hW2]; exact hs1.out
    have hd2 : Below W.heap.size W W2 := by rw [hW2]; exact hd1.drew.drew.drew.drew
    refine wp_seq ?_
    refine wp_split _ (out34 A2 W2 gv cv (N + 1 + 1) gw r a b c d e f g h kk ww P1 NE P2 CH hP1 hNE hP2 hCH sz2 y15_2 hs2) ?_
    rintro A3 W3 ⟨o3, hW3⟩
    show Code.wp _ _ _ A3 W3
    have sz3 := o3.sz
    have y4_3 : A3.eval (.tmp 4) = .slice (some ⟨N + 1 + 1, 0, none⟩) 64 64 := (o3.keep 4 (by decide) (by decide)).trans y4_2
    have y9_3 : A3.eval (.tmp 9) = .slice (some ⟨gw, 0, none⟩) 64 64 := (o3.keep 9 (by decide) (by decide)).trans y9_2
    have y15_3 : A3.eval (.tmp 15) = .slice (some ⟨gv, 0, none⟩) 8 cv := (o3.keep 15 (by decide) (by decide)).trans y15_2
    have y16_3 : A3.eval (.tmp 16) = .int .i64 (r : Int) := (o3.keep 16 (by decide) (by decide)).trans y16_2
    have y17_3 : A3.eval (.tmp 17) = vw SG1 := (o3.keep 17 (by decide) (by decide)).trans y17_2
    have y18_3 : A3.eval (.tmp 18) = vw CH := o3.at'
    have hs3 : Hid (VW W3 gv ⟨a, b, c, d, e, f, g, h⟩ ∧ W3.cell? ⟨N + 1 + 1, r, none⟩ = some (vw kk) ∧ W3.cell? ⟨gw, r, none⟩ = some (vw ww)) := by rw [hW3]; exact hs2.out
    have hd3 : Below W.heap.size W W3 := by rw [hW3]; exact hd2.drew
    refine wp_seq ?_
    refine wp_split _ (out35 A3 W3 gv cv (N + 1 + 1) gw r a b c d e f g h kk ww SG1 CH U1 U2 U3 T1 hU1 hU2 hU3 hT1 hlt sz3 y15_3 y17_3 y18_3 y4_3 y9_3 y16_3 hs3) ?_
    rintro A4 W4 ⟨o4, hW4⟩
    show Code.wp _ _ _ A4 W4
    have sz4 := o4.sz
    have y4_4 : A4.eval (.tmp 4) = .slice (some ⟨N + 1 + 1, 0, none⟩) 64 64 := (o4.keep 4 (by decide) (by decide)).trans y4_3
    have y9_4 : A4.eval (.tmp 9) = .slice (some ⟨gw, 0, none⟩) 64 64 := (o4.keep 9 (by decide) (by decide)).trans y9_3
    have y15_4 : A4.eval (.tmp 15) = .slice (some ⟨gv, 0, none⟩) 8 cv := (o4.keep 15 (by decide) (by decide)).trans y15_3
    have y16_4 : A4.eval (.tmp 16) = .int .i64 (r : Int) := (o4.keep 16 (by decide) (by decide)).trans y16_3
    have y17_4 : A4.eval (.tmp 17) = vw SG1 := (o4.keep 17 (by decide) (by decide)).trans y17_3
    have y18_4 : A4.eval (.tmp 18) = vw CH := (o4.keep 18 (by decide) (by decide)).trans y18_3
    have y19_4 : A4.eval (.tmp 19) = vw T1 := o4.at'
    have hs4 : Hid (VW W4 gv ⟨a, b, c, d, e, f, g, h⟩ ∧ W4.cell? ⟨N + 1 + 1, r, none⟩ = some (vw kk) ∧ W4.cell? ⟨gw, r, none⟩ = some (vw ww)) := by rw [hW4]; exact hs3.out
    have hd4 : Below W.heap.size W W4 := by rw [hW4]; exact hd3.drew
    refine wp_seq ?_
    refine wp_split _ (out36 A4 W4 gv cv (N + 1 + 1) gw r a b c d e f g h kk ww Y1 SG0 hY1 hSG0 sz4 y15_4 hs4) ?_
    rintro A5 W5 ⟨o5, hW5⟩
    show Code.wp _ _ _ A5 W5
    have sz5 := o5.sz
    have y4_5 : A5.eval (.tmp 4) = .slice (some ⟨N + 1 + 1, 0, none⟩) 64 64 := (o5.keep 4 (by decide) (by decide)).trans y4_4
    have y9_5 : A5.eval (.tmp 9) = .slice (some ⟨gw, 0, none⟩) 64 64 := (o5.keep 9 (by decide) (by decide)).trans y9_4
    have y15_5 : A5.eval (.tmp 15) = .slice (some ⟨gv, 0, none⟩) 8 cv := (o5.keep 15 (by decide) (by decide)).trans y15_4
    have y16_5 : A5.eval (.tmp 16) = .int .i64 (r : Int) := (o5.keep 16 (by decide) (by decide)).trans y16_4
    have y17_5 : A5.eval (.tmp 17) = vw SG1 := (o5.keep 17 (by decide) (by decide)).trans y17_4
    have y18_5 : A5.eval (.tmp 18) = vw CH := (o5.keep 18 (by decide) (by decide)).trans y18_4
    have y19_5 : A5.eval (.tmp 19) = vw T1 := (o5.keep 19 (by decide) (by decide)).trans y19_4
    have y20_5 : A5.eval (.tmp 20) = vw SG0 := o5.at'
    have hs5 : Hid (VW W5 gv ⟨a, b, c, d, e, f, g, h⟩ ∧ W5.cell? ⟨N + 1 + 1, r, none⟩ = some (vw kk) ∧ W5.cell? ⟨gw, r, none⟩ = some (vw ww)) := by rw [hW5]; exact hs4.out
    have hd5 : Below W.heap.size W W5 := by rw [hW5]; exact hd4.drew.drew.drew.drew
    refine wp_seq ?_
    refine wp_split _ (out37 A5 W5 gv cv (N + 1 + 1) gw r a b c d e f g h kk ww Q1 Q2 Q3 Q4 MJ hQ1 hQ2 hQ3 hQ4 hMJ sz5 y15_5 hs5) ?_
    rintro A6 W6 ⟨o6, hW6⟩
    show Code.wp _ _ _ A6 W6
    have sz6 := o6.sz
    have y4_6 : A6.eval (.tmp 4) = .slice (some ⟨N + 1 + 1, 0, none⟩) 64 64 := (o6.keep 4 (by decide) (by decide)).trans y4_5
    have y9_6 : A6.eval (.tmp 9) = .slice (some ⟨gw, 0, none⟩) 64 64 := (o6.keep 9 (by decide) (by decide)).trans y9_5
    have y15_6 : A6.eval (.tmp 15) = .slice (some ⟨gv, 0, none⟩) 8 cv := (o6.keep 15 (by decide) (by decide)).trans y15_5
    have y16_6 : A6.eval (.tmp 16) = .int .i64 (r : Int) := (o6.keep 16 (by decide) (by decide)).trans y16_5
    have y17_6 : A6.eval (.tmp 17) = vw SG1 := (o6.keep 17 (by decide) (by decide)).trans y17_5
    have y18_6 : A6.eval (.tmp 18) = vw CH := (o6.keep 18 (by decide) (by decide)).trans y18_5
    have y19_6 : A6.eval (.tmp 19) = vw T1 := (o6.keep 19 (by decide) (by decide)).trans y19_5
    have y20_6 : A6.eval (.tmp 20) = vw SG0 := (o6.keep 20 (by decide) (by decide)).trans y20_5
    have y21_6 : A6.eval (.tmp 21) = vw MJ := o6.at'
    have hs6 : Hid (VW W6 gv ⟨a, b, c, d, e, f, g, h⟩ ∧ W6.cell? ⟨N + 1 + 1, r, none⟩ = some (vw kk) ∧ W6.cell? ⟨gw, r, none⟩ = some (vw ww)) := by rw [hW6]; exact hs5.out
    have hd6 : Below W.heap.size W W6 := by rw [hW6]; exact hd5.drew
    refine wp_split _ (out38 A6 W6 gv cv (N + 1 + 1) gw r a b c d e f g h kk ww T1 SG0 MJ V1 NA ND hV1 hNA hND sz6 y15_6 y19_6 y20_6 y21_6 hs6) ?_
    rintro A7 W7 ⟨o7, hW7⟩
    show Code.wp _ _ _ A7 W7
    have sz7 := o7.sz
    have y4_7 : A7.eval (.tmp 4) = .slice (some ⟨N + 1 + 1, 0, none⟩) 64 64 := (o7.keep 4 (by decide) (by decide)).trans y4_6
    have y9_7 : A7.eval (.tmp 9) = .slice (some ⟨gw, 0, none⟩) 64 64 := (o7.keep 9 (by decide) (by decide)).trans y9_6
    have y16_7 : A7.eval (.tmp 16) = .int .i64 (r : Int) := (o7.keep 16 (by decide) (by decide)).trans y16_6
    have y17_7 : A7.eval (.tmp 17) = vw SG1 := (o7.keep 17 (by decide) (by decide)).trans y17_6
    have y18_7 : A7.eval (.tmp 18) = vw CH := (o7.keep 18 (by decide) (by decide)).trans y18_6
    have y19_7 : A7.eval (.tmp 19) = vw T1 := (o7.keep 19 (by decide) (by decide)).trans y19_6
    have y20_7 : A7.eval (.tmp 20) = vw SG0 := (o7.keep 20 (by decide) (by decide)).trans y20_6
    have y21_7 : A7.eval (.tmp 21) = vw MJ := (o7.keep 21 (by decide) (by decide)).trans y21_6
    have hd7 : Below W.heap.size W W7 := by rw [hW7]; exact hd6.drew.alloc hd6.size _
    have HBn : BL N gm cur V2 W7 sH := I.bl.below hd7
    have Hsn : W7.heap[gw]? = some (.cells (wvs (sched bs)) 129 (0, 0)) := (hd7.block _ (heap_lt I.sc)).trans I.sc
    have Hvn : VW W7 W6.heap.size (rds sH bs (r + 1)) := by
      rw [Hnew, hW7]
      intro q hq
      rw [show W6.heap.size = W6.drew.heap.size from rfl, cell_of_row _ _ _ _ _ _ (heap_alloc_new W6.drew _)]
      have : q = 0 ∨ q = 1 ∨ q = 2 ∨ q = 3 ∨ q = 4 ∨ q = 5 ∨ q = 6 ∨ q = 7 := by omega
      rcases this with rfl | rfl | rfl | rfl | rfl | rfl | rfl | rfl <;> rfl
    refine wp_split _ (out32 A7 W7 r hlt sz7 y16_7) ?_
    rintro A8 W8 ⟨o8, hW8⟩
    show (∃ r', I7 N gm gw cur V2 sH bs A0 A8 W8 r') ∧ mu7 A8 W8 < mu7 A W
    refine ⟨⟨r + 1, ⟨o8.sz, ?_, fun i hi hc => ?_, by omega, o8.at', ⟨W6.heap.size, 8, (o8.keep 15 (by decide) (by decide)).trans o7.at', Nat.lt_of_lt_of_le (heap_lt I.bl.h) hd6.size, by rw [hW8]; exact Hvn⟩, by rw [hW8]; exact Hsn, by rw [hW8]; exact HBn⟩⟩, ?_⟩
    · rw [o8.df, o7.df, o6.df, o5.df, o4.df, o3.df, o2.df, df1]; exact I.df
    · exact (o8.keep i hi (ne_mid hc (by decide) (by decide))).trans ((o7.keep i hi (ne_mid hc (by decide) (by decide))).trans ((o6.keep i hi (ne_mid hc (by decide) (by decide))).trans ((o5.keep i hi (ne_mid hc (by decide) (by decide))).trans ((o4.keep i hi (ne_mid hc (by decide) (by decide))).trans ((o3.keep i hi (ne_mid hc (by decide) (by decide))).trans ((o2.keep i hi (ne_mid hc (by decide) (by decide))).trans ((k1 i hi).trans (I.keep i hi hc))))))))
    · unfold mu7
      rw [o8.at', I.i]
      simp only [intOf]
      omega
  · refine wp_cond_false (by rw [c1, decide_eq_false (by omega)]) ?_
    refine wp_exit ?_
    show Q (.exit 12) A1 W1
    have hr : r = 64 := by have := I.le; omega
    subst hr
    refine hexit A1 W1 ⟨sz1, df1.trans I.df, fun i hi hc => (k1 i hi).trans (I.keep i hi hc), Nat.le_refl _, (k1 16 (by decide)).trans I.i, ⟨gv, cv, (k1 15 (by decide)).trans x15, hgv, by rw [hW1]; exact hv⟩, by rw [hW1]; exact I.sc, by rw [hW1]; exact I.bl⟩
theorem loop7 {Q : Exit → Act → World → Prop} {N gm gw : Nat} {cur : Array Value} {V2 : World} {sH : S8} {bs : List UInt8} {A0 : Act} {W0 : World} (x4 : A0.eval (.tmp 4) = .slice (some ⟨N + 1 + 1, 0, none⟩) 64 64) (x9 : A0.eval (.tmp 9) = .slice (some ⟨gw, 0, none⟩) 64 64)
    (start : I7 N gm gw cur V2 sH bs A0 A0 W0 0) (hexit : ∀ A W, I7 N gm gw cur V2 sH bs A0 A W 64 → Q (.exit 12) A W) : Code.wp Tryd.prog (Code.loop body7) Q A0 W0 :=
  wp_loop (fun A W => ∃ r, I7 N gm gw cur V2 sH bs A0 A W r) mu7 ⟨0, start⟩ (fun A W ⟨r, h⟩ => round7 x4 x9 hexit A W r h)
end Go.Proofs.YthfmpebgmojcaaaDoor
/- The words of a block added to the state (loop 8 of the reference's Sum), over a frame that is a letter. -/
namespace Go.Proofs.YthfmpebgmojcaaaDoor
open Go.RowKit
set_option linter.unusedVariables false
set_option maxRecDepth 100000
structure Keep (A A' : Act) (L : List Nat) : Prop where
  sz : A'.tmps.size = A.tmps.size
  df : A'.defers = A.defers
  keep : ∀ i : Nat, i ∉ L → A'.eval (.tmp i) = A.eval (.tmp i)
theorem Keep.refl (A : Act) (L : List Nat) : Keep A A L := ⟨rfl, rfl, fun _ _ => rfl⟩
theorem Keep.put {A A' : Act} {L : List Nat} (h : Keep A A' L) (d : Nat) (v : Value) (hd : d ∈ L) : Keep A (A'.put (some d) v) L :=
  ⟨(put_sz _ _ _).trans h.sz, (put_df _ _ _).trans h.df, fun i hi => (ev_ne _ _ (fun e => hi (by have e' : d = i := e; rw [← e']; exact hd))).trans (h.keep i hi)⟩
theorem Keep.putn {A A' : Act} {L : List Nat} (h : Keep A A' L) (v : Value) : Keep A (A'.put none v) L := ⟨(put_sz _ _ _).trans h.sz, (put_df _ _ _).trans h.df, h.keep⟩
theorem Keep.trans {A B D : Act} {L : List Nat} (h : Keep A B L) (k : Keep B D L) : Keep A D L := ⟨k.sz.trans h.sz, k.df.trans h.df, fun i hi => (k.keep i hi).trans (h.keep i hi)⟩
theorem Keep.mono {A B : Act} {L M : List Nat} (h : Keep A B L) (k : ∀ i, i ∈ L → i ∈ M) : Keep A B M := ⟨h.sz, h.df, fun i hi => h.keep i (fun hm => hi (k i hm))⟩
theorem wp_yields {ops : Array Oper} {S : World → Prop} {o : Oper} {a : Act} {w : World} {v : Value} {K : Act → World → Prop} {Q : Exit → Act → World → Prop} (hy : YieldsIf Tryd.prog ops S o v a) (hs : S w) (hg : o.guard = none) (h : K (a.put o.dst v) w) : o.wp Tryd.prog a w K Q := by
  rcases hy with ⟨_, hr⟩ | ⟨hn, _⟩
  · unfold Oper.wp
    rw [hr w hs, Oper.upon_value]
    exact h
  · exact absurd hn (by simp [Region.wanted, hg])
theorem wpOp_yields {ops : Array Oper} {i : Nat} {o : Oper} {S : World → Prop} {a : Act} {w : World} {v : Value} {K : Act → World → Prop} {Q : Exit → Act → World → Prop} (hi : ops[i]? = some o) (hg : o.guard = none) (hy : YieldsIf Tryd.prog ops S o v a) (hs : S w) (h : K (a.put o.dst v) w) : wpOp Tryd.prog ops Q i K a w :=
  wpOp_own hi hg fun K' hK' => wp_yields hy hs hg (hK' _ _ h)
theorem wpOp_storeW {ops : Array Oper} {i : Nat} {o : Oper} {a : Act} {w : World} {K : Act → World → Prop} {Q : Exit → Act → World → Prop} (hi : ops[i]? = some o) (hg : o.guard = none) (x y : Operand) (ho : o.op = .store 129 x y) (g k : Nat) (v : W32) (u : Value) (hx : a.eval x = .pointer (some ⟨g, k, none⟩)) (hy : a.eval y = vw v)
    (hc : w.cell? ⟨g, k, none⟩ = some u) (hf : w.frozen? ⟨g, k, none⟩ = false) (h : K (a.put o.dst undef) (w.setCell ⟨g, k, none⟩ (vw v))) : wpOp Tryd.prog ops Q i K a w :=
  wpOp_own hi hg fun K' hK' => wp_store_word x y ho g k v u hx hy hc hf (hK' _ _ h)
abbrev L8 : List Nat := [22, 256, 257, 258, 259, 260, 261, 262, 263, 264, 265, 266, 267, 268, 269]
noncomputable def code40 : Code := ((Tryd.f104.body.bind (regionAt 40)).getD .skip)
noncomputable def code41 : Code := ((Tryd.f104.body.bind (regionAt 41)).getD .skip)
noncomputable def code42 : Code := ((Tryd.f104.body.bind (regionAt 42)).getD .skip)
noncomputable def body8 : Code := ((Tryd.f104.body.bind (loopAt 42)).getD .skip)
theorem out40 (A : Act) (W : World) (r : Nat) (sz : A.tmps.size = 288) (x22 : A.eval (.tmp 22) = .int .i64 (r : Int)) :
    Code.wp Tryd.prog code40 (fun ex A' W' => ex = .normal ∧ ((Keep A A' [256, 257] ∧ A'.eval (.tmp 257) = .bool (decide ((r : Int) < 8))) ∧ W' = W)) A W := by
  conv => arg 2; whnf
  refine wp_region_list ?_
  refine wpList_yields rfl (.int .i64 (r : Int)) (yields_move (by simp [Region.wanted]) (.tmp 22) rfl _ x22) ?_
  refine wpList_yields rfl (.bool (decide ((r : Int) < 8))) (y_lss (by simp [Region.wanted]) (.tmp 256) (.const (.int .i64 8)) rfl (r : Int) 8 (ev_eq _ _ (by rw [sz]; decide)) rfl) ?_
  exact wpList_nil ⟨rfl, ⟨((Keep.refl A _).put 256 _ (by decide)).put 257 _ (by decide), ev_eq _ _ (by simp only [put_sz]; rw [sz]; decide)⟩, rfl⟩
theorem out41 (A : Act) (W : World) (r : Nat) (hr : r < 64) (sz : A.tmps.size = 288) (x22 : A.eval (.tmp 22) = .int .i64 (r : Int)) :
    Code.wp Tryd.prog code41 (fun ex A' W' => ex = .normal ∧ ((Keep A A' [22, 258, 259] ∧ A'.eval (.tmp 22) = .int .i64 ((r + 1 : Nat) : Int)) ∧ W' = W)) A W := by
  conv => arg 2; whnf
  refine wp_region_list ?_
  refine wpList_yields rfl (.int .i64 (r : Int)) (yields_move (by simp [Region.wanted]) (.tmp 22) rfl _ x22) ?_
  refine wpList_yields rfl (.int .i64 ((r + 1 : Nat) : Int)) (y_addi (by simp [Region.wanted]) (.tmp 258) (.const (.int .i64 1)) rfl (r : Int) 1 _ (ev_eq _ _ (by rw [sz]; decide)) rfl (by rw [IntKind.wrap_i64]; omega)) ?_
  refine wpList_yields rfl (.int .i64 ((r + 1 : Nat) : Int)) (yh_assign (by simp [Region.wanted]) (.tmp 259) rfl _ (ev_eq _ _ (by simp only [put_sz]; rw [sz]; decide))) ?_
  exact wpList_nil ⟨rfl, ⟨(((Keep.refl A _).put 258 _ (by decide)).put 259 _ (by decide)).put 22 _ (by decide), ev_eq _ _ (by simp only [put_sz]; rw [sz]; decide)⟩, rfl⟩
set_option maxHeartbeats 4000000 in
theorem out42 (A : Act) (W : World) (N gv cv j : Nat) (p q : W32) (hj : j < 8) (hg : N + 1 < gv) (sz : A.tmps.size = 288) (x3 : A.eval (.tmp 3) = .slice (some ⟨N + 1, 0, none⟩) 8 8) (x15 : A.eval (.tmp 15) = .slice (some ⟨gv, 0, none⟩) 8 cv) (x22 : A.eval (.tmp 22) = .int .i64 (j : Int))
    (hp : W.cell? ⟨N + 1, j, none⟩ = some (vw p)) (hs : W.cell? ⟨gv, j, none⟩ = some (vw q)) (hf : W.frozen? ⟨N + 1, j, none⟩ = false) :
    Code.wp Tryd.prog code42 (fun ex A' W' => ex = .normal ∧ (Keep A A' [260, 261, 262, 263, 264, 265, 266, 267, 268, 269] ∧ W' = W.drew.setCell ⟨N + 1, j, none⟩ (vw (p + q)))) A W := by
  have hmx : Tryd.prog.follows .mixedOrders = true := by kernel_rfl
  conv => arg 2; whnf
  refine wp_region_held (S := fun w9 => w9.cell? ⟨gv, j, none⟩ = some (vw q)) hmx ?_
  show wpAnyH _ _ _ _ _ _ _ _ (World.drew W)
  refine wpAnyH_take (i := 0) (v := .slice (some ⟨N + 1, 0, none⟩) 8 8) rfl (by kernel_rfl) (by kernel_rfl) (by kernel_rfl) (fun _ _ _ h => nomatch h.1) (yields_move (by simp [Region.wanted]) (.tmp 3) rfl _ x3) hs ?_
  refine wpAnyH_take (i := 1) (v := .int .i64 (j : Int)) rfl (by kernel_rfl) (by kernel_rfl) (by kernel_rfl) (fun _ _ _ h => nomatch h.1) (yields_move (by simp [Region.wanted]) (.tmp 22) rfl _ (evn x22)) hs ?_
  refine wpAnyH_take (i := 2) (v := .pointer (some ⟨N + 1, j, none⟩)) rfl (by kernel_rfl) (by kernel_rfl) (by kernel_rfl) (fun _ _ _ h => nomatch h.1) (y_index (by simp [Region.wanted]) (.tmp 260) (.tmp 261) rfl (N + 1) 8 8 j (evn (ev_eq _ _ (by (try simp only [put_sz]); rw [sz]; decide))) (ev_eq _ _ (by (try simp only [put_sz]); rw [sz]; decide)) hj) hs ?_
  refine wpAnyH_take (i := 4) (v := .slice (some ⟨gv, 0, none⟩) 8 cv) rfl (by kernel_rfl) (by kernel_rfl) (by kernel_rfl) (fun _ _ _ h => nomatch h.1) (yields_move (by simp [Region.wanted]) (.tmp 15) rfl _ (evn (evn (evn x15)))) hs ?_
  refine wpAnyH_take (i := 5) (v := .int .i64 (j : Int)) rfl (by kernel_rfl) (by kernel_rfl) (by kernel_rfl) (fun _ _ _ h => nomatch h.1) (yields_move (by simp [Region.wanted]) (.tmp 22) rfl _ (evn (evn (evn (evn x22))))) hs ?_
  refine wpAnyH_take (i := 6) (v := .pointer (some ⟨gv, j, none⟩)) rfl (by kernel_rfl) (by kernel_rfl) (by kernel_rfl) (fun _ _ _ h => nomatch h.1) (y_index (by simp [Region.wanted]) (.tmp 264) (.tmp 265) rfl gv 8 cv j (evn (ev_eq _ _ (by (try simp only [put_sz]); rw [sz]; decide))) (ev_eq _ _ (by (try simp only [put_sz]); rw [sz]; decide)) hj) hs ?_
  refine wpAnyH_take (i := 7) (v := vw q) rfl (by kernel_rfl) (by kernel_rfl) (by kernel_rfl) (fun _ _ _ h => nomatch h.1) (y_load (by simp [Region.wanted]) (.tmp 266) rfl gv j q (ev_eq _ _ (by (try simp only [put_sz]); rw [sz]; decide)) (fun w h => h)) hs ?_
  refine wpAnyH_all (rs := [3]) (by kernel_rfl) (by simp) fun i9 hmem => ?_
  obtain rfl : i9 = 3 := by simpa using hmem
  refine wpOp_yields (S := fun x => x.cell? ⟨N + 1, j, none⟩ = some (vw p)) (v := vw p) rfl (by kernel_rfl) (y_load (by simp [Region.wanted]) (.tmp 262) rfl (N + 1) j p (evn (evn (evn (evn (ev_eq _ _ (by (try simp only [put_sz]); rw [sz]; decide)))))) (fun w h => h)) hp ⟨hs, ?_⟩
  show wpAnyH _ _ _ _ _ _ _ ((((((((A.put (some 260) (.slice (some ⟨N + 1, 0, none⟩) 8 8)).put (some 261) (.int .i64 (j : Int))).put (some 262) (.pointer (some ⟨N + 1, j, none⟩))).put (some 264) (.slice (some ⟨gv, 0, none⟩) 8 cv)).put (some 265) (.int .i64 (j : Int))).put (some 266) (.pointer (some ⟨gv, j, none⟩))).put (some 267) (vw q)).put (some 263) (vw p)) _
  refine wpAnyH_take (i := 8) (v := vw (p + q)) rfl (by kernel_rfl) (by kernel_rfl) (by kernel_rfl) (fun _ _ _ h => nomatch h.1) (y_add (by simp [Region.wanted]) (.tmp 263) (.tmp 267) rfl p q (ev_eq _ _ (by (try simp only [put_sz]); rw [sz]; decide)) (evn (ev_eq _ _ (by (try simp only [put_sz]); rw [sz]; decide)))) hs ?_
  refine wpAnyH_take (i := 9) (v := .pointer (some ⟨N + 1, j, none⟩)) rfl (by kernel_rfl) (by kernel_rfl) (by kernel_rfl) (fun _ _ _ h => nomatch h.1) (y_index (by simp [Region.wanted]) (.tmp 260) (.tmp 261) rfl (N + 1) 8 8 j (evn (evn (evn (evn (evn (evn (evn (evn (ev_eq _ _ (by (try simp only [put_sz]); rw [sz]; decide)))))))))) (evn (evn (evn (evn (evn (evn (evn (ev_eq _ _ (by (try simp only [put_sz]); rw [sz]; decide))))))))) hj) hs ?_
  refine wpAnyH_all (rs := [10]) (by kernel_rfl) (by simp) fun i9 hmem => ?_
  obtain rfl : i9 = 10 := by simpa using hmem
  refine wpOp_storeW rfl (by kernel_rfl) (.tmp 269) (.tmp 268) rfl (N + 1) j (p + q) _ (ev_eq _ _ (by (try simp only [put_sz]); rw [sz]; decide)) (evn (ev_eq _ _ (by (try simp only [put_sz]); rw [sz]; decide))) hp hf ⟨(World.cell?_setCell_other _ _ _ _ (by intro h; simp only [Addr.mk.injEq] at h; omega)).trans hs, wpAnyH_done (by kernel_rfl) ⟨rfl, ?_, rfl⟩ _⟩
  exact (((((((((((Keep.refl A _).put 260 _ (by decide)).put 261 _ (by decide)).put 262 _ (by decide)).put 264 _ (by decide)).put 265 _ (by decide)).put 266 _ (by decide)).put 267 _ (by decide)).put 263 _ (by decide)).put 268 _ (by decide)).put 269 _ (by decide)).putn _
end Go.Proofs.YthfmpebgmojcaaaDoor
/- The words of a block added to the state: loop 8 of the reference's Sum, over a frame that is a letter. -/
namespace Go.Proofs.YthfmpebgmojcaaaDoor
open Go.RowKit
set_option linter.unusedVariables false
set_option maxRecDepth 100000
def mix8 (s e : S8) (j : Nat) : S8 := ⟨if 0 < j then s.a + e.a else s.a, if 1 < j then s.b + e.b else s.b, if 2 < j then s.c + e.c else s.c, if 3 < j then s.d + e.d else s.d, if 4 < j then s.e + e.e else s.e, if 5 < j then s.f + e.f else s.f, if 6 < j then s.g + e.g else s.g, if 7 < j then s.h + e.h else s.h⟩
theorem mix8_zero (s e : S8) : mix8 s e 0 = s := rfl
theorem mix8_all (s e : S8) : mix8 s e 8 = s.add e := rfl
theorem mix8_step (s e : S8) (j : Nat) (h : j < 8) : (mix8 s e j).vals.setIfInBounds j (vw ((mix8 s e j).toL[j]'h + e.toL[j]'h)) = (mix8 s e (j + 1)).vals := by
  have : j = 0 ∨ j = 1 ∨ j = 2 ∨ j = 3 ∨ j = 4 ∨ j = 5 ∨ j = 6 ∨ j = 7 := by omega
  rcases this with rfl | rfl | rfl | rfl | rfl | rfl | rfl | rfl <;> rfl
structure I8 (N gm gv cv : Nat) (cur : Array Value) (V2 : World) (sH e8 : S8) (A0 A : Act) (W : World) (j : Nat) : Prop where
  sz : A.tmps.size = 288
  k : Keep A0 A L8
  le : j ≤ 8
  i : A.eval (.tmp 22) = .int .i64 (j : Int)
  v : VW W gv e8
  bl : BL N gm cur V2 W (mix8 sH e8 j)
def mu8 (A : Act) (_ : World) : Nat := 8 - (intOf (A.eval (.tmp 22))).toNat
set_option maxHeartbeats 400000 in
theorem round8 {Q : Exit → Act → World → Prop} {N gm gv cv : Nat} {cur : Array Value} {V2 : World} {sH e8 : S8} {A0 : Act} (x3 : A0.eval (.tmp 3) = .slice (some ⟨N + 1, 0, none⟩) 8 8) (x15 : A0.eval (.tmp 15) = .slice (some ⟨gv, 0, none⟩) 8 cv) (hg : N + 1 < gv) (hgm : gm ≠ N + 1)
    (hexit : ∀ A W, I8 N gm gv cv cur V2 sH e8 A0 A W 8 → Q (.exit 14) A W) (A : Act) (W : World) (j : Nat) (I : I8 N gm gv cv cur V2 sH e8 A0 A W j) :
    Code.wp Tryd.prog body8 (Exit.then (fun A' W' => (∃ j', I8 N gm gv cv cur V2 sH e8 A0 A' W' j') ∧ mu8 A' W' < mu8 A W) Q) A W := by
  conv => arg 2; whnf
  refine wp_seq ?_
  refine wp_seq ?_
  refine wp_split _ (out40 A W j I.sz I.i) ?_
  rintro A1 W1 ⟨⟨k1, c1⟩, hW1⟩
  show Code.wp _ _ _ A1 W1
  have K1 : Keep A A1 L8 := k1.mono (by decide)
  have sz1 : A1.tmps.size = 288 := K1.sz.trans I.sz
  have y22 : A1.eval (.tmp 22) = .int .i64 (j : Int) := (k1.keep 22 (by decide)).trans I.i
  by_cases hlt : j < 8
  · refine wp_cond_true (by rw [c1, decide_eq_true (by omega)]) ?_
    refine wp_skip ?_
    show Code.wp _ _ _ A1 W1
    refine wp_seq ?_
    refine wp_block ?_
    have y3 := (K1.keep 3 (by decide)).trans ((I.k.keep 3 (by decide)).trans x3)
    have y15 := (K1.keep 15 (by decide)).trans ((I.k.keep 15 (by decide)).trans x15)
    have hp : W1.cell? ⟨N + 1, j, none⟩ = some (vw ((mix8 sH e8 j).toL[j]'hlt)) := by rw [hW1, cell_of_row _ _ _ _ _ _ I.bl.h, vals_get _ j hlt]
    have hf : W1.frozen? ⟨N + 1, j, none⟩ = false := by rw [hW1]; exact frozen_of_row _ _ j _ _ I.bl.h
    refine wp_split _ (out42 A1 W1 N gv cv j _ (e8.toL[j]'hlt) hlt hg sz1 y3 y15 y22 hp (by rw [hW1]; exact I.v j hlt) hf) ?_
    rintro A2 W2 ⟨k2, hW2⟩
    show Code.wp _ _ _ A2 W2
    have K2 : Keep A1 A2 L8 := k2.mono (by decide)
    refine wp_split _ (out41 A2 W2 j (by omega) (K2.sz.trans sz1) ((k2.keep 22 (by decide)).trans y22)) ?_
    rintro A3 W3 ⟨⟨k3, c3⟩, hW3⟩
    show (∃ j', I8 N gm gv cv cur V2 sH e8 A0 A3 W3 j') ∧ mu8 A3 W3 < mu8 A W
    have K3 : Keep A2 A3 L8 := k3.mono (by decide)
    have hb1 : Below (N + 1) V2 W1 := by rw [hW1]; exact I.bl.bel
    have hh1 : W1.heap[N + 1]? = some (.cells (mix8 sH e8 j).vals 129 (0, 0)) := by rw [hW1]; exact I.bl.h
    have hk1 : W1.heap[N + 1 + 1]? = some (.cells kcells 129 (0, 0)) := by rw [hW1]; exact I.bl.k
    have hm1 : W1.heap[gm]? = some (.cells cur 5 (0, 0)) := by rw [hW1]; exact I.bl.m
    have hv1 : VW W1 gv e8 := by rw [hW1]; exact I.v
    refine ⟨⟨j + 1, ⟨K3.sz.trans (K2.sz.trans sz1), I.k.trans (K1.trans (K2.trans K3)), by omega, c3, ?_, ?_⟩⟩, ?_⟩
    · rw [hW3, hW2]
      intro q hq
      exact (World.cell?_setCell_other _ _ _ _ (by intro h; simp only [Addr.mk.injEq] at h; omega)).trans (hv1 q hq)
    · rw [hW3, hW2]
      refine ⟨?_, (heap_setCell_other _ _ _ _ (by simp)).trans hk1, (heap_setCell_other _ _ _ _ hgm).trans hm1, hb1.drew.setCell (Nat.le_refl _) _⟩
      rw [heap_setCell_same _ _ _ _ _ _ (show W1.drew.heap[N + 1]? = _ from hh1), mix8_step _ _ _ hlt]
    · unfold mu8
      rw [c3, I.i]
      simp only [intOf]
      omega
  · refine wp_cond_false (by rw [c1, decide_eq_false (by omega)]) ?_
    refine wp_exit ?_
    show Q (.exit 14) A1 W1
    have hr : j = 8 := by have := I.le; omega
    subst hr
    exact hexit A1 W1 ⟨sz1, I.k.trans K1, Nat.le_refl _, y22, by rw [hW1]; exact I.v, by rw [hW1]; exact I.bl⟩
theorem loop8 {Q : Exit → Act → World → Prop} {N gm gv cv : Nat} {cur : Array Value} {V2 : World} {sH e8 : S8} {A0 : Act} {W0 : World} (x3 : A0.eval (.tmp 3) = .slice (some ⟨N + 1, 0, none⟩) 8 8) (x15 : A0.eval (.tmp 15) = .slice (some ⟨gv, 0, none⟩) 8 cv) (hg : N + 1 < gv) (hgm : gm ≠ N + 1)
    (start : I8 N gm gv cv cur V2 sH e8 A0 A0 W0 0) (hexit : ∀ A W, I8 N gm gv cv cur V2 sH e8 A0 A W 8 → Q (.exit 14) A W) : Code.wp Tryd.prog (Code.loop body8) Q A0 W0 :=
  wp_loop (fun A W => ∃ j, I8 N gm gv cv cur V2 sH e8 A0 A W j) mu8 ⟨0, start⟩ (fun A W ⟨j, h⟩ => round8 x3 x15 hg hgm hexit A W j h)
end Go.Proofs.YthfmpebgmojcaaaDoor
