/- YthfmpebgmojcaaaDoorHRefL6 + YthfmpebgmojcaaaDoorHRefM6 + YthfmpebgmojcaaaDoorHRefL5 -/
import Derived.Test.YthfmpebgmojcaaaDoorHRefM8
/- The words spread (loop 6 of the reference's Sum): its regions, over a frame that is a letter. -/
namespace Go.Proofs.YthfmpebgmojcaaaDoor
open Go.RowKit
set_option linter.unusedVariables false
set_option maxRecDepth 100000
theorem y_subi {ops : Array Oper} {S : World → Prop} {op : Oper} {a : Act} (hw : Region.wanted op (yielded ops a.tmps) = true) (x y : Operand) (ho : op.op = .binOp .sub 3 x y 3) (p q z : Int) (hx : a.eval x = .int .i64 p) (hy : a.eval y = .int .i64 q) (hz : IntKind.i64.wrap (p - q) = z) : YieldsIf Tryd.prog ops S op (.int .i64 z) a := by
  refine .inl ⟨hw, fun w _ => ?_⟩
  unfold execOp
  simp only [ho, hx, hy]
  simp [go_sem, hz]
theorem y_shr3 {ops : Array Oper} {S : World → Prop} {op : Oper} {a : Act} (hw : Region.wanted op (yielded ops a.tmps) = true) (x y : Operand) (ho : op.op = .binOp .shr 129 x y 194) (p : W32) (hx : a.eval x = vw p) (hy : a.eval y = .int .u64 3) : YieldsIf Tryd.prog ops S op (vw (p >>> 3)) a := by
  refine .inl ⟨hw, fun w _ => ?_⟩
  have h1 := w_shr3 p
  unfold execOp
  simp only [ho, hx, hy]
  simp [go_sem, h1]
theorem y_shr10 {ops : Array Oper} {S : World → Prop} {op : Oper} {a : Act} (hw : Region.wanted op (yielded ops a.tmps) = true) (x y : Operand) (ho : op.op = .binOp .shr 129 x y 194) (p : W32) (hx : a.eval x = vw p) (hy : a.eval y = .int .u64 10) : YieldsIf Tryd.prog ops S op (vw (p >>> 10)) a := by
  refine .inl ⟨hw, fun w _ => ?_⟩
  have h1 := w_shr10 p
  unfold execOp
  simp only [ho, hx, hy]
  simp [go_sem, h1]
theorem wpOp_turn {ops : Array Oper} {i : Nat} {o : Oper} {a : Act} {w : World} {K : Act → World → Prop} {Q : Exit → Act → World → Prop} (hi : ops[i]? = some o) (hg : o.guard = none) (x : Operand) (n : Nat) (ats : Array TypeId) (ho : o.op = .call { callee := .value (.func 120), args := #[x, .const (.int .i64 (n : Int))], argTypes := ats }) (p : W32) (hx : a.eval x = vw p)
    (ht : ∀ w : World, Calls Tryd.prog 120 #[vw p, .int .i64 (n : Int)] w fun e w' => e = .returned (vw (rotr p n)) ∧ w' = w.drew) (h : K (a.put o.dst (vw (rotr p n))) w.drew) : wpOp Tryd.prog ops Q i K a w :=
  wpOp_own hi hg fun K' hK' => wp_calls2 120 hf_turn x (.const (.int .i64 (n : Int))) _ ho (vw p) (.int .i64 (n : Int)) hx rfl ((ht w).mono fun e w' h' => ⟨_, h'.1, hK' _ _ (h'.2 ▸ h)⟩)
abbrev L6 : List Nat := [12, 13, 14, 90, 91, 92, 93, 94, 95, 96, 97, 98, 99, 100, 101, 102, 103, 104, 105, 106, 107, 108, 109, 110, 111, 112, 113, 114, 115, 116, 117, 118, 119, 120, 121, 122, 123, 124, 125, 126, 127, 128, 129, 130, 131, 132, 133, 134, 135]
noncomputable def code24 : Code := ((Tryd.f104.body.bind (regionAt 24)).getD .skip)
noncomputable def code25 : Code := ((Tryd.f104.body.bind (regionAt 25)).getD .skip)
noncomputable def code26 : Code := ((Tryd.f104.body.bind (regionAt 26)).getD .skip)
noncomputable def code27 : Code := ((Tryd.f104.body.bind (regionAt 27)).getD .skip)
noncomputable def body6 : Code := ((Tryd.f104.body.bind (loopAt 27)).getD .skip)
theorem out24 (A : Act) (W : World) (r : Nat) (sz : A.tmps.size = 288) (x12 : A.eval (.tmp 12) = .int .i64 (r : Int)) :
    Code.wp Tryd.prog code24 (fun ex A' W' => ex = .normal ∧ ((Keep A A' [90, 91] ∧ A'.eval (.tmp 91) = .bool (decide ((r : Int) < 64))) ∧ W' = W)) A W := by
  conv => arg 2; whnf
  refine wp_region_list ?_
  refine wpList_yields rfl (.int .i64 (r : Int)) (yields_move (by simp [Region.wanted]) (.tmp 12) rfl _ x12) ?_
  refine wpList_yields rfl (.bool (decide ((r : Int) < 64))) (y_lss (by simp [Region.wanted]) (.tmp 90) (.const (.int .i64 64)) rfl (r : Int) 64 (ev_eq _ _ (by rw [sz]; decide)) rfl) ?_
  exact wpList_nil ⟨rfl, ⟨((Keep.refl A _).put 90 _ (by decide)).put 91 _ (by decide), ev_eq _ _ (by simp only [put_sz]; rw [sz]; decide)⟩, rfl⟩
theorem out25 (A : Act) (W : World) (r : Nat) (hr : r < 64) (sz : A.tmps.size = 288) (x12 : A.eval (.tmp 12) = .int .i64 (r : Int)) :
    Code.wp Tryd.prog code25 (fun ex A' W' => ex = .normal ∧ ((Keep A A' [12, 92, 93] ∧ A'.eval (.tmp 12) = .int .i64 ((r + 1 : Nat) : Int)) ∧ W' = W)) A W := by
  conv => arg 2; whnf
  refine wp_region_list ?_
  refine wpList_yields rfl (.int .i64 (r : Int)) (yields_move (by simp [Region.wanted]) (.tmp 12) rfl _ x12) ?_
  refine wpList_yields rfl (.int .i64 ((r + 1 : Nat) : Int)) (y_addi (by simp [Region.wanted]) (.tmp 92) (.const (.int .i64 1)) rfl (r : Int) 1 _ (ev_eq _ _ (by rw [sz]; decide)) rfl (by rw [IntKind.wrap_i64]; omega)) ?_
  refine wpList_yields rfl (.int .i64 ((r + 1 : Nat) : Int)) (yh_assign (by simp [Region.wanted]) (.tmp 93) rfl _ (ev_eq _ _ (by simp only [put_sz]; rw [sz]; decide))) ?_
  exact wpList_nil ⟨rfl, ⟨(((Keep.refl A _).put 92 _ (by decide)).put 93 _ (by decide)).put 12 _ (by decide), ev_eq _ _ (by simp only [put_sz]; rw [sz]; decide)⟩, rfl⟩
set_option maxHeartbeats 1000000 in
theorem out26 (A : Act) (W : World) (gw e e15 e2 : Nat) (x y : W32) (h15 : e15 + 15 = e) (h2 : e2 + 2 = e) (he : e < 64) (sz : A.tmps.size = 288) (x9 : A.eval (.tmp 9) = .slice (some ⟨gw, 0, none⟩) 64 64) (x12 : A.eval (.tmp 12) = .int .i64 (e : Int)) (hs : W.cell? ⟨gw, e15, none⟩ = some (vw x) ∧ W.cell? ⟨gw, e2, none⟩ = some (vw y)) :
    Code.wp Tryd.prog code26 (fun ex A' W' => ex = .normal ∧ ((Keep A A' L6 ∧ A'.eval (.tmp 12) = A.eval (.tmp 12) ∧ A'.eval (.tmp 13) = vw x ∧ A'.eval (.tmp 14) = vw y) ∧ W' = W.drew)) A W := by
  have hmx : Tryd.prog.follows .mixedOrders = true := by kernel_rfl
  conv => arg 2; whnf
  refine wp_region_held (S := fun w9 => w9.cell? ⟨gw, e15, none⟩ = some (vw x) ∧ w9.cell? ⟨gw, e2, none⟩ = some (vw y)) hmx ?_
  show wpAnyH _ _ _ _ _ _ _ _ (World.drew W)
  refine wpAnyH_take (i := 0) (v := .slice (some ⟨gw, 0, none⟩) 64 64) rfl (by kernel_rfl) (by kernel_rfl) (by kernel_rfl) (fun _ _ _ h => nomatch h.1) (yields_move (by simp [Region.wanted]) (.tmp 9) rfl _ x9) hs ?_
  refine wpAnyH_take (i := 1) (v := .int .i64 (e : Int)) rfl (by kernel_rfl) (by kernel_rfl) (by kernel_rfl) (fun _ _ _ h => nomatch h.1) (yields_move (by simp [Region.wanted]) (.tmp 12) rfl _ (evn x12)) hs ?_
  refine wpAnyH_take (i := 2) (v := .int .i64 (e15 : Int)) rfl (by kernel_rfl) (by kernel_rfl) (by kernel_rfl) (fun _ _ _ h => nomatch h.1) (y_subi (by simp [Region.wanted]) (.tmp 95) (.const (.int .i64 15)) rfl (e : Int) 15 _ (ev_eq _ _ (by (try simp only [put_sz]); rw [sz]; decide)) rfl (by rw [IntKind.wrap_i64]; omega)) hs ?_
  refine wpAnyH_take (i := 3) (v := .pointer (some ⟨gw, e15, none⟩)) rfl (by kernel_rfl) (by kernel_rfl) (by kernel_rfl) (fun _ _ _ h => nomatch h.1) (y_index (by simp [Region.wanted]) (.tmp 94) (.tmp 96) rfl gw 64 64 e15 (evn (evn (ev_eq _ _ (by (try simp only [put_sz]); rw [sz]; decide)))) (ev_eq _ _ (by (try simp only [put_sz]); rw [sz]; decide)) (by omega)) hs ?_
  refine wpAnyH_take (i := 4) (v := vw x) rfl (by kernel_rfl) (by kernel_rfl) (by kernel_rfl) (fun _ _ _ h => nomatch h.1) (y_load (by simp [Region.wanted]) (.tmp 97) rfl gw e15 x (ev_eq _ _ (by (try simp only [put_sz]); rw [sz]; decide)) (fun w h => h.1)) hs ?_
  refine wpAnyH_take (i := 5) (v := .slice (some ⟨gw, 0, none⟩) 64 64) rfl (by kernel_rfl) (by kernel_rfl) (by kernel_rfl) (fun _ _ _ h => nomatch h.1) (yields_move (by simp [Region.wanted]) (.tmp 9) rfl _ (evn (evn (evn (evn (evn x9)))))) hs ?_
  refine wpAnyH_take (i := 6) (v := .int .i64 (e : Int)) rfl (by kernel_rfl) (by kernel_rfl) (by kernel_rfl) (fun _ _ _ h => nomatch h.1) (yields_move (by simp [Region.wanted]) (.tmp 12) rfl _ (evn (evn (evn (evn (evn (evn x12))))))) hs ?_
  refine wpAnyH_take (i := 7) (v := .int .i64 (e2 : Int)) rfl (by kernel_rfl) (by kernel_rfl) (by kernel_rfl) (fun _ _ _ h => nomatch h.1) (y_subi (by simp [Region.wanted]) (.tmp 100) (.const (.int .i64 2)) rfl (e : Int) 2 _ (ev_eq _ _ (by (try simp only [put_sz]); rw [sz]; decide)) rfl (by rw [IntKind.wrap_i64]; omega)) hs ?_
  refine wpAnyH_take (i := 8) (v := .pointer (some ⟨gw, e2, none⟩)) rfl (by kernel_rfl) (by kernel_rfl) (by kernel_rfl) (fun _ _ _ h => nomatch h.1) (y_index (by simp [Region.wanted]) (.tmp 99) (.tmp 101) rfl gw 64 64 e2 (evn (evn (ev_eq _ _ (by (try simp only [put_sz]); rw [sz]; decide)))) (ev_eq _ _ (by (try simp only [put_sz]); rw [sz]; decide)) (by omega)) hs ?_
  refine wpAnyH_take (i := 9) (v := vw y) rfl (by kernel_rfl) (by kernel_rfl) (by kernel_rfl) (fun _ _ _ h => nomatch h.1) (y_load (by simp [Region.wanted]) (.tmp 102) rfl gw e2 y (ev_eq _ _ (by (try simp only [put_sz]); rw [sz]; decide)) (fun w h => h.2)) hs ?_
  refine wpAnyH_take (i := 10) (v := vw x) rfl (by kernel_rfl) (by kernel_rfl) (by kernel_rfl) (fun _ _ _ h => nomatch h.1) (yh_assign (by simp [Region.wanted]) (.tmp 98) rfl _ (evn (evn (evn (evn (evn (ev_eq _ _ (by (try simp only [put_sz]); rw [sz]; decide)))))))) hs ?_
  refine wpAnyH_take (i := 11) (v := vw y) rfl (by kernel_rfl) (by kernel_rfl) (by kernel_rfl) (fun _ _ _ h => nomatch h.1) (yh_assign (by simp [Region.wanted]) (.tmp 103) rfl _ (evn (ev_eq _ _ (by (try simp only [put_sz]); rw [sz]; decide)))) hs ?_
  exact wpAnyH_done (by kernel_rfl) ⟨rfl, ⟨(((((((((((((Keep.refl A _).put 94 _ (by decide)).put 95 _ (by decide)).put 96 _ (by decide)).put 97 _ (by decide)).put 98 _ (by decide)).put 99 _ (by decide)).put 100 _ (by decide)).put 101 _ (by decide)).put 102 _ (by decide)).put 103 _ (by decide)).put 13 _ (by decide)).put 14 _ (by decide)), (evn (evn (evn (evn (evn (evn (evn (evn (evn (evn (evn (evn rfl)))))))))))), (evn (ev_eq _ _ (by (try simp only [put_sz]); rw [sz]; decide))), (ev_eq _ _ (by (try simp only [put_sz]); rw [sz]; decide))⟩, rfl⟩ _
set_option maxHeartbeats 1000000 in
theorem out27 (A : Act) (W : World) (gw e e16 e7 : Nat) (x y a16 a7 A1 B1 FM S1 S2 A2 B2 NM S3 : W32) (hA1 : A1 = rotr x 7 ^^^ rotr x 18) (hB1 : B1 = x >>> 3) (hFM : FM = A1 ^^^ B1) (hS1 : S1 = a16 + FM) (hS2 : S2 = S1 + a7) (hA2 : A2 = rotr y 17 ^^^ rotr y 19) (hB2 : B2 = y >>> 10) (hNM : NM = A2 ^^^ B2) (hS3 : S3 = S2 + NM) (u : Value) (h16 : e16 + 16 = e) (h7 : e7 + 7 = e) (he : e < 64) (sz : A.tmps.size = 288) (x9 : A.eval (.tmp 9) = .slice (some ⟨gw, 0, none⟩) 64 64) (x12 : A.eval (.tmp 12) = .int .i64 (e : Int)) (x13 : A.eval (.tmp 13) = vw x) (x14 : A.eval (.tmp 14) = vw y)
    (hs : W.cell? ⟨gw, e16, none⟩ = some (vw a16) ∧ W.cell? ⟨gw, e7, none⟩ = some (vw a7)) (hE : W.cell? ⟨gw, e, none⟩ = some u) (hf : W.frozen? ⟨gw, e, none⟩ = false) :
    Code.wp Tryd.prog code27 (fun ex A' W' => ex = .normal ∧ (Keep A A' [104, 105, 106, 107, 108, 109, 110, 111, 112, 113, 114, 115, 116, 117, 118, 119, 120, 121, 122, 123, 124, 125, 126, 127, 128, 129, 130, 131, 132, 133, 134, 135] ∧ W' = W.drew.drew.drew.drew.drew.setCell ⟨gw, e, none⟩ (vw S3))) A W := by
  have hmx : Tryd.prog.follows .mixedOrders = true := by kernel_rfl
  have T1 := hid (turn_any x 7 (by omega) (by omega))
  have T2 := hid (turn_any x 18 (by omega) (by omega))
  have T3 := hid (turn_any y 17 (by omega) (by omega))
  have T4 := hid (turn_any y 19 (by omega) (by omega))
  conv => arg 2; whnf
  refine wp_region_held (S := fun w9 => w9.cell? ⟨gw, e16, none⟩ = some (vw a16) ∧ w9.cell? ⟨gw, e7, none⟩ = some (vw a7)) hmx ?_
  show wpAnyH _ _ _ _ _ _ _ _ (World.drew W)
  refine wpAnyH_take (i := 0) (v := .slice (some ⟨gw, 0, none⟩) 64 64) rfl (by kernel_rfl) (by kernel_rfl) (by kernel_rfl) (fun _ _ _ h => nomatch h.1) (yields_move (by simp [Region.wanted]) (.tmp 9) rfl _ x9) hs ?_
  refine wpAnyH_take (i := 1) (v := .int .i64 (e : Int)) rfl (by kernel_rfl) (by kernel_rfl) (by kernel_rfl) (fun _ _ _ h => nomatch h.1) (yields_move (by simp [Region.wanted]) (.tmp 12) rfl _ (evn x12)) hs ?_
  refine wpAnyH_take (i := 2) (v := .slice (some ⟨gw, 0, none⟩) 64 64) rfl (by kernel_rfl) (by kernel_rfl) (by kernel_rfl) (fun _ _ _ h => nomatch h.1) (yields_move (by simp [Region.wanted]) (.tmp 9) rfl _ (evn (evn x9))) hs ?_
  refine wpAnyH_take (i := 3) (v := .int .i64 (e : Int)) rfl (by kernel_rfl) (by kernel_rfl) (by kernel_rfl) (fun _ _ _ h => nomatch h.1) (yields_move (by simp [Region.wanted]) (.tmp 12) rfl _ (evn (evn (evn x12)))) hs ?_
  refine wpAnyH_take (i := 4) (v := .int .i64 (e16 : Int)) rfl (by kernel_rfl) (by kernel_rfl) (by kernel_rfl) (fun _ _ _ h => nomatch h.1) (y_subi (by simp [Region.wanted]) (.tmp 107) (.const (.int .i64 16)) rfl (e : Int) 16 _ (ev_eq _ _ (by (try simp only [put_sz]); rw [sz]; decide)) rfl (by rw [IntKind.wrap_i64]; omega)) hs ?_
  refine wpAnyH_take (i := 5) (v := .pointer (some ⟨gw, e16, none⟩)) rfl (by kernel_rfl) (by kernel_rfl) (by kernel_rfl) (fun _ _ _ h => nomatch h.1) (y_index (by simp [Region.wanted]) (.tmp 106) (.tmp 108) rfl gw 64 64 e16 (evn (evn (ev_eq _ _ (by (try simp only [put_sz]); rw [sz]; decide)))) (ev_eq _ _ (by (try simp only [put_sz]); rw [sz]; decide)) (by omega)) hs ?_
  refine wpAnyH_take (i := 6) (v := vw a16) rfl (by kernel_rfl) (by kernel_rfl) (by kernel_rfl) (fun _ _ _ h => nomatch h.1) (y_load (by simp [Region.wanted]) (.tmp 109) rfl gw e16 a16 (ev_eq _ _ (by (try simp only [put_sz]); rw [sz]; decide)) (fun w h => h.1)) hs ?_
  refine wpAnyH_take (i := 7) (v := vw x) rfl (by kernel_rfl) (by kernel_rfl) (by kernel_rfl) (fun _ _ _ h => nomatch h.1) (yields_move (by simp [Region.wanted]) (.tmp 13) rfl _ (evn (evn (evn (evn (evn (evn (evn x13)))))))) hs ?_
  refine wpAnyH_take (i := 9) (v := vw x) rfl (by kernel_rfl) (by kernel_rfl) (by kernel_rfl) (fun _ _ _ h => nomatch h.1) (yields_move (by simp [Region.wanted]) (.tmp 13) rfl _ (evn (evn (evn (evn (evn (evn (evn (evn x13))))))))) hs ?_
  refine wpAnyH_take (i := 12) (v := vw x) rfl (by kernel_rfl) (by kernel_rfl) (by kernel_rfl) (fun _ _ _ h => nomatch h.1) (yields_move (by simp [Region.wanted]) (.tmp 13) rfl _ (evn (evn (evn (evn (evn (evn (evn (evn (evn x13)))))))))) hs ?_
  refine wpAnyH_take (i := 13) (v := vw B1) rfl (by kernel_rfl) (by kernel_rfl) (by kernel_rfl) (fun _ _ _ h => nomatch h.1) (eq_yields hB1.symm (y_shr3 (by simp [Region.wanted]) (.tmp 116) (.const (.int .u64 3)) rfl (x) (ev_eq _ _ (by (try simp only [put_sz]); rw [sz]; decide)) rfl)) hs ?_
  refine wpAnyH_take (i := 16) (v := .slice (some ⟨gw, 0, none⟩) 64 64) rfl (by kernel_rfl) (by kernel_rfl) (by kernel_rfl) (fun _ _ _ h => nomatch h.1) (yields_move (by simp [Region.wanted]) (.tmp 9) rfl _ (evn (evn (evn (evn (evn (evn (evn (evn (evn (evn (evn x9)))))))))))) hs ?_
  refine wpAnyH_take (i := 17) (v := .int .i64 (e : Int)) rfl (by kernel_rfl) (by kernel_rfl) (by kernel_rfl) (fun _ _ _ h => nomatch h.1) (yields_move (by simp [Region.wanted]) (.tmp 12) rfl _ (evn (evn (evn (evn (evn (evn (evn (evn (evn (evn (evn (evn x12))))))))))))) hs ?_
  refine wpAnyH_take (i := 18) (v := .int .i64 (e7 : Int)) rfl (by kernel_rfl) (by kernel_rfl) (by kernel_rfl) (fun _ _ _ h => nomatch h.1) (y_subi (by simp [Region.wanted]) (.tmp 121) (.const (.int .i64 7)) rfl (e : Int) 7 _ (ev_eq _ _ (by (try simp only [put_sz]); rw [sz]; decide)) rfl (by rw [IntKind.wrap_i64]; omega)) hs ?_
  refine wpAnyH_take (i := 19) (v := .pointer (some ⟨gw, e7, none⟩)) rfl (by kernel_rfl) (by kernel_rfl) (by kernel_rfl) (fun _ _ _ h => nomatch h.1) (y_index (by simp [Region.wanted]) (.tmp 120) (.tmp 122) rfl gw 64 64 e7 (evn (evn (ev_eq _ _ (by (try simp only [put_sz]); rw [sz]; decide)))) (ev_eq _ _ (by (try simp only [put_sz]); rw [sz]; decide)) (by omega)) hs ?_
  refine wpAnyH_take (i := 20) (v := vw a7) rfl (by kernel_rfl) (by kernel_rfl) (by kernel_rfl) (fun _ _ _ h => nomatch h.1) (y_load (by simp [Region.wanted]) (.tmp 123) rfl gw e7 a7 (ev_eq _ _ (by (try simp only [put_sz]); rw [sz]; decide)) (fun w h => h.2)) hs ?_
  refine wpAnyH_take (i := 22) (v := vw y) rfl (by kernel_rfl) (by kernel_rfl) (by kernel_rfl) (fun _ _ _ h => nomatch h.1) (yields_move (by simp [Region.wanted]) (.tmp 14) rfl _ (evn (evn (evn (evn (evn (evn (evn (evn (evn (evn (evn (evn (evn (evn (evn (evn x14))))))))))))))))) hs ?_
  refine wpAnyH_take (i := 24) (v := vw y) rfl (by kernel_rfl) (by kernel_rfl) (by kernel_rfl) (fun _ _ _ h => nomatch h.1) (yields_move (by simp [Region.wanted]) (.tmp 14) rfl _ (evn (evn (evn (evn (evn (evn (evn (evn (evn (evn (evn (evn (evn (evn (evn (evn (evn x14)))))))))))))))))) hs ?_
  refine wpAnyH_take (i := 27) (v := vw y) rfl (by kernel_rfl) (by kernel_rfl) (by kernel_rfl) (fun _ _ _ h => nomatch h.1) (yields_move (by simp [Region.wanted]) (.tmp 14) rfl _ (evn (evn (evn (evn (evn (evn (evn (evn (evn (evn (evn (evn (evn (evn (evn (evn (evn (evn x14))))))))))))))))))) hs ?_
  refine wpAnyH_take (i := 28) (v := vw B2) rfl (by kernel_rfl) (by kernel_rfl) (by kernel_rfl) (fun _ _ _ h => nomatch h.1) (eq_yields hB2.symm (y_shr10 (by simp [Region.wanted]) (.tmp 131) (.const (.int .u64 10)) rfl (y) (ev_eq _ _ (by (try simp only [put_sz]); rw [sz]; decide)) rfl)) hs ?_
  refine wpAnyH_all (rs := [8]) (by kernel_rfl) (by simp) fun i9 hmem => ?_
  obtain rfl : i9 = 8 := by simpa using hmem
  refine wpOp_turn rfl (by kernel_rfl) (.tmp 111) 7 _ rfl x (evn (evn (evn (evn (evn (evn (evn (evn (evn (evn (evn (evn (ev_eq _ _ (by (try simp only [put_sz]); rw [sz]; decide)))))))))))))) T1.out ⟨hs, ?_⟩
  show wpAnyH _ _ _ _ _ _ _ (((((((((((((((((((((A.put (some 104) (.slice (some ⟨gw, 0, none⟩) 64 64)).put (some 105) (.int .i64 (e : Int))).put (some 106) (.slice (some ⟨gw, 0, none⟩) 64 64)).put (some 107) (.int .i64 (e : Int))).put (some 108) (.int .i64 (e16 : Int))).put (some 109) (.pointer (some ⟨gw, e16, none⟩))).put (some 110) (vw a16)).put (some 111) (vw x)).put (some 113) (vw x)).put (some 116) (vw x)).put (some 117) (vw B1)).put (some 120) (.slice (some ⟨gw, 0, none⟩) 64 64)).put (some 121) (.int .i64 (e : Int))).put (some 122) (.int .i64 (e7 : Int))).put (some 123) (.pointer (some ⟨gw, e7, none⟩))).put (some 124) (vw a7)).put (some 126) (vw y)).put (some 128) (vw y)).put (some 131) (vw y)).put (some 132) (vw B2)).put (some 112) (vw (rotr x 7))) _
  refine wpAnyH_all (rs := [10]) (by kernel_rfl) (by simp) fun i9 hmem => ?_
  obtain rfl : i9 = 10 := by simpa using hmem
  refine wpOp_turn rfl (by kernel_rfl) (.tmp 113) 18 _ rfl x (evn (evn (evn (evn (evn (evn (evn (evn (evn (evn (evn (evn (ev_eq _ _ (by (try simp only [put_sz]); rw [sz]; decide)))))))))))))) T2.out ⟨hs, ?_⟩
  show wpAnyH _ _ _ _ _ _ _ ((((((((((((((((((((((A.put (some 104) (.slice (some ⟨gw, 0, none⟩) 64 64)).put (some 105) (.int .i64 (e : Int))).put (some 106) (.slice (some ⟨gw, 0, none⟩) 64 64)).put (some 107) (.int .i64 (e : Int))).put (some 108) (.int .i64 (e16 : Int))).put (some 109) (.pointer (some ⟨gw, e16, none⟩))).put (some 110) (vw a16)).put (some 111) (vw x)).put (some 113) (vw x)).put (some 116) (vw x)).put (some 117) (vw B1)).put (some 120) (.slice (some ⟨gw, 0, none⟩) 64 64)).put (some 121) (.int .i64 (e : Int))).put (some 122) (.int .i64 (e7 : Int))).put (some 123) (.pointer (some ⟨gw, e7, none⟩))).put (some 124) (vw a7)).put (some 126) (vw y)).put (some 128) (vw y)).put (some 131) (vw y)).put (some 132) (vw B2)).put (some 112) (vw (rotr x 7))).put (some 114) (vw (rotr x 18))) _
  refine wpAnyH_take (i := 11) (v := vw A1) rfl (by kernel_rfl) (by kernel_rfl) (by kernel_rfl) (fun _ _ _ h => nomatch h.1) (eq_yields hA1.symm (y_xor (by simp [Region.wanted]) (.tmp 112) (.tmp 114) rfl (rotr x 7) (rotr x 18) (evn (ev_eq _ _ (by (try simp only [put_sz]); rw [sz]; decide))) (ev_eq _ _ (by (try simp only [put_sz]); rw [sz]; decide)))) hs ?_
  refine wpAnyH_take (i := 14) (v := vw FM) rfl (by kernel_rfl) (by kernel_rfl) (by kernel_rfl) (fun _ _ _ h => nomatch h.1) (eq_yields hFM.symm (y_xor (by simp [Region.wanted]) (.tmp 115) (.tmp 117) rfl (A1) (B1) (ev_eq _ _ (by (try simp only [put_sz]); rw [sz]; decide)) (evn (evn (evn (evn (evn (evn (evn (evn (evn (evn (evn (evn (ev_eq _ _ (by (try simp only [put_sz]); rw [sz]; decide)))))))))))))))) hs ?_
  refine wpAnyH_take (i := 15) (v := vw S1) rfl (by kernel_rfl) (by kernel_rfl) (by kernel_rfl) (fun _ _ _ h => nomatch h.1) (eq_yields hS1.symm (y_add (by simp [Region.wanted]) (.tmp 110) (.tmp 118) rfl (a16) (FM) (evn (evn (evn (evn (evn (evn (evn (evn (evn (evn (evn (evn (evn (evn (evn (evn (evn (ev_eq _ _ (by (try simp only [put_sz]); rw [sz]; decide))))))))))))))))))) (ev_eq _ _ (by (try simp only [put_sz]); rw [sz]; decide)))) hs ?_
  refine wpAnyH_take (i := 21) (v := vw S2) rfl (by kernel_rfl) (by kernel_rfl) (by kernel_rfl) (fun _ _ _ h => nomatch h.1) (eq_yields hS2.symm (y_add (by simp [Region.wanted]) (.tmp 119) (.tmp 124) rfl (S1) (a7) (ev_eq _ _ (by (try simp only [put_sz]); rw [sz]; decide)) (evn (evn (evn (evn (evn (evn (evn (evn (evn (ev_eq _ _ (by (try simp only [put_sz]); rw [sz]; decide))))))))))))) hs ?_
  refine wpAnyH_all (rs := [23]) (by kernel_rfl) (by simp) fun i9 hmem => ?_
  obtain rfl : i9 = 23 := by simpa using hmem
  refine wpOp_turn rfl (by kernel_rfl) (.tmp 126) 17 _ rfl y (evn (evn (evn (evn (evn (evn (evn (evn (evn (ev_eq _ _ (by (try simp only [put_sz]); rw [sz]; decide))))))))))) T3.out ⟨hs, ?_⟩
  show wpAnyH _ _ _ _ _ _ _ (((((((((((((((((((((((((((A.put (some 104) (.slice (some ⟨gw, 0, none⟩) 64 64)).put (some 105) (.int .i64 (e : Int))).put (some 106) (.slice (some ⟨gw, 0, none⟩) 64 64)).put (some 107) (.int .i64 (e : Int))).put (some 108) (.int .i64 (e16 : Int))).put (some 109) (.pointer (some ⟨gw, e16, none⟩))).put (some 110) (vw a16)).put (some 111) (vw x)).put (some 113) (vw x)).put (some 116) (vw x)).put (some 117) (vw B1)).put (some 120) (.slice (some ⟨gw, 0, none⟩) 64 64)).put (some 121) (.int .i64 (e : Int))).put (some 122) (.int .i64 (e7 : Int))).put (some 123) (.pointer (some ⟨gw, e7, none⟩))).put (some 124) (vw a7)).put (some 126) (vw y)).put (some 128) (vw y)).put (some 131) (vw y)).put (some 132) (vw B2)).put (some 112) (vw (rotr x 7))).put (some 114) (vw (rotr x 18))).put (some 115) (vw A1)).put (some 118) (vw FM)).put (some 119) (vw S1)).put (some 125) (vw S2)).put (some 127) (vw (rotr y 17))) _
  refine wpAnyH_all (rs := [25]) (by kernel_rfl) (by simp) fun i9 hmem => ?_
  obtain rfl : i9 = 25 := by simpa using hmem
  refine wpOp_turn rfl (by kernel_rfl) (.tmp 128) 19 _ rfl y (evn (evn (evn (evn (evn (evn (evn (evn (evn (ev_eq _ _ (by (try simp only [put_sz]); rw [sz]; decide))))))))))) T4.out ⟨hs, ?_⟩
  show wpAnyH _ _ _ _ _ _ _ ((((((((((((((((((((((((((((A.put (some 104) (.slice (some ⟨gw, 0, none⟩) 64 64)).put (some 105) (.int .i64 (e : Int))).put (some 106) (.slice (some ⟨gw, 0, none⟩) 64 64)).put (some 107) (.int .i64 (e : Int))).put (some 108) (.int .i64 (e16 : Int))).put (some 109) (.pointer (some ⟨gw, e16, none⟩))).put (some 110) (vw a16)).put (some 111) (vw x)).put (some 113) (vw x)).put (some 116) (vw x)).put (some 117) (vw B1)).put (some 120) (.slice (some ⟨gw, 0, none⟩) 64 64)).put (some 121) (.int .i64 (e : Int))).put (some 122) (.int .i64 (e7 : Int))).put (some 123) (.pointer (some ⟨gw, e7, none⟩))).put (some 124) (vw a7)).put (some 126) (vw y)).put (some 128) (vw y)).put (some 131) (vw y)).put (some 132) (vw B2)).put (some 112) (vw (rotr x 7))).put (some 114) (vw (rotr x 18))).put (some 115) (vw A1)).put (some 118) (vw FM)).put (some 119) (vw S1)).put (some 125) (vw S2)).put (some 127) (vw (rotr y 17))).put (some 129) (vw (rotr y 19))) _
  refine wpAnyH_take (i := 26) (v := vw A2) rfl (by kernel_rfl) (by kernel_rfl) (by kernel_rfl) (fun _ _ _ h => nomatch h.1) (eq_yields hA2.symm (y_xor (by simp [Region.wanted]) (.tmp 127) (.tmp 129) rfl (rotr y 17) (rotr y 19) (evn (ev_eq _ _ (by (try simp only [put_sz]); rw [sz]; decide))) (ev_eq _ _ (by (try simp only [put_sz]); rw [sz]; decide)))) hs ?_
  refine wpAnyH_take (i := 29) (v := vw NM) rfl (by kernel_rfl) (by kernel_rfl) (by kernel_rfl) (fun _ _ _ h => nomatch h.1) (eq_yields hNM.symm (y_xor (by simp [Region.wanted]) (.tmp 130) (.tmp 132) rfl (A2) (B2) (ev_eq _ _ (by (try simp only [put_sz]); rw [sz]; decide)) (evn (evn (evn (evn (evn (evn (evn (evn (evn (ev_eq _ _ (by (try simp only [put_sz]); rw [sz]; decide))))))))))))) hs ?_
  refine wpAnyH_take (i := 30) (v := vw S3) rfl (by kernel_rfl) (by kernel_rfl) (by kernel_rfl) (fun _ _ _ h => nomatch h.1) (eq_yields hS3.symm (y_add (by simp [Region.wanted]) (.tmp 125) (.tmp 133) rfl (S2) (NM) (evn (evn (evn (evn (ev_eq _ _ (by (try simp only [put_sz]); rw [sz]; decide)))))) (ev_eq _ _ (by (try simp only [put_sz]); rw [sz]; decide)))) hs ?_
  refine wpAnyH_take (i := 31) (v := .pointer (some ⟨gw, e, none⟩)) rfl (by kernel_rfl) (by kernel_rfl) (by kernel_rfl) (fun _ _ _ h => nomatch h.1) (y_index (by simp [Region.wanted]) (.tmp 104) (.tmp 105) rfl gw 64 64 e (evn (evn (evn (evn (evn (evn (evn (evn (evn (evn (evn (evn (evn (evn (evn (evn (evn (evn (evn (evn (evn (evn (evn (evn (evn (evn (evn (evn (evn (evn (ev_eq _ _ (by (try simp only [put_sz]); rw [sz]; decide)))))))))))))))))))))))))))))))) (evn (evn (evn (evn (evn (evn (evn (evn (evn (evn (evn (evn (evn (evn (evn (evn (evn (evn (evn (evn (evn (evn (evn (evn (evn (evn (evn (evn (evn (ev_eq _ _ (by (try simp only [put_sz]); rw [sz]; decide))))))))))))))))))))))))))))))) (by omega)) hs ?_
  refine wpAnyH_all (rs := [32]) (by kernel_rfl) (by simp) fun i9 hmem => ?_
  obtain rfl : i9 = 32 := by simpa using hmem
  refine wpOp_storeW rfl (by kernel_rfl) (.tmp 135) (.tmp 134) rfl gw e S3 _ (ev_eq _ _ (by (try simp only [put_sz]); rw [sz]; decide)) (evn (ev_eq _ _ (by (try simp only [put_sz]); rw [sz]; decide))) hE hf ⟨⟨((World.cell?_setCell_other _ _ _ _ (by intro h; simp only [Addr.mk.injEq] at h; omega)).trans hs.1), ((World.cell?_setCell_other _ _ _ _ (by intro h; simp only [Addr.mk.injEq] at h; omega)).trans hs.2)⟩, wpAnyH_done (by kernel_rfl) ⟨rfl, ?_, rfl⟩ _⟩
  exact (((((((((((((((((((((((((((((((((Keep.refl A _).put 104 _ (by decide)).put 105 _ (by decide)).put 106 _ (by decide)).put 107 _ (by decide)).put 108 _ (by decide)).put 109 _ (by decide)).put 110 _ (by decide)).put 111 _ (by decide)).put 113 _ (by decide)).put 116 _ (by decide)).put 117 _ (by decide)).put 120 _ (by decide)).put 121 _ (by decide)).put 122 _ (by decide)).put 123 _ (by decide)).put 124 _ (by decide)).put 126 _ (by decide)).put 128 _ (by decide)).put 131 _ (by decide)).put 132 _ (by decide)).put 112 _ (by decide)).put 114 _ (by decide)).put 115 _ (by decide)).put 118 _ (by decide)).put 119 _ (by decide)).put 125 _ (by decide)).put 127 _ (by decide)).put 129 _ (by decide)).put 130 _ (by decide)).put 133 _ (by decide)).put 134 _ (by decide)).put 135 _ (by decide)).putn _
end Go.Proofs.YthfmpebgmojcaaaDoor
/- The words spread: loop 6 of the reference's Sum, over a frame that is a letter. -/
namespace Go.Proofs.YthfmpebgmojcaaaDoor
open Go.RowKit
set_option linter.unusedVariables false
set_option maxRecDepth 100000
structure I6 (N gm gw : Nat) (cur : Array Value) (V2 : World) (sH : S8) (bs : List UInt8) (A0 A : Act) (W : World) (e : Nat) : Prop where
  sz : A.tmps.size = 288
  k : Keep A0 A L6
  ge : 16 ≤ e
  le : e ≤ 64
  i : A.eval (.tmp 12) = .int .i64 (e : Int)
  w : W.heap[gw]? = some (.cells (wvs (extZ bs e)) 129 (0, 0))
  bl : BL N gm cur V2 W sH
def mu6 (A : Act) (_ : World) : Nat := 64 - (intOf (A.eval (.tmp 12))).toNat
set_option maxHeartbeats 400000 in
theorem round6 {Q : Exit → Act → World → Prop} {N gm gw : Nat} {cur : Array Value} {V2 : World} {sH : S8} {bs : List UInt8} {A0 : Act} (x9 : A0.eval (.tmp 9) = .slice (some ⟨gw, 0, none⟩) 64 64) (hgm : gm < gw) (hg : N + 1 + 1 < gw)
    (hexit : ∀ A W, I6 N gm gw cur V2 sH bs A0 A W 64 → Q (.exit 10) A W) (A : Act) (W : World) (e : Nat) (I : I6 N gm gw cur V2 sH bs A0 A W e) :
    Code.wp Tryd.prog body6 (Exit.then (fun A' W' => (∃ e', I6 N gm gw cur V2 sH bs A0 A' W' e') ∧ mu6 A' W' < mu6 A W) Q) A W := by
  conv => arg 2; whnf
  refine wp_seq ?_
  refine wp_seq ?_
  refine wp_split _ (out24 A W e I.sz I.i) ?_
  rintro A1 W1 ⟨⟨k1, c1⟩, hW1⟩
  show Code.wp _ _ _ A1 W1
  have K1 : Keep A A1 L6 := k1.mono (by decide)
  have sz1 : A1.tmps.size = 288 := K1.sz.trans I.sz
  have y12 : A1.eval (.tmp 12) = .int .i64 (e : Int) := (k1.keep 12 (by decide)).trans I.i
  have he0 := I.ge
  by_cases hlt : e < 64
  · refine wp_cond_true (by rw [c1, decide_eq_true (by omega)]) ?_
    refine wp_skip ?_
    show Code.wp _ _ _ A1 W1
    refine wp_seq ?_
    refine wp_block ?_
    refine wp_seq ?_
    have y9 := (K1.keep 9 (by decide)).trans ((I.k.keep 9 (by decide)).trans x9)
    have hw : W1.heap[gw]? = some (.cells (wvs (extZ bs e)) 129 (0, 0)) := by rw [hW1]; exact I.w
    have hbl : BL N gm cur V2 W1 sH := by rw [hW1]; exact I.bl
    have c15 := extZ_cell' he0 hlt 15 (by omega) (by omega) hw
    have c2 := extZ_cell' he0 hlt 2 (by omega) (by omega) hw
    have c7 := extZ_cell' he0 hlt 7 (by omega) (by omega) hw
    have c16 := extZ_cell' he0 hlt 16 (by omega) (by omega) hw
    have cE : W1.cell? ⟨gw, e, none⟩ = some (vw 0) := by
      rw [cell_of_row _ _ _ _ _ _ hw, wvs, List.getElem?_toArray, List.getElem?_map, extZ_zero bs e he0 hlt]
      rfl
    have fE := frozen_of_row _ _ e _ _ hw
    have Hst := extZ_step bs e he0 hlt
    have Hnx := nextW_at bs e he0 hlt
    obtain ⟨EX, hEX⟩ : ∃ EX, EX = ext (e - 16) (wordsAt bs 64) := ⟨_, rfl⟩
    rw [← hEX] at c15 c2 c7 c16 Hnx Hst
    obtain ⟨e15, h15⟩ : ∃ e15, e15 = e - 15 := ⟨_, rfl⟩
    obtain ⟨e2, h2⟩ : ∃ e2, e2 = e - 2 := ⟨_, rfl⟩
    obtain ⟨e7, h7⟩ : ∃ e7, e7 = e - 7 := ⟨_, rfl⟩
    obtain ⟨e16, h16⟩ : ∃ e16, e16 = e - 16 := ⟨_, rfl⟩
    rw [← h15] at c15
    rw [← h2] at c2
    rw [← h7] at c7
    rw [← h16] at c16
    rw [← h15, ← h2, ← h7, ← h16] at Hnx
    generalize EX.getD e15 0 = x at c15 Hnx
    generalize EX.getD e2 0 = y at c2 Hnx
    generalize EX.getD e7 0 = a7 at c7 Hnx
    generalize EX.getD e16 0 = a16 at c16 Hnx
    refine wp_split _ (out26 A1 W1 gw e e15 e2 x y (by omega) (by omega) hlt sz1 y9 y12 ⟨c15, c2⟩) ?_
    rintro A2 W2 ⟨⟨K2, s12, s13, s14⟩, hW2⟩
    show Code.wp _ _ _ A2 W2
    have sz2 : A2.tmps.size = 288 := K2.sz.trans sz1
    refine wp_split _ (out27 A2 W2 gw e e16 e7 x y a16 a7 _ _ _ _ _ _ _ _ _ rfl rfl rfl rfl rfl rfl rfl rfl rfl (vw 0) (by omega) (by omega) hlt sz2 ((K2.keep 9 (by decide)).trans y9) (s12.trans y12) s13 s14 (by rw [hW2]; exact ⟨c16, c7⟩) (by rw [hW2]; exact cE) (by rw [hW2]; exact fE)) ?_
    rintro A3 W3 ⟨k3, hW3⟩
    show Code.wp _ _ _ A3 W3
    have K3 : Keep A2 A3 L6 := k3.mono (by decide)
    refine wp_split _ (out25 A3 W3 e hlt (K3.sz.trans sz2) ((k3.keep 12 (by decide)).trans (s12.trans y12))) ?_
    rintro A4 W4 ⟨⟨k4, c4⟩, hW4⟩
    show (∃ e', I6 N gm gw cur V2 sH bs A0 A4 W4 e') ∧ mu6 A4 W4 < mu6 A W
    have K4 : Keep A3 A4 L6 := k4.mono (by decide)
    refine ⟨⟨e + 1, ⟨K4.sz.trans (K3.sz.trans sz2), I.k.trans (K1.trans (K2.trans (K3.trans K4))), by omega, by omega, c4, ?_, ?_⟩⟩, ?_⟩
    · rw [hW4, hW3, hW2]
      rw [heap_setCell_same _ _ _ _ _ _ (show W1.drew.drew.drew.drew.drew.drew.heap[gw]? = _ from hw), wvs_set, ← Hst, Hnx]
      have e1 : a16 + (rotr x 7 ^^^ rotr x 18 ^^^ x >>> 3) + a7 + (rotr y 17 ^^^ rotr y 19 ^^^ y >>> 10) = nearMix y + a7 + farMix x + a16 := by
        unfold nearMix farMix
        generalize rotr x 7 ^^^ rotr x 18 ^^^ x >>> 3 = m1
        generalize rotr y 17 ^^^ rotr y 19 ^^^ y >>> 10 = m2
        ac_rfl
      rw [e1]
    · rw [hW4, hW3, hW2]
      refine ⟨(heap_setCell_other _ _ _ _ (show N + 1 ≠ gw by omega)).trans hbl.h, (heap_setCell_other _ _ _ _ (show N + 1 + 1 ≠ gw by omega)).trans hbl.k, (heap_setCell_other _ _ _ _ (show gm ≠ gw by omega)).trans hbl.m, hbl.bel.drew.drew.drew.drew.drew.drew.setCell (p := ⟨gw, e, none⟩) (show N + 1 ≤ gw by omega) _⟩
    · unfold mu6
      rw [c4, I.i]
      simp only [intOf]
      omega
  · refine wp_cond_false (by rw [c1, decide_eq_false (by omega)]) ?_
    refine wp_exit ?_
    show Q (.exit 10) A1 W1
    have hr : e = 64 := by have := I.le; omega
    subst hr
    exact hexit A1 W1 ⟨sz1, I.k.trans K1, by omega, Nat.le_refl _, y12, by rw [hW1]; exact I.w, by rw [hW1]; exact I.bl⟩
theorem loop6 {Q : Exit → Act → World → Prop} {N gm gw : Nat} {cur : Array Value} {V2 : World} {sH : S8} {bs : List UInt8} {A0 : Act} {W0 : World} (x9 : A0.eval (.tmp 9) = .slice (some ⟨gw, 0, none⟩) 64 64) (hgm : gm < gw) (hg : N + 1 + 1 < gw)
    (start : I6 N gm gw cur V2 sH bs A0 A0 W0 16) (hexit : ∀ A W, I6 N gm gw cur V2 sH bs A0 A W 64 → Q (.exit 10) A W) : Code.wp Tryd.prog (Code.loop body6) Q A0 W0 :=
  wp_loop (fun A W => ∃ e, I6 N gm gw cur V2 sH bs A0 A W e) mu6 ⟨16, start⟩ (fun A W ⟨e, h⟩ => round6 x9 hgm hg hexit A W e h)
end Go.Proofs.YthfmpebgmojcaaaDoor
/- The words of a block (loops 4 and 5 of the reference's Sum): the region, over a frame that is a letter. -/
namespace Go.Proofs.YthfmpebgmojcaaaDoor
open Go.RowKit
set_option linter.unusedVariables false
set_option maxRecDepth 100000
theorem w_conv8 (b : UInt8) : ((BitVec.ofNat 32 b.toNat).toNat : Int) = (b.toNat : Int) := by
  have := b.toNat_lt
  rw [BitVec.toNat_ofNat]
  omega
theorem y_muli {ops : Array Oper} {S : World → Prop} {op : Oper} {a : Act} (hw : Region.wanted op (yielded ops a.tmps) = true) (x y : Operand) (ho : op.op = .binOp .mul 3 x y 3) (p q z : Int) (hx : a.eval x = .int .i64 p) (hy : a.eval y = .int .i64 q) (hz : IntKind.i64.wrap (p * q) = z) : YieldsIf Tryd.prog ops S op (.int .i64 z) a := by
  refine .inl ⟨hw, fun w hS9 => ?_⟩
  unfold execOp
  simp only [ho, hx, hy]
  simp [go_sem, hz]
theorem y_indexB {ops : Array Oper} {S : World → Prop} {op : Oper} {a : Act} (hw : Region.wanted op (yielded ops a.tmps) = true) (x y : Operand) (ho : op.op = .indexAddr 40 x y) (g n c k : Nat) (hx : a.eval x = .slice (some ⟨g, 0, none⟩) n c) (hy : a.eval y = .int .i64 (k : Int)) (hk : k < n) : YieldsIf Tryd.prog ops S op (.pointer (some ⟨g, k, none⟩)) a := by
  refine .inl ⟨hw, fun w hS9 => ?_⟩
  have h1 : (k : Int) < (n : Int) := by omega
  have h0 : (0 : Int) ≤ (k : Int) := by omega
  unfold execOp
  simp only [ho, hx, hy]
  simp [go_sem, h0, h1]
theorem yh_loadB {ops : Array Oper} {S : World → Prop} {op : Oper} {a : Act} (hw : Region.wanted op (yielded ops a.tmps) = true) (x : Operand) (ho : op.op = .load 5 x) (g k : Nat) (b : UInt8) (hx : a.eval x = .pointer (some ⟨g, k, none⟩)) (hS : ∀ w, S w → w.cell? ⟨g, k, none⟩ = some (.int .u8 (b.toNat : Int))) : YieldsIf Tryd.prog ops S op (.int .u8 (b.toNat : Int)) a := by
  refine .inl ⟨hw, fun w hS9 => ?_⟩
  have h1 := hS w hS9
  unfold execOp
  simp only [ho, hx]
  simp [go_sem, h1]
theorem y_conv8 {ops : Array Oper} {S : World → Prop} {op : Oper} {a : Act} (hw : Region.wanted op (yielded ops a.tmps) = true) (x : Operand) (ho : op.op = .convert 5 129 x) (b : UInt8) (hx : a.eval x = .int .u8 (b.toNat : Int)) : YieldsIf Tryd.prog ops S op (vw (BitVec.ofNat 32 b.toNat)) a := by
  refine .inl ⟨hw, fun w hS9 => ?_⟩
  have h1 : IntKind.u32.wrap (b.toNat : Int) = ((BitVec.ofNat 32 b.toNat).toNat : Int) := by
    rw [w_conv8]; have := b.toNat_lt; rw [IntKind.wrap_u32]; omega
  unfold vw
  rw [← h1]
  unfold execOp
  simp only [ho, hx]
  simp [go_sem]
theorem y_shl8 {ops : Array Oper} {S : World → Prop} {op : Oper} {a : Act} (hw : Region.wanted op (yielded ops a.tmps) = true) (x y : Operand) (ho : op.op = .binOp .shl 129 x y 194) (p : W32) (hx : a.eval x = vw p) (hy : a.eval y = .int .u64 8) : YieldsIf Tryd.prog ops S op (vw (p <<< 8)) a := by
  refine .inl ⟨hw, fun w hS9 => ?_⟩
  have h1 : IntKind.u32.wrap ((p.toNat : Int) * 256) = ((p <<< 8).toNat : Int) := w_shl p 8
  obtain ⟨r, hr⟩ : ∃ r, r = p <<< 8 := ⟨_, rfl⟩
  rw [← hr] at h1 ⊢
  clear hr
  unfold execOp
  simp only [ho, hx, hy]
  simp [go_sem, h1]
theorem y_or {ops : Array Oper} {S : World → Prop} {op : Oper} {a : Act} (hw : Region.wanted op (yielded ops a.tmps) = true) (x y : Operand) (ho : op.op = .binOp .or 129 x y 129) (p q : W32) (hx : a.eval x = vw p) (hy : a.eval y = vw q) : YieldsIf Tryd.prog ops S op (vw (p ||| q)) a := by
  refine .inl ⟨hw, fun w hS9 => ?_⟩
  have h1 := w_or p q
  unfold execOp
  simp only [ho, hx, hy]
  simp [go_sem, h1]
noncomputable def code22 : Code := ((Tryd.f104.body.bind (regionAt 22)).getD .skip)
set_option maxHeartbeats 1000000 in
theorem out22 (A : Act) (W : World) (gw gm M cm i q at9 x : Nat) (p : W32) (b : UInt8) (hgm : gm < gw) (hi : i < 16) (hq : q < 4) (hx9 : x = at9 + 4 * i + q) (hx : x < M) (hM : M ≤ 140737488355200) (sz : A.tmps.size = 288)
    (x9 : A.eval (.tmp 9) = .slice (some ⟨gw, 0, none⟩) 64 64) (x5 : A.eval (.tmp 5) = .slice (some ⟨gm, 0, none⟩) M cm) (x10 : A.eval (.tmp 10) = .int .i64 (i : Int)) (x8 : A.eval (.tmp 8) = .int .i64 (at9 : Int)) (x11 : A.eval (.tmp 11) = .int .i64 (q : Int))
    (hp : W.cell? ⟨gw, i, none⟩ = some (vw p)) (hf : W.frozen? ⟨gw, i, none⟩ = false) (hs : W.cell? ⟨gm, x, none⟩ = some (.int .u8 (b.toNat : Int))) :
    Code.wp Tryd.prog code22 (fun ex A' W' => ex = .normal ∧ (Keep A A' [71, 72, 73, 74, 75, 76, 77, 78, 79, 80, 81, 82, 83, 84, 85, 86, 87, 88, 89] ∧ W' = W.drew.setCell ⟨gw, i, none⟩ (vw (p <<< 8 ||| BitVec.ofNat 32 b.toNat)))) A W := by
  have hmx : Tryd.prog.follows .mixedOrders = true := by kernel_rfl
  conv => arg 2; whnf
  refine wp_region_held (S := fun w9 => w9.cell? ⟨gm, x, none⟩ = some (.int .u8 (b.toNat : Int))) hmx ?_
  show wpAnyH _ _ _ _ _ _ _ _ (World.drew W)
  refine wpAnyH_take (i := 0) (v := .slice (some ⟨gw, 0, none⟩) 64 64) rfl (by kernel_rfl) (by kernel_rfl) (by kernel_rfl) (fun _ _ _ h => nomatch h.1) (yields_move (by simp [Region.wanted]) (.tmp 9) rfl _ x9) hs ?_
  refine wpAnyH_take (i := 1) (v := .int .i64 (i : Int)) rfl (by kernel_rfl) (by kernel_rfl) (by kernel_rfl) (fun _ _ _ h => nomatch h.1) (yields_move (by simp [Region.wanted]) (.tmp 10) rfl _ (evn x10)) hs ?_
  refine wpAnyH_take (i := 2) (v := .slice (some ⟨gw, 0, none⟩) 64 64) rfl (by kernel_rfl) (by kernel_rfl) (by kernel_rfl) (fun _ _ _ h => nomatch h.1) (yields_move (by simp [Region.wanted]) (.tmp 9) rfl _ (evn (evn x9))) hs ?_
  refine wpAnyH_take (i := 3) (v := .int .i64 (i : Int)) rfl (by kernel_rfl) (by kernel_rfl) (by kernel_rfl) (fun _ _ _ h => nomatch h.1) (yields_move (by simp [Region.wanted]) (.tmp 10) rfl _ (evn (evn (evn x10)))) hs ?_
  refine wpAnyH_take (i := 4) (v := .pointer (some ⟨gw, i, none⟩)) rfl (by kernel_rfl) (by kernel_rfl) (by kernel_rfl) (fun _ _ _ h => nomatch h.1) (y_index (by simp [Region.wanted]) (.tmp 73) (.tmp 74) rfl gw 64 64 i (evn (ev_eq _ _ (by (try simp only [put_sz]); rw [sz]; decide))) (ev_eq _ _ (by (try simp only [put_sz]); rw [sz]; decide)) (by omega)) hs ?_
  refine wpAnyH_take (i := 7) (v := .slice (some ⟨gm, 0, none⟩) M cm) rfl (by kernel_rfl) (by kernel_rfl) (by kernel_rfl) (fun _ _ _ h => nomatch h.1) (yields_move (by simp [Region.wanted]) (.tmp 5) rfl _ (evn (evn (evn (evn (evn x5)))))) hs ?_
  refine wpAnyH_take (i := 8) (v := .int .i64 (at9 : Int)) rfl (by kernel_rfl) (by kernel_rfl) (by kernel_rfl) (fun _ _ _ h => nomatch h.1) (yields_move (by simp [Region.wanted]) (.tmp 8) rfl _ (evn (evn (evn (evn (evn (evn x8))))))) hs ?_
  refine wpAnyH_take (i := 9) (v := .int .i64 (i : Int)) rfl (by kernel_rfl) (by kernel_rfl) (by kernel_rfl) (fun _ _ _ h => nomatch h.1) (yields_move (by simp [Region.wanted]) (.tmp 10) rfl _ (evn (evn (evn (evn (evn (evn (evn x10)))))))) hs ?_
  refine wpAnyH_take (i := 10) (v := .int .i64 (4 * (i : Int))) rfl (by kernel_rfl) (by kernel_rfl) (by kernel_rfl) (fun _ _ _ h => nomatch h.1) (y_muli (by simp [Region.wanted]) (.const (.int .i64 4)) (.tmp 80) rfl 4 (i : Int) _ rfl (ev_eq _ _ (by (try simp only [put_sz]); rw [sz]; decide)) (by rw [IntKind.wrap_i64]; omega)) hs ?_
  refine wpAnyH_take (i := 11) (v := .int .i64 ((at9 : Int) + 4 * (i : Int))) rfl (by kernel_rfl) (by kernel_rfl) (by kernel_rfl) (fun _ _ _ h => nomatch h.1) (y_addi (by simp [Region.wanted]) (.tmp 79) (.tmp 81) rfl (at9 : Int) (4 * (i : Int)) _ (evn (evn (ev_eq _ _ (by (try simp only [put_sz]); rw [sz]; decide)))) (ev_eq _ _ (by (try simp only [put_sz]); rw [sz]; decide)) (by rw [IntKind.wrap_i64]; omega)) hs ?_
  refine wpAnyH_take (i := 12) (v := .int .i64 (q : Int)) rfl (by kernel_rfl) (by kernel_rfl) (by kernel_rfl) (fun _ _ _ h => nomatch h.1) (yields_move (by simp [Region.wanted]) (.tmp 11) rfl _ (evn (evn (evn (evn (evn (evn (evn (evn (evn (evn x11))))))))))) hs ?_
  refine wpAnyH_take (i := 13) (v := .int .i64 (x : Int)) rfl (by kernel_rfl) (by kernel_rfl) (by kernel_rfl) (fun _ _ _ h => nomatch h.1) (y_addi (by simp [Region.wanted]) (.tmp 82) (.tmp 83) rfl ((at9 : Int) + 4 * (i : Int)) (q : Int) _ (evn (ev_eq _ _ (by (try simp only [put_sz]); rw [sz]; decide))) (ev_eq _ _ (by (try simp only [put_sz]); rw [sz]; decide)) (by rw [IntKind.wrap_i64]; omega)) hs ?_
  refine wpAnyH_take (i := 14) (v := .pointer (some ⟨gm, x, none⟩)) rfl (by kernel_rfl) (by kernel_rfl) (by kernel_rfl) (fun _ _ _ h => nomatch h.1) (y_indexB (by simp [Region.wanted]) (.tmp 78) (.tmp 84) rfl gm M cm x (evn (evn (evn (evn (evn (evn (ev_eq _ _ (by (try simp only [put_sz]); rw [sz]; decide)))))))) (ev_eq _ _ (by (try simp only [put_sz]); rw [sz]; decide)) hx) hs ?_
  refine wpAnyH_take (i := 15) (v := .int .u8 (b.toNat : Int)) rfl (by kernel_rfl) (by kernel_rfl) (by kernel_rfl) (fun _ _ _ h => nomatch h.1) (yh_loadB (by simp [Region.wanted]) (.tmp 85) rfl gm x b (ev_eq _ _ (by (try simp only [put_sz]); rw [sz]; decide)) (fun w h => h)) hs ?_
  refine wpAnyH_take (i := 16) (v := vw (BitVec.ofNat 32 b.toNat)) rfl (by kernel_rfl) (by kernel_rfl) (by kernel_rfl) (fun _ _ _ h => nomatch h.1) (y_conv8 (by simp [Region.wanted]) (.tmp 86) rfl b (ev_eq _ _ (by (try simp only [put_sz]); rw [sz]; decide))) hs ?_
  refine wpAnyH_all (rs := [5]) (by kernel_rfl) (by simp) fun i9 hmem => ?_
  obtain rfl : i9 = 5 := by simpa using hmem
  refine wpOp_yields (S := fun x => x.cell? ⟨gw, i, none⟩ = some (vw p)) (v := vw p) rfl (by kernel_rfl) (y_load (by simp [Region.wanted]) (.tmp 75) rfl gw i p (evn (evn (evn (evn (evn (evn (evn (evn (evn (evn (ev_eq _ _ (by (try simp only [put_sz]); rw [sz]; decide)))))))))))) (fun w h => h)) hp ⟨hs, ?_⟩
  show wpAnyH _ _ _ _ _ _ _ ((((((((((((((((A.put (some 71) (.slice (some ⟨gw, 0, none⟩) 64 64)).put (some 72) (.int .i64 (i : Int))).put (some 73) (.slice (some ⟨gw, 0, none⟩) 64 64)).put (some 74) (.int .i64 (i : Int))).put (some 75) (.pointer (some ⟨gw, i, none⟩))).put (some 78) (.slice (some ⟨gm, 0, none⟩) M cm)).put (some 79) (.int .i64 (at9 : Int))).put (some 80) (.int .i64 (i : Int))).put (some 81) (.int .i64 (4 * (i : Int)))).put (some 82) (.int .i64 ((at9 : Int) + 4 * (i : Int)))).put (some 83) (.int .i64 (q : Int))).put (some 84) (.int .i64 (x : Int))).put (some 85) (.pointer (some ⟨gm, x, none⟩))).put (some 86) (.int .u8 (b.toNat : Int))).put (some 87) (vw (BitVec.ofNat 32 b.toNat))).put (some 76) (vw p)) _
  refine wpAnyH_take (i := 6) (v := vw (p <<< 8)) rfl (by kernel_rfl) (by kernel_rfl) (by kernel_rfl) (fun _ _ _ h => nomatch h.1) (y_shl8 (by simp [Region.wanted]) (.tmp 76) (.const (.int .u64 8)) rfl p (ev_eq _ _ (by (try simp only [put_sz]); rw [sz]; decide)) rfl) hs ?_
  refine wpAnyH_take (i := 17) (v := vw (p <<< 8 ||| BitVec.ofNat 32 b.toNat)) rfl (by kernel_rfl) (by kernel_rfl) (by kernel_rfl) (fun _ _ _ h => nomatch h.1) (y_or (by simp [Region.wanted]) (.tmp 77) (.tmp 87) rfl (p <<< 8) (BitVec.ofNat 32 b.toNat) (ev_eq _ _ (by (try simp only [put_sz]); rw [sz]; decide)) (evn (evn (ev_eq _ _ (by (try simp only [put_sz]); rw [sz]; decide))))) hs ?_
  refine wpAnyH_take (i := 18) (v := .pointer (some ⟨gw, i, none⟩)) rfl (by kernel_rfl) (by kernel_rfl) (by kernel_rfl) (fun _ _ _ h => nomatch h.1) (y_index (by simp [Region.wanted]) (.tmp 71) (.tmp 72) rfl gw 64 64 i (evn (evn (evn (evn (evn (evn (evn (evn (evn (evn (evn (evn (evn (evn (evn (evn (evn (ev_eq _ _ (by (try simp only [put_sz]); rw [sz]; decide))))))))))))))))))) (evn (evn (evn (evn (evn (evn (evn (evn (evn (evn (evn (evn (evn (evn (evn (evn (ev_eq _ _ (by (try simp only [put_sz]); rw [sz]; decide)))))))))))))))))) (by omega)) hs ?_
  refine wpAnyH_all (rs := [19]) (by kernel_rfl) (by simp) fun i9 hmem => ?_
  obtain rfl : i9 = 19 := by simpa using hmem
  refine wpOp_storeW rfl (by kernel_rfl) (.tmp 89) (.tmp 88) rfl gw i (p <<< 8 ||| BitVec.ofNat 32 b.toNat) _ (ev_eq _ _ (by (try simp only [put_sz]); rw [sz]; decide)) (evn (ev_eq _ _ (by (try simp only [put_sz]); rw [sz]; decide))) hp hf ⟨(World.cell?_setCell_other _ _ _ _ (by intro h; simp only [Addr.mk.injEq] at h; omega)).trans hs, wpAnyH_done (by kernel_rfl) ⟨rfl, ?_, rfl⟩ _⟩
  exact ((((((((((((((((((((Keep.refl A _).put 71 _ (by decide)).put 72 _ (by decide)).put 73 _ (by decide)).put 74 _ (by decide)).put 75 _ (by decide)).put 78 _ (by decide)).put 79 _ (by decide)).put 80 _ (by decide)).put 81 _ (by decide)).put 82 _ (by decide)).put 83 _ (by decide)).put 84 _ (by decide)).put 85 _ (by decide)).put 86 _ (by decide)).put 87 _ (by decide)).put 76 _ (by decide)).put 77 _ (by decide)).put 88 _ (by decide)).put 89 _ (by decide)).putn _
end Go.Proofs.YthfmpebgmojcaaaDoor
