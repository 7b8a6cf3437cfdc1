/- YtdglmoikgmlaaaaGreatDoorHRefL8 + YtdglmoikgmlaaaaGreatDoorHRefM8 -/
import Derived.Test.YtdglmoikgmlaaaaGreatDoorHRefL7
/- The words of a block added to the state (loop 8 of the reference's Sum), over a frame that is a letter. -/
namespace Go.Proofs.YtdglmoikgmlaaaaGreatDoor
open Go.RowKit
set_option linter.unusedVariables false
set_option maxRecDepth 100000
/-- a frame behind code that writes no slots but these -/
structure Keep (A A' : Act) (L : List Nat) : Prop where
  sz : A'.tmps.size = A.tmps.size
  df : A'.defers = A.defers
  keep : ∀ i : Nat, i ∉ L → A'.eval (.tmp i) = A.eval (.tmp i)
theorem Keep.refl (A : Act) (L : List Nat) : Keep A A L := ⟨rfl, rfl, fun _ _ => rfl⟩
theorem Keep.put {A A' : Act} {L : List Nat} (h : Keep A A' L) (d : Nat) (v : Value) (hd : d ∈ L) : Keep A (A'.put (some d) v) L :=
  ⟨(put_sz _ _ _).trans h.sz, (put_df _ _ _).trans h.df, fun i hi => (ev_ne _ _ (fun e => hi (by have e' : d = i := e; rw [← e']; exact hd))).trans (h.keep i hi)⟩
theorem Keep.putn {A A' : Act} {L : List Nat} (h : Keep A A' L) (v : Value) : Keep A (A'.put none v) L := ⟨(put_sz _ _ _).trans h.sz, (put_df _ _ _).trans h.df, h.keep⟩
theorem Keep.trans {A B D : Act} {L : List Nat} (h : Keep A B L) (k : Keep B D L) : Keep A D L := ⟨k.sz.trans h.sz, k.df.trans h.df, fun i hi => (k.keep i hi).trans (h.keep i hi)⟩
theorem Keep.mono {A B : Act} {L M : List Nat} (h : Keep A B L) (k : ∀ i, i ∈ L → i ∈ M) : Keep A B M := ⟨h.sz, h.df, fun i hi => h.keep i (fun hm => hi (k i hm))⟩
theorem wp_yields {ops : Array Oper} {S : World → Prop} {o : Oper} {a : Act} {w : World} {v : Value} {K : Act → World → Prop} {Q : Exit → Act → World → Prop} (hy : YieldsIf Tryz.prog ops S o v a) (hs : S w) (hg : o.guard = none) (h : K (a.put o.dst v) w) : o.wp Tryz.prog a w K Q := by
  rcases hy with ⟨_, hr⟩ | ⟨hn, _⟩
  · unfold Oper.wp
    rw [hr w hs, Oper.upon_value]
    exact h
  · exact absurd hn (by simp [Region.wanted, hg])
theorem wpOp_yields {ops : Array Oper} {i : Nat} {o : Oper} {S : World → Prop} {a : Act} {w : World} {v : Value} {K : Act → World → Prop} {Q : Exit → Act → World → Prop} (hi : ops[i]? = some o) (hg : o.guard = none) (hy : YieldsIf Tryz.prog ops S o v a) (hs : S w) (h : K (a.put o.dst v) w) : wpOp Tryz.prog ops Q i K a w :=
  wpOp_own hi hg fun K' hK' => wp_yields hy hs hg (hK' _ _ h)
theorem wpOp_storeW {ops : Array Oper} {i : Nat} {o : Oper} {a : Act} {w : World} {K : Act → World → Prop} {Q : Exit → Act → World → Prop} (hi : ops[i]? = some o) (hg : o.guard = none) (x y : Operand) (ho : o.op = .store 127 x y) (g k : Nat) (v : W32) (u : Value) (hx : a.eval x = .pointer (some ⟨g, k, none⟩)) (hy : a.eval y = vw v)
    (hc : w.cell? ⟨g, k, none⟩ = some u) (hf : w.frozen? ⟨g, k, none⟩ = false) (h : K (a.put o.dst undef) (w.setCell ⟨g, k, none⟩ (vw v))) : wpOp Tryz.prog ops Q i K a w :=
  wpOp_own hi hg fun K' hK' => wp_store_word x y ho g k v u hx hy hc hf (hK' _ _ h)
abbrev L8 : List Nat := [22, 256, 257, 258, 259, 260, 261, 262, 263, 264, 265, 266, 267, 268, 269]
noncomputable def code40 : Code := ((Tryz.f89.body.bind (regionAt 40)).getD .skip)
noncomputable def code41 : Code := ((Tryz.f89.body.bind (regionAt 41)).getD .skip)
noncomputable def code42 : Code := ((Tryz.f89.body.bind (regionAt 42)).getD .skip)
noncomputable def body8 : Code := ((Tryz.f89.body.bind (loopAt 42)).getD .skip)
theorem out40 (A : Act) (W : World) (r : Nat) (sz : A.tmps.size = 288) (x22 : A.eval (.tmp 22) = .int .i64 (r : Int)) :
    Code.wp Tryz.prog code40 (fun ex A' W' => ex = .normal ∧ ((Keep A A' [256, 257] ∧ A'.eval (.tmp 257) = .bool (decide ((r : Int) < 8))) ∧ W' = W)) A W := by
  conv => arg 2; whnf
  refine wp_region_list ?_
  refine wpList_yields rfl (.int .i64 (r : Int)) (yields_move (by simp [Region.wanted]) (.tmp 22) rfl _ x22) ?_
  refine wpList_yields rfl (.bool (decide ((r : Int) < 8))) (y_lss (by simp [Region.wanted]) (.tmp 256) (.const (.int .i64 8)) rfl (r : Int) 8 (ev_eq _ _ (by rw [sz]; decide)) rfl) ?_
  exact wpList_nil ⟨rfl, ⟨((Keep.refl A _).put 256 _ (by decide)).put 257 _ (by decide), ev_eq _ _ (by simp only [put_sz]; rw [sz]; decide)⟩, rfl⟩
theorem out41 (A : Act) (W : World) (r : Nat) (hr : r < 64) (sz : A.tmps.size = 288) (x22 : A.eval (.tmp 22) = .int .i64 (r : Int)) :
    Code.wp Tryz.prog code41 (fun ex A' W' => ex = .normal ∧ ((Keep A A' [22, 258, 259] ∧ A'.eval (.tmp 22) = .int .i64 ((r + 1 : Nat) : Int)) ∧ W' = W)) A W := by
  conv => arg 2; whnf
  refine wp_region_list ?_
  refine wpList_yields rfl (.int .i64 (r : Int)) (yields_move (by simp [Region.wanted]) (.tmp 22) rfl _ x22) ?_
  refine wpList_yields rfl (.int .i64 ((r + 1 : Nat) : Int)) (y_addi (by simp [Region.wanted]) (.tmp 258) (.const (.int .i64 1)) rfl (r : Int) 1 _ (ev_eq _ _ (by rw [sz]; decide)) rfl (by rw [IntKind.wrap_i64]; omega)) ?_
  refine wpList_yields rfl (.int .i64 ((r + 1 : Nat) : Int)) (yh_assign (by simp [Region.wanted]) (.tmp 259) rfl _ (ev_eq _ _ (by simp only [put_sz]; rw [sz]; decide))) ?_
  exact wpList_nil ⟨rfl, ⟨(((Keep.refl A _).put 258 _ (by decide)).put 259 _ (by decide)).put 22 _ (by decide), ev_eq _ _ (by simp only [put_sz]; rw [sz]; decide)⟩, rfl⟩
set_option maxHeartbeats 4000000 in
theorem out42 (A : Act) (W : World) (N gv cv j : Nat) (p q : W32) (hj : j < 8) (hg : N + 1 < gv) (sz : A.tmps.size = 288) (x3 : A.eval (.tmp 3) = .slice (some ⟨N + 1, 0, none⟩) 8 8) (x15 : A.eval (.tmp 15) = .slice (some ⟨gv, 0, none⟩) 8 cv) (x22 : A.eval (.tmp 22) = .int .i64 (j : Int))
    (hp : W.cell? ⟨N + 1, j, none⟩ = some (vw p)) (hs : W.cell? ⟨gv, j, none⟩ = some (vw q)) (hf : W.frozen? ⟨N + 1, j, none⟩ = false) :
    Code.wp Tryz.prog code42 (fun ex A' W' => ex = .normal ∧ (Keep A A' [260, 261, 262, 263, 264, 265, 266, 267, 268, 269] ∧ W' = W.drew.setCell ⟨N + 1, j, none⟩ (vw (p + q)))) A W := by
  have hmx : Tryz.prog.follows .mixedOrders = true := by kernel_rfl
  conv => arg 2; whnf
  refine wp_region_held (S := fun w9 => w9.cell? ⟨gv, j, none⟩ = some (vw q)) hmx ?_
  show wpAnyH _ _ _ _ _ _ _ _ (World.drew W)
  refine wpAnyH_take (i := 0) (v := .slice (some ⟨N + 1, 0, none⟩) 8 8) rfl (by kernel_rfl) (by kernel_rfl) (by kernel_rfl) (fun _ _ _ h => nomatch h.1) (yields_move (by simp [Region.wanted]) (.tmp 3) rfl _ x3) hs ?_
  refine wpAnyH_take (i := 1) (v := .int .i64 (j : Int)) rfl (by kernel_rfl) (by kernel_rfl) (by kernel_rfl) (fun _ _ _ h => nomatch h.1) (yields_move (by simp [Region.wanted]) (.tmp 22) rfl _ ((ev_ne _ _ (by decide)).trans x22)) hs ?_
  refine wpAnyH_take (i := 2) (v := .pointer (some ⟨N + 1, j, none⟩)) rfl (by kernel_rfl) (by kernel_rfl) (by kernel_rfl) (fun _ _ _ h => nomatch h.1) (y_index (by simp [Region.wanted]) (.tmp 260) (.tmp 261) rfl (N + 1) 8 8 j ((ev_ne _ _ (by decide)).trans (ev_eq _ _ (by (try simp only [put_sz]); rw [sz]; decide))) (ev_eq _ _ (by (try simp only [put_sz]); rw [sz]; decide)) hj) hs ?_
  refine wpAnyH_take (i := 4) (v := .slice (some ⟨gv, 0, none⟩) 8 cv) rfl (by kernel_rfl) (by kernel_rfl) (by kernel_rfl) (fun _ _ _ h => nomatch h.1) (yields_move (by simp [Region.wanted]) (.tmp 15) rfl _ ((ev_ne _ _ (by decide)).trans ((ev_ne _ _ (by decide)).trans ((ev_ne _ _ (by decide)).trans x15)))) hs ?_
  refine wpAnyH_take (i := 5) (v := .int .i64 (j : Int)) rfl (by kernel_rfl) (by kernel_rfl) (by kernel_rfl) (fun _ _ _ h => nomatch h.1) (yields_move (by simp [Region.wanted]) (.tmp 22) rfl _ ((ev_ne _ _ (by decide)).trans ((ev_ne _ _ (by decide)).trans ((ev_ne _ _ (by decide)).trans ((ev_ne _ _ (by decide)).trans x22))))) hs ?_
  refine wpAnyH_take (i := 6) (v := .pointer (some ⟨gv, j, none⟩)) rfl (by kernel_rfl) (by kernel_rfl) (by kernel_rfl) (fun _ _ _ h => nomatch h.1) (y_index (by simp [Region.wanted]) (.tmp 264) (.tmp 265) rfl gv 8 cv j ((ev_ne _ _ (by decide)).trans (ev_eq _ _ (by (try simp only [put_sz]); rw [sz]; decide))) (ev_eq _ _ (by (try simp only [put_sz]); rw [sz]; decide)) hj) hs ?_
  refine wpAnyH_take (i := 7) (v := vw q) rfl (by kernel_rfl) (by kernel_rfl) (by kernel_rfl) (fun _ _ _ h => nomatch h.1) (y_load (by simp [Region.wanted]) (.tmp 266) rfl gv j q (ev_eq _ _ (by (try simp only [put_sz]); rw [sz]; decide)) (fun w h => h)) hs ?_
  refine wpAnyH_all (rs := [3]) (by kernel_rfl) (by simp) fun i9 hmem => ?_
  obtain rfl : i9 = 3 := by simpa using hmem
  refine wpOp_yields (S := fun x => x.cell? ⟨N + 1, j, none⟩ = some (vw p)) (v := vw p) rfl (by kernel_rfl) (y_load (by simp [Region.wanted]) (.tmp 262) rfl (N + 1) j p ((ev_ne _ _ (by decide)).trans ((ev_ne _ _ (by decide)).trans ((ev_ne _ _ (by decide)).trans ((ev_ne _ _ (by decide)).trans (ev_eq _ _ (by (try simp only [put_sz]); rw [sz]; decide)))))) (fun w h => h)) hp ⟨hs, ?_⟩
  show wpAnyH _ _ _ _ _ _ _ ((((((((A.put (some 260) (.slice (some ⟨N + 1, 0, none⟩) 8 8)).put (some 261) (.int .i64 (j : Int))).put (some 262) (.pointer (some ⟨N + 1, j, none⟩))).put (some 264) (.slice (some ⟨gv, 0, none⟩) 8 cv)).put (some 265) (.int .i64 (j : Int))).put (some 266) (.pointer (some ⟨gv, j, none⟩))).put (some 267) (vw q)).put (some 263) (vw p)) _
  refine wpAnyH_take (i := 8) (v := vw (p + q)) rfl (by kernel_rfl) (by kernel_rfl) (by kernel_rfl) (fun _ _ _ h => nomatch h.1) (y_add (by simp [Region.wanted]) (.tmp 263) (.tmp 267) rfl p q (ev_eq _ _ (by (try simp only [put_sz]); rw [sz]; decide)) ((ev_ne _ _ (by decide)).trans (ev_eq _ _ (by (try simp only [put_sz]); rw [sz]; decide)))) hs ?_
  refine wpAnyH_take (i := 9) (v := .pointer (some ⟨N + 1, j, none⟩)) rfl (by kernel_rfl) (by kernel_rfl) (by kernel_rfl) (fun _ _ _ h => nomatch h.1) (y_index (by simp [Region.wanted]) (.tmp 260) (.tmp 261) rfl (N + 1) 8 8 j ((ev_ne _ _ (by decide)).trans ((ev_ne _ _ (by decide)).trans ((ev_ne _ _ (by decide)).trans ((ev_ne _ _ (by decide)).trans ((ev_ne _ _ (by decide)).trans ((ev_ne _ _ (by decide)).trans ((ev_ne _ _ (by decide)).trans ((ev_ne _ _ (by decide)).trans (ev_eq _ _ (by (try simp only [put_sz]); rw [sz]; decide)))))))))) ((ev_ne _ _ (by decide)).trans ((ev_ne _ _ (by decide)).trans ((ev_ne _ _ (by decide)).trans ((ev_ne _ _ (by decide)).trans ((ev_ne _ _ (by decide)).trans ((ev_ne _ _ (by decide)).trans ((ev_ne _ _ (by decide)).trans (ev_eq _ _ (by (try simp only [put_sz]); rw [sz]; decide))))))))) hj) hs ?_
  refine wpAnyH_all (rs := [10]) (by kernel_rfl) (by simp) fun i9 hmem => ?_
  obtain rfl : i9 = 10 := by simpa using hmem
  refine wpOp_storeW rfl (by kernel_rfl) (.tmp 269) (.tmp 268) rfl (N + 1) j (p + q) _ (ev_eq _ _ (by (try simp only [put_sz]); rw [sz]; decide)) ((ev_ne _ _ (by decide)).trans (ev_eq _ _ (by (try simp only [put_sz]); rw [sz]; decide))) hp hf ⟨(World.cell?_setCell_other _ _ _ _ (by intro h; simp only [Addr.mk.injEq] at h; omega)).trans hs, wpAnyH_done (by kernel_rfl) ⟨rfl, ?_, rfl⟩ _⟩
  exact (((((((((((Keep.refl A _).put 260 _ (by decide)).put 261 _ (by decide)).put 262 _ (by decide)).put 264 _ (by decide)).put 265 _ (by decide)).put 266 _ (by decide)).put 267 _ (by decide)).put 263 _ (by decide)).put 268 _ (by decide)).put 269 _ (by decide)).putn _
end Go.Proofs.YtdglmoikgmlaaaaGreatDoor

/- The words of a block added to the state: loop 8 of the reference's Sum, over a frame that is a letter. -/
namespace Go.Proofs.YtdglmoikgmlaaaaGreatDoor
open Go.RowKit
set_option linter.unusedVariables false
set_option maxRecDepth 100000
/-- a state whose first j words have been added to -/
def mix8 (s e : S8) (j : Nat) : S8 := ⟨if 0 < j then s.a + e.a else s.a, if 1 < j then s.b + e.b else s.b, if 2 < j then s.c + e.c else s.c, if 3 < j then s.d + e.d else s.d, if 4 < j then s.e + e.e else s.e, if 5 < j then s.f + e.f else s.f, if 6 < j then s.g + e.g else s.g, if 7 < j then s.h + e.h else s.h⟩
theorem mix8_zero (s e : S8) : mix8 s e 0 = s := rfl
theorem mix8_all (s e : S8) : mix8 s e 8 = s.add e := rfl
theorem mix8_step (s e : S8) (j : Nat) (h : j < 8) : (mix8 s e j).vals.setIfInBounds j (vw ((mix8 s e j).toL[j]'h + e.toL[j]'h)) = (mix8 s e (j + 1)).vals := by
  have : j = 0 ∨ j = 1 ∨ j = 2 ∨ j = 3 ∨ j = 4 ∨ j = 5 ∨ j = 6 ∨ j = 7 := by omega
  rcases this with rfl | rfl | rfl | rfl | rfl | rfl | rfl | rfl <;> rfl
/-- what the loop keeps -/
structure I8 (N gm gv cv : Nat) (cur : Array Value) (V2 : World) (sH e8 : S8) (A0 A : Act) (W : World) (j : Nat) : Prop where
  sz : A.tmps.size = 288
  k : Keep A0 A L8
  le : j ≤ 8
  i : A.eval (.tmp 22) = .int .i64 (j : Int)
  v : VW W gv e8
  bl : BL N gm cur V2 W (mix8 sH e8 j)
def mu8 (A : Act) (_ : World) : Nat := 8 - (intOf (A.eval (.tmp 22))).toNat
set_option maxHeartbeats 400000 in
theorem round8 {Q : Exit → Act → World → Prop} {N gm gv cv : Nat} {cur : Array Value} {V2 : World} {sH e8 : S8} {A0 : Act} (x3 : A0.eval (.tmp 3) = .slice (some ⟨N + 1, 0, none⟩) 8 8) (x15 : A0.eval (.tmp 15) = .slice (some ⟨gv, 0, none⟩) 8 cv) (hg : N + 1 < gv) (hgm : gm ≠ N + 1)
    (hexit : ∀ A W, I8 N gm gv cv cur V2 sH e8 A0 A W 8 → Q (.exit 14) A W) (A : Act) (W : World) (j : Nat) (I : I8 N gm gv cv cur V2 sH e8 A0 A W j) :
    Code.wp Tryz.prog body8 (Exit.then (fun A' W' => (∃ j', I8 N gm gv cv cur V2 sH e8 A0 A' W' j') ∧ mu8 A' W' < mu8 A W) Q) A W := by
  conv => arg 2; whnf
  refine wp_seq ?_
  refine wp_seq ?_
  refine wp_split _ (out40 A W j I.sz I.i) ?_
  rintro A1 W1 ⟨⟨k1, c1⟩, hW1⟩
  show Code.wp _ _ _ A1 W1
  have K1 : Keep A A1 L8 := k1.mono (by decide)
  have sz1 : A1.tmps.size = 288 := K1.sz.trans I.sz
  have y22 : A1.eval (.tmp 22) = .int .i64 (j : Int) := (k1.keep 22 (by decide)).trans I.i
  by_cases hlt : j < 8
  · refine wp_cond_true (by rw [c1, decide_eq_true (by omega)]) ?_
    refine wp_skip ?_
    show Code.wp _ _ _ A1 W1
    refine wp_seq ?_
    refine wp_block ?_
    have y3 := (K1.keep 3 (by decide)).trans ((I.k.keep 3 (by decide)).trans x3)
    have y15 := (K1.keep 15 (by decide)).trans ((I.k.keep 15 (by decide)).trans x15)
    have hp : W1.cell? ⟨N + 1, j, none⟩ = some (vw ((mix8 sH e8 j).toL[j]'hlt)) := by rw [hW1, cell_of_row _ _ _ _ _ _ I.bl.h, vals_get _ j hlt]
    have hf : W1.frozen? ⟨N + 1, j, none⟩ = false := by rw [hW1]; exact frozen_of_row _ _ j _ _ I.bl.h
    refine wp_split _ (out42 A1 W1 N gv cv j _ (e8.toL[j]'hlt) hlt hg sz1 y3 y15 y22 hp (by rw [hW1]; exact I.v j hlt) hf) ?_
    rintro A2 W2 ⟨k2, hW2⟩
    show Code.wp _ _ _ A2 W2
    have K2 : Keep A1 A2 L8 := k2.mono (by decide)
    refine wp_split _ (out41 A2 W2 j (by omega) (K2.sz.trans sz1) ((k2.keep 22 (by decide)).trans y22)) ?_
    rintro A3 W3 ⟨⟨k3, c3⟩, hW3⟩
    show (∃ j', I8 N gm gv cv cur V2 sH e8 A0 A3 W3 j') ∧ mu8 A3 W3 < mu8 A W
    have K3 : Keep A2 A3 L8 := k3.mono (by decide)
    have hb1 : Below (N + 1) V2 W1 := by rw [hW1]; exact I.bl.bel
    have hh1 : W1.heap[N + 1]? = some (.cells (mix8 sH e8 j).vals 127 (0, 0)) := by rw [hW1]; exact I.bl.h
    have hk1 : W1.heap[N + 1 + 1]? = some (.cells kcells 127 (0, 0)) := by rw [hW1]; exact I.bl.k
    have hm1 : W1.heap[gm]? = some (.cells cur 5 (0, 0)) := by rw [hW1]; exact I.bl.m
    have hv1 : VW W1 gv e8 := by rw [hW1]; exact I.v
    refine ⟨⟨j + 1, ⟨K3.sz.trans (K2.sz.trans sz1), I.k.trans (K1.trans (K2.trans K3)), by omega, c3, ?_, ?_⟩⟩, ?_⟩
    · rw [hW3, hW2]
      intro q hq
      exact (World.cell?_setCell_other _ _ _ _ (by intro h; simp only [Addr.mk.injEq] at h; omega)).trans (hv1 q hq)
    · rw [hW3, hW2]
      refine ⟨?_, (heap_setCell_other _ _ _ _ (by simp)).trans hk1, (heap_setCell_other _ _ _ _ hgm).trans hm1, hb1.drew.setCell (Nat.le_refl _) _⟩
      rw [heap_setCell_same _ _ _ _ _ _ (show W1.drew.heap[N + 1]? = _ from hh1), mix8_step _ _ _ hlt]
    · unfold mu8
      rw [c3, I.i]
      simp only [intOf]
      omega
  · refine wp_cond_false (by rw [c1, decide_eq_false (by omega)]) ?_
    refine wp_exit ?_
    show Q (.exit 14) A1 W1
    have hr : j = 8 := by have := I.le; omega
    subst hr
    exact hexit A1 W1 ⟨sz1, I.k.trans K1, Nat.le_refl _, y22, by rw [hW1]; exact I.v, by rw [hW1]; exact I.bl⟩
/-- the loop -/
theorem loop8 {Q : Exit → Act → World → Prop} {N gm gv cv : Nat} {cur : Array Value} {V2 : World} {sH e8 : S8} {A0 : Act} {W0 : World} (x3 : A0.eval (.tmp 3) = .slice (some ⟨N + 1, 0, none⟩) 8 8) (x15 : A0.eval (.tmp 15) = .slice (some ⟨gv, 0, none⟩) 8 cv) (hg : N + 1 < gv) (hgm : gm ≠ N + 1)
    (start : I8 N gm gv cv cur V2 sH e8 A0 A0 W0 0) (hexit : ∀ A W, I8 N gm gv cv cur V2 sH e8 A0 A W 8 → Q (.exit 14) A W) : Code.wp Tryz.prog (Code.loop body8) Q A0 W0 :=
  wp_loop (fun A W => ∃ j, I8 N gm gv cv cur V2 sH e8 A0 A W j) mu8 ⟨0, start⟩ (fun A W ⟨j, h⟩ => round8 x3 x15 hg hgm hexit A W j h)
end Go.Proofs.YtdglmoikgmlaaaaGreatDoor
