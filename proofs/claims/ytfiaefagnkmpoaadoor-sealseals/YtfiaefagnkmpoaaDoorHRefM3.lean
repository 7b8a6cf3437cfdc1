/- The blocks: loop 3 of the reference's Sum, over a frame that is a letter. -/
import Derived.Test.YtfiaefagnkmpoaaDoorHRefM4
import Derived.Test.YtfiaefagnkmpoaaDoorHRefM6
import Derived.Test.YtfiaefagnkmpoaaDoorHRefM8
namespace Go.Proofs.YtfiaefagnkmpoaaDoor
open Go.RowKit
set_option linter.unusedVariables false
set_option maxRecDepth 100000
theorem y_lenS {ops : Array Oper} {S : World → Prop} {op : Oper} {a : Act} (hw : Region.wanted op (yielded ops a.tmps) = true) (t : Nat) (ho : op.op = .call { callee := .builtin .len, args := #[.tmp t], argTypes := #[22] }) (ht : op.type = 3) (ad : Option Addr) (n c : Nat) (hx : a.eval (.tmp t) = .slice ad n c) : YieldsIf Tryd.prog ops S op (.int .i64 (n : Int)) a := by
  refine .inl ⟨hw, fun w _ => ?_⟩
  have hx' : a.tmps[t]?.getD undef = .slice ad n c := by simpa [Act.eval] using hx
  unfold execOp
  simp only [ho, ht]
  simp [go_sem, hx']
theorem wpList_make64 {ops : Array Oper} {rest : List Oper} {o : Oper} {a : Act} {w : World} {Q : Exit → Act → World → Prop} (hg : o.guard = none) (ho : o.op = .makeSlice 62 (.const (.int .i64 64)) (.const (.int .i64 64)))
    (h : wpList Tryd.prog ops Q rest (a.put o.dst (.slice (some ⟨w.heap.size, 0, none⟩) 64 64)) (w.alloc (.cells (wvs (List.replicate 64 0)) 53))) : wpList Tryd.prog ops Q (o :: rest) a w := by
  obtain ⟨i0, hi, hz0, hz1, hz2⟩ := info_parts Tryd.info53
  refine wpList_plain hg fun K hK => ?_
  unfold Oper.wp execOp
  have hm := run_make (P := Tryd.prog) w 62 53 i0 (.int .u32 0) Tryd.underlying62 hi hz0 .i64 .i64 64 64 (by omega) (by omega) (by rw [hz2]; omega) (by omega)
  rw [show (64 : Int).toNat = 64 from rfl, hz1, Nat.mul_one, made_words] at hm
  simp only [ho, Act.eval, Sem.run_bind, hm, Result.andThen_ok, Sem.run_pure, go_sem]
  exact hK _ _ h
noncomputable def code13 : Code := ((Tryd.f12.body.bind (regionAt 13)).getD .skip)
theorem out13 (A : Act) (W : World) (r gm M cm : Nat) (sz : A.tmps.size = 288) (x8 : A.eval (.tmp 8) = .int .i64 (r : Int)) (x5 : A.eval (.tmp 5) = .slice (some ⟨gm, 0, none⟩) M cm) :
    Code.wp Tryd.prog code13 (fun ex A' W' => ex = .normal ∧ ((Keep A A' [56, 57, 58, 59] ∧ A'.eval (.tmp 59) = .bool (decide ((r : Int) < (M : Int)))) ∧ W' = W)) A W := by
  conv => arg 2; whnf
  refine wp_region_list ?_
  refine wpList_yields rfl (.int .i64 (r : Int)) (yields_move (by simp [Region.wanted]) (.tmp 8) rfl _ x8) ?_
  refine wpList_yields rfl (.slice (some ⟨gm, 0, none⟩) M cm) (yields_move (by simp [Region.wanted]) (.tmp 5) rfl _ ((ev_ne _ _ (by decide)).trans x5)) ?_
  refine wpList_yields rfl (.int .i64 (M : Int)) (y_lenS (by simp [Region.wanted]) 57 rfl rfl _ _ _ (ev_eq _ _ (by simp only [put_sz]; rw [sz]; decide))) ?_
  refine wpList_yields rfl (.bool (decide ((r : Int) < (M : Int)))) (y_lss (by simp [Region.wanted]) (.tmp 56) (.tmp 58) rfl (r : Int) (M : Int) ((ev_ne _ _ (by decide)).trans ((ev_ne _ _ (by decide)).trans (ev_eq _ _ (by rw [sz]; decide)))) (ev_eq _ _ (by simp only [put_sz]; rw [sz]; decide))) ?_
  exact wpList_nil ⟨rfl, ⟨((((Keep.refl A _).put 56 _ (by decide)).put 57 _ (by decide)).put 58 _ (by decide)).put 59 _ (by decide), ev_eq _ _ (by simp only [put_sz]; rw [sz]; decide)⟩, rfl⟩
noncomputable def code14 : Code := ((Tryd.f12.body.bind (regionAt 14)).getD .skip)
theorem out14 (A : Act) (W : World) (r : Nat) (hr : r ≤ 140737488355200) (sz : A.tmps.size = 288) (x8 : A.eval (.tmp 8) = .int .i64 (r : Int)) :
    Code.wp Tryd.prog code14 (fun ex A' W' => ex = .normal ∧ ((Keep A A' [8, 60, 61] ∧ A'.eval (.tmp 8) = .int .i64 ((r + 64 : Nat) : Int)) ∧ W' = W)) A W := by
  conv => arg 2; whnf
  refine wp_region_list ?_
  refine wpList_yields rfl (.int .i64 (r : Int)) (yields_move (by simp [Region.wanted]) (.tmp 8) rfl _ x8) ?_
  refine wpList_yields rfl (.int .i64 ((r + 64 : Nat) : Int)) (y_addi (by simp [Region.wanted]) (.tmp 60) (.const (.int .i64 64)) rfl (r : Int) 64 _ (ev_eq _ _ (by rw [sz]; decide)) rfl (by rw [IntKind.wrap_i64]; omega)) ?_
  refine wpList_yields rfl (.int .i64 ((r + 64 : Nat) : Int)) (yh_assign (by simp [Region.wanted]) (.tmp 61) rfl _ (ev_eq _ _ (by simp only [put_sz]; rw [sz]; decide))) ?_
  exact wpList_nil ⟨rfl, ⟨(((Keep.refl A _).put 60 _ (by decide)).put 61 _ (by decide)).put 8 _ (by decide), ev_eq _ _ (by simp only [put_sz]; rw [sz]; decide)⟩, rfl⟩
noncomputable def code15 : Code := ((Tryd.f12.body.bind (regionAt 15)).getD .skip)
theorem out15 (A : Act) (W : World) (sz : A.tmps.size = 288) :
    Code.wp Tryd.prog code15 (fun ex A' W' => ex = .normal ∧ ((Keep A A' [9, 62] ∧ A'.eval (.tmp 9) = .slice (some ⟨W.heap.size, 0, none⟩) 64 64) ∧ W' = W.alloc (.cells (wvs (List.replicate 64 0)) 53))) A W := by
  conv => arg 2; whnf
  refine wp_region_list ?_
  refine wpList_make64 rfl rfl ?_
  refine wpList_yields rfl (.slice (some ⟨W.heap.size, 0, none⟩) 64 64) (yh_assign (by simp [Region.wanted]) (.tmp 62) rfl _ (ev_eq _ _ (by rw [sz]; decide))) ?_
  exact wpList_nil ⟨rfl, ⟨((Keep.refl A _).put 62 _ (by decide)).put 9 _ (by decide), ev_eq _ _ (by simp only [put_sz]; rw [sz]; decide)⟩, rfl⟩
noncomputable def code29 : Code := ((Tryd.f12.body.bind (regionAt 29)).getD .skip)
theorem out29 (A : Act) (W : World) (N : Nat) (sH : S8) (sz : A.tmps.size = 288) (x15 : A.eval (.tmp 15) = .slice none 0 0) (x3 : A.eval (.tmp 3) = .slice (some ⟨N + 1, 0, none⟩) 8 8) (hh : W.heap[N + 1]? = some (.cells sH.vals 53 (0, 0))) :
    Code.wp Tryd.prog code29 (fun ex A' W' => ex = .normal ∧ (Keep A A' [15, 136, 137, 138] ∧ ∃ gv cv, A'.eval (.tmp 15) = .slice (some ⟨gv, 0, none⟩) 8 cv ∧ W.heap.size ≤ gv ∧ VW W' gv sH ∧ Below W.heap.size W W')) A W := by
  have hc : ∀ q (h : q < sH.toL.length), W.cell? ((⟨N + 1, 0, none⟩ : Addr).add q) = some (vw sH.toL[q]) := fun q hq => by
    rw [addr_add, Nat.zero_add, cell_of_row _ _ _ _ _ _ hh, vals_get sH q hq]
  conv => arg 2; whnf
  refine wp_region_list ?_
  refine wpList_yields rfl (.slice none 0 0) (yields_move (by simp [Region.wanted]) (.tmp 15) rfl _ x15) ?_
  refine wpList_yields rfl (.slice (some ⟨N + 1, 0, none⟩) 8 8) (yields_move (by simp [Region.wanted]) (.tmp 3) rfl _ ((ev_ne _ _ (by decide)).trans x3)) ?_
  refine app_words _ rfl (.tmp 136) (.tmp 137) rfl W.heap.size (.slice none 0 0) [] ((ev_ne _ _ (by decide)).trans (ev_eq _ _ (by rw [sz]; decide))) (World.ownsRow_nil _ _ _ _) ⟨N + 1, 0, none⟩ 8 8 sH.toL rfl (ev_eq _ _ (by simp only [put_sz]; rw [sz]; decide)) hc (by simp) (Nat.le_refl _) ?_
  intro v5 w5 ho5 hb5
  obtain ⟨gv, cv, rfl, hgv, hvc⟩ := vrow_of ho5
  refine wpList_yields rfl (.slice (some ⟨gv, 0, none⟩) 8 cv) (yh_assign (by simp [Region.wanted]) (.tmp 138) rfl _ (ev_eq _ _ (by simp only [put_sz]; rw [sz]; decide))) ?_
  exact wpList_nil ⟨rfl, ((((Keep.refl A _).put 136 _ (by decide)).put 137 _ (by decide)).put 138 _ (by decide)).put 15 _ (by decide), gv, cv, ev_eq _ _ (by simp only [put_sz]; rw [sz]; decide), hgv, hvc, hb5⟩
noncomputable def code16 : Code := ((Tryd.f12.body.bind (regionAt 16)).getD .skip)
theorem out16 (A : Act) (W : World) (sz : A.tmps.size = 288) :
    Code.wp Tryd.prog code16 (fun ex A' W' => ex = .normal ∧ ((Keep A A' [10] ∧ A'.eval (.tmp 10) = .int .i64 ((0 : Nat) : Int)) ∧ W' = W)) A W := by
  conv => arg 2; whnf
  refine wp_region_list ?_
  refine wpList_yields rfl (.int .i64 ((0 : Nat) : Int)) (yh_assign (by simp [Region.wanted]) (.const (.int .i64 0)) rfl _ rfl) ?_
  exact wpList_nil ⟨rfl, ⟨(Keep.refl A _).put 10 _ (by decide), ev_eq _ _ (by rw [sz]; decide)⟩, rfl⟩
noncomputable def code23 : Code := ((Tryd.f12.body.bind (regionAt 23)).getD .skip)
theorem out23 (A : Act) (W : World) (sz : A.tmps.size = 288) :
    Code.wp Tryd.prog code23 (fun ex A' W' => ex = .normal ∧ ((Keep A A' [12] ∧ A'.eval (.tmp 12) = .int .i64 ((16 : Nat) : Int)) ∧ W' = W)) A W := by
  conv => arg 2; whnf
  refine wp_region_list ?_
  refine wpList_yields rfl (.int .i64 ((16 : Nat) : Int)) (yh_assign (by simp [Region.wanted]) (.const (.int .i64 16)) rfl _ rfl) ?_
  exact wpList_nil ⟨rfl, ⟨(Keep.refl A _).put 12 _ (by decide), ev_eq _ _ (by rw [sz]; decide)⟩, rfl⟩
noncomputable def code28 : Code := ((Tryd.f12.body.bind (regionAt 28)).getD .skip)
theorem out28 (A : Act) (W : World) (sz : A.tmps.size = 288) :
    Code.wp Tryd.prog code28 (fun ex A' W' => ex = .normal ∧ ((Keep A A' [15] ∧ A'.eval (.tmp 15) = .slice none 0 0) ∧ W' = W)) A W := by
  conv => arg 2; whnf
  refine wp_region_list ?_
  refine wpList_yields rfl (.slice none 0 0) (yh_assign (by simp [Region.wanted]) (.const (.slice none 0 0)) rfl _ rfl) ?_
  exact wpList_nil ⟨rfl, ⟨(Keep.refl A _).put 15 _ (by decide), ev_eq _ _ (by rw [sz]; decide)⟩, rfl⟩
noncomputable def code30 : Code := ((Tryd.f12.body.bind (regionAt 30)).getD .skip)
theorem out30 (A : Act) (W : World) (sz : A.tmps.size = 288) :
    Code.wp Tryd.prog code30 (fun ex A' W' => ex = .normal ∧ ((Keep A A' [16] ∧ A'.eval (.tmp 16) = .int .i64 ((0 : Nat) : Int)) ∧ W' = W)) A W := by
  conv => arg 2; whnf
  refine wp_region_list ?_
  refine wpList_yields rfl (.int .i64 ((0 : Nat) : Int)) (yh_assign (by simp [Region.wanted]) (.const (.int .i64 0)) rfl _ rfl) ?_
  exact wpList_nil ⟨rfl, ⟨(Keep.refl A _).put 16 _ (by decide), ev_eq _ _ (by rw [sz]; decide)⟩, rfl⟩
noncomputable def code39 : Code := ((Tryd.f12.body.bind (regionAt 39)).getD .skip)
theorem out39 (A : Act) (W : World) (sz : A.tmps.size = 288) :
    Code.wp Tryd.prog code39 (fun ex A' W' => ex = .normal ∧ ((Keep A A' [22] ∧ A'.eval (.tmp 22) = .int .i64 ((0 : Nat) : Int)) ∧ W' = W)) A W := by
  conv => arg 2; whnf
  refine wp_region_list ?_
  refine wpList_yields rfl (.int .i64 ((0 : Nat) : Int)) (yh_assign (by simp [Region.wanted]) (.const (.int .i64 0)) rfl _ rfl) ?_
  exact wpList_nil ⟨rfl, ⟨(Keep.refl A _).put 22 _ (by decide), ev_eq _ _ (by rw [sz]; decide)⟩, rfl⟩

noncomputable def body3 : Code := ((Tryd.f12.body.bind (loopAt 15)).getD .skip)
/-- the slots that stay through the blocks -/
structure Four (N gm M cm : Nat) (A0 A : Act) : Prop where
  sz : A.tmps.size = 288
  df : A.defers = A0.defers
  x2 : A.eval (.tmp 2) = A0.eval (.tmp 2)
  x3 : A.eval (.tmp 3) = .slice (some ⟨N + 1, 0, none⟩) 8 8
  x4 : A.eval (.tmp 4) = .slice (some ⟨N + 1 + 1, 0, none⟩) 64 64
  x5 : A.eval (.tmp 5) = .slice (some ⟨gm, 0, none⟩) M cm
theorem Four.keep {N gm M cm : Nat} {A0 A B : Act} {L : List Nat} (h : Four N gm M cm A0 A) (k : Keep A B L) (h2 : 2 ∉ L ∧ 3 ∉ L ∧ 4 ∉ L ∧ 5 ∉ L) : Four N gm M cm A0 B :=
  ⟨k.sz.trans h.sz, k.df.trans h.df, (k.keep 2 h2.1).trans h.x2, (k.keep 3 h2.2.1).trans h.x3, (k.keep 4 h2.2.2.1).trans h.x4, (k.keep 5 h2.2.2.2).trans h.x5⟩
/-- what the loop keeps -/
structure I3 (N gm M cm : Nat) (cur : Array Value) (V2 : World) (m : List UInt8) (A0 A : Act) (W : World) (j : Nat) : Prop where
  f : Four N gm M cm A0 A
  le : 64 * j ≤ M
  ix : A.eval (.tmp 8) = .int .i64 ((64 * j : Nat) : Int)
  bl : BL N gm cur V2 W (blks init (m.take (64 * j)))
def mu3 (M : Nat) (A : Act) (_ : World) : Nat := M - (intOf (A.eval (.tmp 8))).toNat
set_option maxHeartbeats 1000000 in
theorem round3 {Q : Exit → Act → World → Prop} {N gm M cm : Nat} {cur : Array Value} {V2 : World} {m : List UInt8} {A0 : Act} (hM : M = m.length) (hM0 : M % 64 = 0) (hM1 : M ≤ 140737488355200) (hgm : N + 1 + 1 < gm)
    (hmb : ∀ (W : World) (i : Nat) (hi : i < m.length), W.heap[gm]? = some (.cells cur 5 (0, 0)) → W.cell? ⟨gm, i, none⟩ = some (.int .u8 ((m[i]'hi).toNat : Int)))
    (hexit : ∀ A W j, I3 N gm M cm cur V2 m A0 A W j → 64 * j = M → Q (.exit 4) A W) (A : Act) (W : World) (j : Nat) (I : I3 N gm M cm cur V2 m A0 A W j) :
    Code.wp Tryd.prog body3 (Exit.then (fun A' W' => (∃ j', I3 N gm M cm cur V2 m A0 A' W' j') ∧ mu3 M A' W' < mu3 M A W) Q) A W := by
  conv => arg 2; whnf
  refine wp_seq ?_
  refine wp_seq ?_
  refine wp_split _ (out13 A W (64 * j) gm M cm I.f.sz I.ix I.f.x5) ?_
  rintro A1 W1 ⟨⟨k1, c1⟩, hW1⟩
  show Code.wp _ _ _ A1 W1
  have F1 := I.f.keep k1 (by decide)
  have y8 := (k1.keep 8 (by decide)).trans I.ix
  have hbl1 : BL N gm cur V2 W1 (blks init (m.take (64 * j))) := by rw [hW1]; exact I.bl
  have hle := I.le
  by_cases hlt : 64 * j < M
  · refine wp_cond_true (by rw [c1, decide_eq_true (by omega)]) ?_
    refine wp_skip ?_
    show Code.wp _ _ _ A1 W1
    refine wp_seq ?_
    refine wp_block ?_
    refine wp_seq ?_
    obtain ⟨sH, hsH⟩ : ∃ sH, sH = blks init (m.take (64 * j)) := ⟨_, rfl⟩
    rw [← hsH] at hbl1
    obtain ⟨bs, hbs⟩ : ∃ bs, bs = (m.drop (64 * j)).take 64 := ⟨_, rfl⟩
    have lbs : bs.length = 64 := by rw [hbs]; simp; omega
    have Hbs : ∀ (i : Nat) (hi : i < bs.length), ∃ h1, m[64 * j + i]'h1 = bs[i]'hi := fun i hi => ⟨by omega, by simp [hbs]⟩
    have Hcmp : blks init (m.take (64 * (j + 1))) = comp sH bs := by
      have e : m.take (64 * (j + 1)) = m.take (64 * j) ++ bs := by rw [hbs, show 64 * (j + 1) = 64 * j + 64 by omega, List.take_add]
      rw [e, blks_append _ _ _ (by simp; omega), blks_one _ _ lbs, ← hsH]
    have hmb' : ∀ (W : World) (k : Nat) (h : k < bs.length), W.heap[gm]? = some (.cells cur 5 (0, 0)) → W.cell? ⟨gm, 64 * j + k, none⟩ = some (.int .u8 ((bs[k]'h).toNat : Int)) := fun W k h hW => by
      obtain ⟨h1, h2⟩ := Hbs k h
      rw [hmb W (64 * j + k) h1 hW, h2]
    refine wp_split _ (out15 A1 W1 F1.sz) ?_
    rintro A2 W2 ⟨⟨k2, c2⟩, hW2⟩
    show Code.wp _ _ _ A2 W2
    have F2 := F1.keep k2 (by decide)
    have y8_2 := (k2.keep 8 (by decide)).trans y8
    obtain ⟨gw, hgw⟩ : ∃ gw, gw = W1.heap.size := ⟨_, rfl⟩
    rw [← hgw] at c2
    have hw2 : W2.heap[gw]? = some (.cells (wvs (wordsZ bs (4 * 0))) 53 (0, 0)) := by rw [hW2, hgw, Nat.mul_zero, wordsZ_zero]; exact heap_alloc_new W1 _
    have hbl2 : BL N gm cur V2 W2 sH := by rw [hW2]; exact hbl1.alloc _
    have hgm1 : gm < gw := by rw [hgw]; exact heap_lt hbl1.m
    have hgk1 : N + 1 + 1 < gw := by rw [hgw]; exact heap_lt hbl1.k
    refine wp_seq ?_
    refine wp_seq ?_
    refine wp_split _ (out16 A2 W2 F2.sz) ?_
    rintro A3 W3 ⟨⟨k3, c3⟩, hW3⟩
    show Code.wp _ _ _ A3 W3
    have F3 := F2.keep k3 (by decide)
    have y8_3 := (k3.keep 8 (by decide)).trans y8_2
    have y9_3 := (k3.keep 9 (by decide)).trans c2
    refine wp_block ?_
    refine loop4 y9_3 F3.x5 y8_3 hgm1 hgk1 lbs (by omega) hM1 hmb' ⟨F3.sz, Keep.refl _ _, Nat.zero_le _, c3, by rw [hW3]; exact hw2, by rw [hW3]; exact hbl2⟩ ?_
    intro A4 W4 I4
    show Code.wp _ _ _ A4 W4
    have F4 := F3.keep I4.k (by decide)
    have y8_4 := (I4.k.keep 8 (by decide)).trans y8_3
    have y9_4 := (I4.k.keep 9 (by decide)).trans y9_3
    refine wp_seq ?_
    refine wp_seq ?_
    refine wp_split _ (out23 A4 W4 F4.sz) ?_
    rintro A5 W5 ⟨⟨k5, c5⟩, hW5⟩
    show Code.wp _ _ _ A5 W5
    have F5 := F4.keep k5 (by decide)
    have y8_5 := (k5.keep 8 (by decide)).trans y8_4
    have y9_5 := (k5.keep 9 (by decide)).trans y9_4
    refine wp_block ?_
    refine loop6 (bs := bs) y9_5 hgm1 hgk1 ⟨F5.sz, Keep.refl _ _, Nat.le_refl _, by decide, c5, by rw [hW5]; exact I4.w, by rw [hW5]; exact I4.bl⟩ ?_
    intro A6 W6 I6
    show Code.wp _ _ _ A6 W6
    have F6 := F5.keep I6.k (by decide)
    have y8_6 := (I6.k.keep 8 (by decide)).trans y8_5
    have y9_6 := (I6.k.keep 9 (by decide)).trans y9_5
    have hsc6 : W6.heap[gw]? = some (.cells (wvs (sched bs)) 53 (0, 0)) := by
      have h := I6.w
      rw [extZ_all] at h
      exact h
    refine wp_seq ?_
    refine wp_split _ (out28 A6 W6 F6.sz) ?_
    rintro A7 W7 ⟨⟨k7, c7⟩, hW7⟩
    show Code.wp _ _ _ A7 W7
    have F7 := F6.keep k7 (by decide)
    have y8_7 := (k7.keep 8 (by decide)).trans y8_6
    have y9_7 := (k7.keep 9 (by decide)).trans y9_6
    have hbl7 : BL N gm cur V2 W7 sH := by rw [hW7]; exact I6.bl
    have hsc7 : W7.heap[gw]? = some (.cells (wvs (sched bs)) 53 (0, 0)) := by rw [hW7]; exact hsc6
    refine wp_seq ?_
    refine wp_split _ (out29 A7 W7 N sH F7.sz c7 F7.x3 hbl7.h) ?_
    rintro A8 W8 ⟨k8, gv, cv, c8, hgv, hv8, hb8⟩
    show Code.wp _ _ _ A8 W8
    have F8 := F7.keep k8 (by decide)
    have y8_8 := (k8.keep 8 (by decide)).trans y8_7
    have y9_8 := (k8.keep 9 (by decide)).trans y9_7
    have hbl8 : BL N gm cur V2 W8 sH := hbl7.below hb8
    have hsc8 : W8.heap[gw]? = some (.cells (wvs (sched bs)) 53 (0, 0)) := (hb8.block _ (heap_lt hsc7)).trans hsc7
    have hgv' : N + 1 < gv := Nat.lt_of_lt_of_le (heap_lt hbl7.h) hgv
    refine wp_seq ?_
    refine wp_seq ?_
    refine wp_split _ (out30 A8 W8 F8.sz) ?_
    rintro A9 W9 ⟨⟨k9, c9⟩, hW9⟩
    show Code.wp _ _ _ A9 W9
    have F9 := F8.keep k9 (by decide)
    have y8_9 := (k9.keep 8 (by decide)).trans y8_8
    have y9_9 := (k9.keep 9 (by decide)).trans y9_8
    refine wp_block ?_
    refine loop7 (gm := gm) (cur := cur) (V2 := V2) (sH := sH) (bs := bs) F9.x4 y9_9 ⟨F9.sz, rfl, fun _ _ _ => rfl, by decide, c9, ⟨gv, cv, (k9.keep 15 (by decide)).trans c8, hgv', by rw [hW9]; exact hv8⟩, by rw [hW9]; exact hsc8, by rw [hW9]; exact hbl8⟩ ?_
    intro A10 W10 I7
    show Code.wp _ _ _ A10 W10
    obtain ⟨gv', cv', c10, hg10, hv10⟩ := I7.v
    have F10 : Four N gm M cm A0 A10 := ⟨I7.sz, I7.df.trans F9.df, (I7.keep 2 (by decide) (by decide)).trans F9.x2, (I7.keep 3 (by decide) (by decide)).trans F9.x3, (I7.keep 4 (by decide) (by decide)).trans F9.x4, (I7.keep 5 (by decide) (by decide)).trans F9.x5⟩
    have y8_10 := (I7.keep 8 (by decide) (by decide)).trans y8_9
    rw [rds_all] at hv10
    refine wp_seq ?_
    refine wp_split _ (out39 A10 W10 F10.sz) ?_
    rintro A11 W11 ⟨⟨k11, c11⟩, hW11⟩
    show Code.wp _ _ _ A11 W11
    have F11 := F10.keep k11 (by decide)
    have y8_11 := (k11.keep 8 (by decide)).trans y8_10
    refine wp_block ?_
    refine loop8 (gm := gm) (cur := cur) (V2 := V2) (sH := sH) F11.x3 ((k11.keep 15 (by decide)).trans c10) hg10 (by omega) ⟨F11.sz, Keep.refl _ _, by decide, c11, by rw [hW11]; exact hv10, by rw [hW11, mix8_zero]; exact I7.bl⟩ ?_
    intro A12 W12 I8
    show Code.wp _ _ _ A12 W12
    have F12 := F11.keep I8.k (by decide)
    have y8_12 := (I8.k.keep 8 (by decide)).trans y8_11
    refine wp_split _ (out14 A12 W12 (64 * j) (by omega) F12.sz y8_12) ?_
    rintro A13 W13 ⟨⟨k13, c13⟩, hW13⟩
    show (∃ j', I3 N gm M cm cur V2 m A0 A13 W13 j') ∧ mu3 M A13 W13 < mu3 M A W
    refine ⟨⟨j + 1, ⟨F12.keep k13 (by decide), by omega, c13, ?_⟩⟩, ?_⟩
    · rw [hW13, Hcmp]
      have h := I8.bl
      rw [mix8_all] at h
      exact h
    · unfold mu3
      rw [c13, I.ix]
      simp only [intOf]
      omega
  · refine wp_cond_false (by rw [c1, decide_eq_false (by omega)]) ?_
    refine wp_exit ?_
    show Q (.exit 4) A1 W1
    exact hexit A1 W1 j ⟨F1, hle, y8, by rw [hW1]; exact I.bl⟩ (by omega)
theorem loop3 {Q : Exit → Act → World → Prop} {N gm M cm : Nat} {cur : Array Value} {V2 : World} {m : List UInt8} {A0 : Act} {W0 : World} (hM : M = m.length) (hM0 : M % 64 = 0) (hM1 : M ≤ 140737488355200) (hgm : N + 1 + 1 < gm)
    (hmb : ∀ (W : World) (i : Nat) (hi : i < m.length), W.heap[gm]? = some (.cells cur 5 (0, 0)) → W.cell? ⟨gm, i, none⟩ = some (.int .u8 ((m[i]'hi).toNat : Int)))
    (start : I3 N gm M cm cur V2 m A0 A0 W0 0) (hexit : ∀ A W j, I3 N gm M cm cur V2 m A0 A W j → 64 * j = M → Q (.exit 4) A W) : Code.wp Tryd.prog (Code.loop body3) Q A0 W0 :=
  wp_loop (fun A W => ∃ j, I3 N gm M cm cur V2 m A0 A W j) (mu3 M) ⟨0, start⟩ (fun A W ⟨j, h⟩ => round3 hM hM0 hM1 hgm hmb hexit A W j h)
end Go.Proofs.YtfiaefagnkmpoaaDoor
