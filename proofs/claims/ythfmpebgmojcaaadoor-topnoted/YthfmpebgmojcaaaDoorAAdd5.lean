/- Add's append: the region of 'c.events = append(c.events, event)', over a frame that is a letter. -/
import Derived.Test.YthfmpebgmojcaaaDoorABytes
import Derived.Deep.AppendLies
import Derived.Maps.AppendAt
namespace Go.Proofs.YthfmpebgmojcaaaDoor
open Go.RowKit
set_option linter.unusedVariables false
set_option maxRecDepth 20000

theorem Tryd.infoE : (Tryd.prog.info? 55).map (fun i => (i.zero, i.size, i.bytes)) = some (some (.agg #[.int .i64 0, .int .i64 0, .string ⟨#[]⟩, .string ⟨#[]⟩]), 4, 48) := by kernel_rfl
theorem range_new (w : World) (e : Ev) : (w.alloc (.cells (eVals e).toArray 55)).rangeAt w.heap.size 0 (eVals e) := range_mid (A := []) (C := []) (heap_alloc_new w _) 0 rfl
theorem wp_buildE {o : Oper} {a : Act} {w : World} {K : Act → World → Prop} {Q : Exit → Act → World → Prop} (x : Operand) (ho : o.op = .buildSlice 63 1 #[(0, x)]) (e : Ev) (h0 : a.eval x = .agg (eVals e).toArray)
    (h : K (a.put o.dst (.slice (some ⟨w.heap.size, 0, none⟩) 1 1)) (w.alloc (.cells (eVals e).toArray 55))) : o.wp Tryd.prog a w K Q := by
  unfold Oper.wp execOp
  simp only [ho, List.map_toArray, List.map_cons, List.map_nil, h0, eVals]
  simp [go_sem]
  exact h
theorem wp_storeV {o : Oper} {a : Act} {w : World} {K : Act → World → Prop} {Q : Exit → Act → World → Prop} (x y : Operand) (ho : o.op = .store 63 x y) (g k : Nat) (ad : Option Addr) (n c : Nat) (u : Value) (hx : a.eval x = .pointer (some ⟨g, k, none⟩)) (hy : a.eval y = .slice ad n c) (h1 : w.cell? ⟨g, k, none⟩ = some u) (h2 : w.frozen? ⟨g, k, none⟩ = false)
    (h : K (a.put o.dst undef) (w.setCell ⟨g, k, none⟩ (.slice ad n c))) : o.wp Tryd.prog a w K Q := by
  unfold Oper.wp execOp
  simp only [ho, hx, hy]
  simp [go_sem, h1, h2]
  exact h
theorem wp_appE (w : World) {o : Oper} {a : Act} {K : Act → World → Prop} {Q : Exit → Act → World → Prop} (s x : Operand) (ho : o.op = .call { callee := .builtin .append, args := #[s, x], argTypes := #[63, 63] })
    (B : Nat) (v : Value) (l : List Ev) (hs : a.eval s = v) (hown : w.ownsRow B 55 4 v l.length (eCells l)) (e : Ev) (b : Nat) (hx : a.eval x = .slice (some ⟨b, 0, none⟩) 1 1) (hr : w.rangeAt b 0 (eVals e)) (hl : l.length ≤ 1000) (hB : B ≤ w.heap.size)
    (h : ∀ k cap w', w'.ownsRow B 55 4 (.slice (some ⟨k, 0, none⟩) (l ++ [e]).length cap) (l ++ [e]).length (eCells (l ++ [e])) → w.grownBy w' v.ownBlock → (v.ownBlock = some k ∨ k = w.heap.size) → K (a.put o.dst (.slice (some ⟨k, 0, none⟩) (l ++ [e]).length cap)) w') : o.wp Tryd.prog a w K Q := by
  obtain ⟨i0, hi, hz0, hz1, hz2⟩ := info_parts Tryd.infoE
  refine wp_append_lies w s x 63 ho B 55 i0 (.agg #[.int .i64 0, .int .i64 0, .string ⟨#[]⟩, .string ⟨#[]⟩]) 4 48 Tryd.underlying63 hi hz0 hz1 hz2 rfl (by decide) v l.length (eCells l) hs hown ⟨b, 0, none⟩ 1 1 (eVals e) hx rfl (fun j u hj => by rw [addr_add]; exact hr j u hj) (by rw [← eCells_one]; exact eCells_oneCell _) (by decide) (by unfold maxLen; omega) (by omega) hB w.heap.size rfl ?_
  intro k cap w' h1 h2 h3 _
  rw [show eCells l ++ eVals e = eCells (l ++ [e]) by rw [eCells_append, eCells_one], show l.length + 1 = (l ++ [e]).length by simp] at h1
  have := h k cap w' h1 h2 h3
  rw [show (l ++ [e]).length = l.length + 1 by simp] at this
  exact this
theorem cell_66 {w : World} {g : Nat} {c : Ch} {v : Value} (h : w.heap[g]? = some (.cells (ccells c v).toArray 87 (0, 0))) (ok : Lens c) : w.cell? ⟨g, 66, none⟩ = some v := by
  unfold ccells at h
  rw [← List.append_assoc] at h
  exact cell_mid h 66 (by simp [lnkC_length, ok.lb, ok.lan])
/-- the chain behind the append -/
theorem added_row {w w' : World} {B g k cap : Nat} {v : Value} {c : Ch} {e : Ev} (h : ChAt w B g v c) (ok : Lens c) (hown : w'.ownsRow B 55 4 (.slice (some ⟨k, 0, none⟩) (c.ev ++ [e]).length cap) (c.ev ++ [e]).length (eCells (c.ev ++ [e]))) (hg : w.grownBy w' v.ownBlock) (hk : v.ownBlock = some k ∨ k = w.heap.size)
    (ho : w'.heap[g]? = some (.cells (ccells c v).toArray 87 (0, 0))) :
    ChAt (w'.setCell ⟨g, 66, none⟩ (.slice (some ⟨k, 0, none⟩) (c.ev ++ [e]).length cap)) B g (.slice (some ⟨k, 0, none⟩) (c.ev ++ [e]).length cap) { c with ev := c.ev ++ [e] } ∧ Out (CBlk g v) w (w'.setCell ⟨g, 66, none⟩ (.slice (some ⟨k, 0, none⟩) (c.ev ++ [e]).length cap)) := by
  have hkg : k ≠ g := by
    rcases hk with hk | hk
    · exact h.ne k hk
    · have := h.lt; omega
  refine ⟨⟨?_, ⟨hown.1, ?_⟩, h.bg⟩, (Out.of_grown hg (fun j hj => .inr hj)).setCell _ _ (.inl rfl)⟩
  · rw [heap_setCell_same w' g 66 _ _ _ ho, ccells_set66 ok]
    rfl
  · rcases hown.2 with h0 | ⟨j, cap', cur, hv, hb, hj, r⟩
    · exact .inl h0
    · refine .inr ⟨j, cap', cur, hv, hb, (heap_setCell_other _ _ _ _ (fun x => ?_)).trans hj, r⟩
      cases hv
      exact hkg x

noncomputable def codeAdd (n : Nat) : Code := ((Tryd.f20.body.bind (regionAt n)).getD .skip)

set_option maxHeartbeats 2000000 in
theorem add_region5 {V0 W5 : World} {B g E : Nat} {a0 : Option Addr} {n0 c0 : Nat} {c : Ch} {e : Ev} {A : Act} (sz : A.tmps.size = 53) (e0 : A.eval (.tmp 0) = .pointer (some ⟨g, 0, none⟩)) (e11 : A.eval (.tmp 11) = .pointer (some ⟨E, 0, none⟩))
    (hV0 : V0 = W5.drew) (H0 : ChAt V0 B g (.slice a0 n0 c0) c) (lens : Lens c) (hs0 : V0.heap[E]? = some (.cells (eVals e).toArray 55 (0, 0))) (hfew : c.ev.length ≤ 1000) (hB : B ≤ V0.heap.size) (hneE : (Value.slice a0 n0 c0).ownBlock ≠ some E) :
    (codeAdd 5).wp Tryd.prog (fun x a V => x = .normal ∧ ∃ k cap, a = ((((((((((A.put (some 28) (.pointer (some ⟨g, 0, none⟩))).put (some 29) (.pointer (some ⟨g, 0, none⟩))).put (some 30) (.pointer (some ⟨g, 0, none⟩))).put (some 31) (.pointer (some ⟨g, 66, none⟩))).put (some 33) (.agg (eVals e).toArray)).put (some 32) (.slice a0 n0 c0)).put (some 34) (.slice (some ⟨V0.heap.size, 0, none⟩) 1 1)).put (some 35) (.slice (some ⟨k, 0, none⟩) (c.ev ++ [e]).length cap)).put (some 36) (.pointer (some ⟨g, 0, none⟩))).put (some 37) (.pointer (some ⟨g, 66, none⟩))) ∧
      ChAt V B g (.slice (some ⟨k, 0, none⟩) (c.ev ++ [e]).length cap) { c with ev := c.ev ++ [e] } ∧ V.heap[E]? = some (.cells (eVals e).toArray 55 (0, 0)) ∧ Out (CBlk g (.slice a0 n0 c0)) V0 V ∧ ((Value.slice a0 n0 c0).ownBlock = some k ∨ V0.heap.size ≤ k)) A W5 := by
  have hm : Tryd.prog.follows .mixedOrders = true := by kernel_rfl
  have hEg : E ≠ g := fun x => by
    rw [x, H0.obj] at hs0
    injection hs0 with hs0
    injection hs0 with _ hs0
    exact absurd hs0 (by decide)
  have hA : A = A := rfl
  unfold codeAdd
  conv => arg 2; whnf
  refine wp_region_held (S := fun V => V.heap[E]? = some (.cells (eVals e).toArray 55 (0, 0))) hm ?_
  rw [show ({ W5 with drawn := W5.drawn + 1 } : World) = V0 from hV0.symm]
  have b01 : Below V0.heap.size V0 (V0.alloc (.cells (eVals e).toArray 55)) := (Below.refl _ V0).alloc (Nat.le_refl _) _
  have H1 := H0.below b01
  have hs1 := (b01.block E (heap_lt hs0)).trans hs0
  have hB1 : B ≤ (V0.alloc (.cells (eVals e).toArray 55)).heap.size := Nat.le_trans hB b01.size
  refine wpAnyH_take (i := 0) (v := .pointer (some ⟨g, 0, none⟩)) rfl (by kernel_rfl) (by kernel_rfl) (by kernel_rfl) (fun _ _ _ h => nomatch h.1) (yields_move (by simp [Region.wanted]) (.tmp 0) rfl _ e0) hs0 ?_
  show wpAnyH _ _ _ _ _ _ _ (A.put (some 28) (.pointer (some ⟨g, 0, none⟩))) _
  refine wpAnyH_take (i := 1) (v := .pointer (some ⟨g, 0, none⟩)) rfl (by kernel_rfl) (by kernel_rfl) (by kernel_rfl) (fun _ _ _ h => nomatch h.1) (yields_move (by simp [Region.wanted]) (.tmp 0) rfl _ ((ev_ne _ _ (by decide)).trans e0)) hs0 ?_
  show wpAnyH _ _ _ _ _ _ _ ((A.put (some 28) (.pointer (some ⟨g, 0, none⟩))).put (some 29) (.pointer (some ⟨g, 0, none⟩))) _
  refine wpAnyH_take (i := 2) (v := .pointer (some ⟨g, 0, none⟩)) rfl (by kernel_rfl) (by kernel_rfl) (by kernel_rfl) (fun _ _ _ h => nomatch h.1) (y_nil (by simp [Region.wanted]) (.tmp 29) rfl _ (ev_eq _ _ (by simp [put_sz, sz]))) hs0 ?_
  show wpAnyH _ _ _ _ _ _ _ (((A.put (some 28) (.pointer (some ⟨g, 0, none⟩))).put (some 29) (.pointer (some ⟨g, 0, none⟩))).put (some 30) (.pointer (some ⟨g, 0, none⟩))) _
  refine wpAnyH_take (i := 3) (v := .pointer (some ⟨g, 66, none⟩)) rfl (by kernel_rfl) (by kernel_rfl) (by kernel_rfl) (fun _ _ _ h => nomatch h.1) (y_chain2 (by simp [Region.wanted]) (.tmp 30) rfl g (ev_eq _ _ (by simp [put_sz, sz]))) hs0 ?_
  show wpAnyH _ _ _ _ _ _ _ ((((A.put (some 28) (.pointer (some ⟨g, 0, none⟩))).put (some 29) (.pointer (some ⟨g, 0, none⟩))).put (some 30) (.pointer (some ⟨g, 0, none⟩))).put (some 31) (.pointer (some ⟨g, 66, none⟩))) _
  refine wpAnyH_take (i := 5) (v := .agg (eVals e).toArray) rfl (by kernel_rfl) (by kernel_rfl) (by kernel_rfl) (fun _ _ _ h => nomatch h.1) (y_loadE (by simp [Region.wanted]) (.tmp 11) rfl E 0 e ((ev_ne _ _ (by decide)).trans ((ev_ne _ _ (by decide)).trans ((ev_ne _ _ (by decide)).trans ((ev_ne _ _ (by decide)).trans e11)))) (fun V hV => range_mid (A := []) (C := []) hV 0 rfl)) hs0 ?_
  show wpAnyH _ _ _ _ _ _ _ (((((A.put (some 28) (.pointer (some ⟨g, 0, none⟩))).put (some 29) (.pointer (some ⟨g, 0, none⟩))).put (some 30) (.pointer (some ⟨g, 0, none⟩))).put (some 31) (.pointer (some ⟨g, 66, none⟩))).put (some 33) (.agg (eVals e).toArray)) _
  refine wpAnyH_all (rs := [4, 6]) (by kernel_rfl) (by simp) fun i1 hm1 => ?_
  have hn1 : i1 = 4 ∨ i1 = 6 := by simpa using hm1
  clear hm1
  rcases hn1 with rfl | rfl
  · refine YieldsIf.wpOp rfl (y_loadV (S := fun V => V.cell? ⟨g, 66, none⟩ = some (.slice a0 n0 c0)) (by simp [Region.wanted]) (.tmp 31) rfl g 66 a0 n0 c0 ((ev_ne _ _ (by decide)).trans (ev_eq _ _ (by simp [put_sz, sz]))) (fun V hV => hV)) (H0.c66 lens) ⟨hs0, ?_⟩
    show wpAnyH _ _ _ _ _ _ _ ((((((A.put (some 28) (.pointer (some ⟨g, 0, none⟩))).put (some 29) (.pointer (some ⟨g, 0, none⟩))).put (some 30) (.pointer (some ⟨g, 0, none⟩))).put (some 31) (.pointer (some ⟨g, 66, none⟩))).put (some 33) (.agg (eVals e).toArray)).put (some 32) (.slice a0 n0 c0)) _
    refine wpAnyH_all (rs := [6]) (by kernel_rfl) (by simp) fun i2 hm2 => ?_
    obtain rfl : i2 = 6 := by simpa using hm2
    refine wpOp_own rfl rfl fun K2 hK2 => ?_
    refine wp_buildE (.tmp 33) rfl e ((ev_ne _ _ (by decide)).trans (ev_eq _ _ (by simp [put_sz, sz]))) ?_
    refine hK2 _ _ ⟨hs1, ?_⟩
    clear hK2 K2 hm2
    show wpAnyH _ _ _ _ _ _ _ (((((((A.put (some 28) (.pointer (some ⟨g, 0, none⟩))).put (some 29) (.pointer (some ⟨g, 0, none⟩))).put (some 30) (.pointer (some ⟨g, 0, none⟩))).put (some 31) (.pointer (some ⟨g, 66, none⟩))).put (some 33) (.agg (eVals e).toArray)).put (some 32) (.slice a0 n0 c0)).put (some 34) (.slice (some ⟨V0.heap.size, 0, none⟩) 1 1)) _
    obtain ⟨A3, hA3⟩ : ∃ A3, A3 = (((((((A.put (some 28) (.pointer (some ⟨g, 0, none⟩))).put (some 29) (.pointer (some ⟨g, 0, none⟩))).put (some 30) (.pointer (some ⟨g, 0, none⟩))).put (some 31) (.pointer (some ⟨g, 66, none⟩))).put (some 33) (.agg (eVals e).toArray)).put (some 32) (.slice a0 n0 c0)).put (some 34) (.slice (some ⟨V0.heap.size, 0, none⟩) 1 1)) := ⟨_, rfl⟩
    have szA3 : A3.tmps.size = 53 := by rw [hA3]; simp [put_sz, sz]
    have eA328 : A3.eval (.tmp 28) = .pointer (some ⟨g, 0, none⟩) := by rw [hA3]; exact ((ev_ne _ _ (by decide)).trans ((ev_ne _ _ (by decide)).trans ((ev_ne _ _ (by decide)).trans ((ev_ne _ _ (by decide)).trans ((ev_ne _ _ (by decide)).trans ((ev_ne _ _ (by decide)).trans (ev_eq _ _ (by simp [sz]))))))))
    have eA332 : A3.eval (.tmp 32) = .slice a0 n0 c0 := by rw [hA3]; exact ((ev_ne _ _ (by decide)).trans (ev_eq _ _ (by simp [put_sz, sz])))
    have eA334 : A3.eval (.tmp 34) = .slice (some ⟨V0.heap.size, 0, none⟩) 1 1 := by rw [hA3]; exact (ev_eq _ _ (by simp [put_sz, sz]))
    rw [← hA3]
    refine wpAnyH_all (rs := [7]) (by kernel_rfl) (by simp) fun i3 hm3 => ?_
    obtain rfl : i3 = 7 := by simpa using hm3
    refine wpOp_own rfl rfl fun K3 hK3 => ?_
    refine wp_appE _ (.tmp 32) (.tmp 34) rfl B (.slice a0 n0 c0) c.ev eA332 H1.row e V0.heap.size eA334 (range_new V0 e) hfew hB1 ?_
    intro k cap V2 hown hgrow hk
    have hs2 : V2.heap[E]? = some (.cells (eVals e).toArray 55 (0, 0)) := (hgrow.block E (heap_lt hs1) (fun x => hneE x.symm)).trans hs1
    have o2 : V2.heap[g]? = some (.cells (ccells c (.slice a0 n0 c0)).toArray 87 (0, 0)) := (hgrow.block g H1.lt (fun x => H1.ne g x.symm rfl)).trans H1.obj
    refine hK3 _ _ ⟨hs2, ?_⟩
    clear hK3 K3 hm3
    show wpAnyH _ _ _ _ _ _ _ (A3.put (some 35) (.slice (some ⟨k, 0, none⟩) (c.ev ++ [e]).length cap)) _
    refine wpAnyH_take (i := 8) (v := .pointer (some ⟨g, 0, none⟩)) rfl (by kernel_rfl) (by kernel_rfl) (by kernel_rfl) (fun _ _ _ h => nomatch h.1) (y_nil (by simp [Region.wanted]) (.tmp 28) rfl _ ((ev_ne _ _ (by decide)).trans eA328)) hs2 ?_
    show wpAnyH _ _ _ _ _ _ _ ((A3.put (some 35) (.slice (some ⟨k, 0, none⟩) (c.ev ++ [e]).length cap)).put (some 36) (.pointer (some ⟨g, 0, none⟩))) _
    refine wpAnyH_take (i := 9) (v := .pointer (some ⟨g, 66, none⟩)) rfl (by kernel_rfl) (by kernel_rfl) (by kernel_rfl) (fun _ _ _ h => nomatch h.1) (y_chain2 (by simp [Region.wanted]) (.tmp 36) rfl g (ev_eq _ _ (by simp [put_sz, szA3]))) hs2 ?_
    show wpAnyH _ _ _ _ _ _ _ (((A3.put (some 35) (.slice (some ⟨k, 0, none⟩) (c.ev ++ [e]).length cap)).put (some 36) (.pointer (some ⟨g, 0, none⟩))).put (some 37) (.pointer (some ⟨g, 66, none⟩))) _
    refine wpAnyH_all (rs := [10]) (by kernel_rfl) (by simp) fun i4 hm4 => ?_
    obtain rfl : i4 = 10 := by simpa using hm4
    refine wpOp_own rfl rfl fun K4 hK4 => ?_
    refine wp_storeV (.tmp 37) (.tmp 35) rfl g 66 (some ⟨k, 0, none⟩) _ cap (.slice a0 n0 c0) (ev_eq _ _ (by simp [put_sz, szA3])) ((ev_ne _ _ (by decide)).trans ((ev_ne _ _ (by decide)).trans (ev_eq _ _ (by simp [szA3])))) (cell_66 o2 lens) (frozen_of_row _ _ _ _ _ o2) ?_
    have hfin := added_row H1 lens hown hgrow hk o2
    refine hK4 _ _ ⟨(heap_setCell_other _ _ _ _ (fun x => hEg x)).trans hs2, wpAnyH_done (by kernel_rfl) ⟨rfl, k, cap, ?_, hfin.1, (heap_setCell_other _ _ _ _ (fun x => hEg x)).trans hs2, (Out.of_below (P := CBlk g (.slice a0 n0 c0)) b01).trans hfin.2 (fun _ _ x => x), hk.imp id (fun x => by rw [x]; exact b01.size)⟩ _⟩
    show (((A3.put (some 35) (.slice (some ⟨k, 0, none⟩) (c.ev ++ [e]).length cap)).put (some 36) (.pointer (some ⟨g, 0, none⟩))).put (some 37) (.pointer (some ⟨g, 66, none⟩))) = _
    rw [hA3]
  · refine wpOp_own rfl rfl fun K2 hK2 => ?_
    refine wp_buildE (.tmp 33) rfl e (ev_eq _ _ (by simp [put_sz, sz])) ?_
    refine hK2 _ _ ⟨hs1, ?_⟩
    clear hK2 K2
    show wpAnyH _ _ _ _ _ _ _ ((((((A.put (some 28) (.pointer (some ⟨g, 0, none⟩))).put (some 29) (.pointer (some ⟨g, 0, none⟩))).put (some 30) (.pointer (some ⟨g, 0, none⟩))).put (some 31) (.pointer (some ⟨g, 66, none⟩))).put (some 33) (.agg (eVals e).toArray)).put (some 34) (.slice (some ⟨V0.heap.size, 0, none⟩) 1 1)) _
    refine wpAnyH_all (rs := [4]) (by kernel_rfl) (by simp) fun i3 hm3 => ?_
    obtain rfl : i3 = 4 := by simpa using hm3
    refine YieldsIf.wpOp rfl (y_loadV (S := fun V => V.cell? ⟨g, 66, none⟩ = some (.slice a0 n0 c0)) (by simp [Region.wanted]) (.tmp 31) rfl g 66 a0 n0 c0 ((ev_ne _ _ (by decide)).trans ((ev_ne _ _ (by decide)).trans (ev_eq _ _ (by simp [put_sz, sz])))) (fun V hV => hV)) (H1.c66 lens) ⟨hs1, ?_⟩
    show wpAnyH _ _ _ _ _ _ _ (((((((A.put (some 28) (.pointer (some ⟨g, 0, none⟩))).put (some 29) (.pointer (some ⟨g, 0, none⟩))).put (some 30) (.pointer (some ⟨g, 0, none⟩))).put (some 31) (.pointer (some ⟨g, 66, none⟩))).put (some 33) (.agg (eVals e).toArray)).put (some 34) (.slice (some ⟨V0.heap.size, 0, none⟩) 1 1)).put (some 32) (.slice a0 n0 c0)) _
    obtain ⟨A3, hA3⟩ : ∃ A3, A3 = (((((((A.put (some 28) (.pointer (some ⟨g, 0, none⟩))).put (some 29) (.pointer (some ⟨g, 0, none⟩))).put (some 30) (.pointer (some ⟨g, 0, none⟩))).put (some 31) (.pointer (some ⟨g, 66, none⟩))).put (some 33) (.agg (eVals e).toArray)).put (some 34) (.slice (some ⟨V0.heap.size, 0, none⟩) 1 1)).put (some 32) (.slice a0 n0 c0)) := ⟨_, rfl⟩
    have szA3 : A3.tmps.size = 53 := by rw [hA3]; simp [put_sz, sz]
    have eA328 : A3.eval (.tmp 28) = .pointer (some ⟨g, 0, none⟩) := by rw [hA3]; exact ((ev_ne _ _ (by decide)).trans ((ev_ne _ _ (by decide)).trans ((ev_ne _ _ (by decide)).trans ((ev_ne _ _ (by decide)).trans ((ev_ne _ _ (by decide)).trans ((ev_ne _ _ (by decide)).trans (ev_eq _ _ (by simp [sz]))))))))
    have eA332 : A3.eval (.tmp 32) = .slice a0 n0 c0 := by rw [hA3]; exact (ev_eq _ _ (by simp [put_sz, sz]))
    have eA334 : A3.eval (.tmp 34) = .slice (some ⟨V0.heap.size, 0, none⟩) 1 1 := by rw [hA3]; exact ((ev_ne _ _ (by decide)).trans (ev_eq _ _ (by simp [put_sz, sz])))
    rw [← hA3]
    refine wpAnyH_all (rs := [7]) (by kernel_rfl) (by simp) fun i4 hm4 => ?_
    obtain rfl : i4 = 7 := by simpa using hm4
    refine wpOp_own rfl rfl fun K4 hK4 => ?_
    refine wp_appE _ (.tmp 32) (.tmp 34) rfl B (.slice a0 n0 c0) c.ev eA332 H1.row e V0.heap.size eA334 (range_new V0 e) hfew hB1 ?_
    intro k cap V2 hown hgrow hk
    have hs2 : V2.heap[E]? = some (.cells (eVals e).toArray 55 (0, 0)) := (hgrow.block E (heap_lt hs1) (fun x => hneE x.symm)).trans hs1
    have o2 : V2.heap[g]? = some (.cells (ccells c (.slice a0 n0 c0)).toArray 87 (0, 0)) := (hgrow.block g H1.lt (fun x => H1.ne g x.symm rfl)).trans H1.obj
    refine hK4 _ _ ⟨hs2, ?_⟩
    clear hK4 K4 hm4
    show wpAnyH _ _ _ _ _ _ _ (A3.put (some 35) (.slice (some ⟨k, 0, none⟩) (c.ev ++ [e]).length cap)) _
    refine wpAnyH_take (i := 8) (v := .pointer (some ⟨g, 0, none⟩)) rfl (by kernel_rfl) (by kernel_rfl) (by kernel_rfl) (fun _ _ _ h => nomatch h.1) (y_nil (by simp [Region.wanted]) (.tmp 28) rfl _ ((ev_ne _ _ (by decide)).trans eA328)) hs2 ?_
    show wpAnyH _ _ _ _ _ _ _ ((A3.put (some 35) (.slice (some ⟨k, 0, none⟩) (c.ev ++ [e]).length cap)).put (some 36) (.pointer (some ⟨g, 0, none⟩))) _
    refine wpAnyH_take (i := 9) (v := .pointer (some ⟨g, 66, none⟩)) rfl (by kernel_rfl) (by kernel_rfl) (by kernel_rfl) (fun _ _ _ h => nomatch h.1) (y_chain2 (by simp [Region.wanted]) (.tmp 36) rfl g (ev_eq _ _ (by simp [put_sz, szA3]))) hs2 ?_
    show wpAnyH _ _ _ _ _ _ _ (((A3.put (some 35) (.slice (some ⟨k, 0, none⟩) (c.ev ++ [e]).length cap)).put (some 36) (.pointer (some ⟨g, 0, none⟩))).put (some 37) (.pointer (some ⟨g, 66, none⟩))) _
    refine wpAnyH_all (rs := [10]) (by kernel_rfl) (by simp) fun i5 hm5 => ?_
    obtain rfl : i5 = 10 := by simpa using hm5
    refine wpOp_own rfl rfl fun K5 hK5 => ?_
    refine wp_storeV (.tmp 37) (.tmp 35) rfl g 66 (some ⟨k, 0, none⟩) _ cap (.slice a0 n0 c0) (ev_eq _ _ (by simp [put_sz, szA3])) ((ev_ne _ _ (by decide)).trans ((ev_ne _ _ (by decide)).trans (ev_eq _ _ (by simp [szA3])))) (cell_66 o2 lens) (frozen_of_row _ _ _ _ _ o2) ?_
    have hfin := added_row H1 lens hown hgrow hk o2
    refine hK5 _ _ ⟨(heap_setCell_other _ _ _ _ (fun x => hEg x)).trans hs2, wpAnyH_done (by kernel_rfl) ⟨rfl, k, cap, ?_, hfin.1, (heap_setCell_other _ _ _ _ (fun x => hEg x)).trans hs2, (Out.of_below (P := CBlk g (.slice a0 n0 c0)) b01).trans hfin.2 (fun _ _ x => x), hk.imp id (fun x => by rw [x]; exact b01.size)⟩ _⟩
    show (((A3.put (some 35) (.slice (some ⟨k, 0, none⟩) (c.ev ++ [e]).length cap)).put (some 36) (.pointer (some ⟨g, 0, none⟩))).put (some 37) (.pointer (some ⟨g, 66, none⟩))) = _
    rw [hA3, put_swap (d := 34) (e := 32) _ (by decide)]
end Go.Proofs.YthfmpebgmojcaaaDoor
