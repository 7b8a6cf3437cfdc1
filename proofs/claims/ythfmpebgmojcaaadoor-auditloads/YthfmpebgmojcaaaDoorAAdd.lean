/- YthfmpebgmojcaaaDoorAAdd5 + YthfmpebgmojcaaaDoorAAdd6 + YthfmpebgmojcaaaDoorAAdd -/
import Derived.Test.YthfmpebgmojcaaaDoorTkH
import Derived.Test.YthfmpebgmojcaaaDoorABytes
import Derived.Deep.AppendLies
import Derived.Maps.AppendAt
/- Add's append: the region of 'c.events = append(c.events, event)', over a frame that is a letter. -/
namespace Go.Proofs.YthfmpebgmojcaaaDoor
open Go.RowKit
set_option linter.unusedVariables false
set_option maxRecDepth 20000
theorem Tryd.infoE : (Tryd.prog.info? 55).map (fun i => (i.zero, i.size, i.bytes)) = some (some (.agg #[.int .i64 0, .int .i64 0, .string ⟨#[]⟩, .string ⟨#[]⟩]), 4, 48) := by kernel_rfl
theorem range_new (w : World) (e : Ev) : (w.alloc (.cells (eVals e).toArray 55)).rangeAt w.heap.size 0 (eVals e) := range_mid (A := []) (C := []) (heap_alloc_new w _) 0 rfl
theorem wp_buildE {o : Oper} {a : Act} {w : World} {K : Act → World → Prop} {Q : Exit → Act → World → Prop} (x : Operand) (ho : o.op = .buildSlice 63 1 #[(0, x)]) (e : Ev) (h0 : a.eval x = .agg (eVals e).toArray)
    (h : K (a.put o.dst (.slice (some ⟨w.heap.size, 0, none⟩) 1 1)) (w.alloc (.cells (eVals e).toArray 55))) : o.wp Tryd.prog a w K Q := by
  unfold Oper.wp execOp
  simp only [ho, List.map_toArray, List.map_cons, List.map_nil, h0, eVals]
  simp [go_sem]
  exact h
theorem wp_storeV {o : Oper} {a : Act} {w : World} {K : Act → World → Prop} {Q : Exit → Act → World → Prop} (x y : Operand) (ho : o.op = .store 63 x y) (g k : Nat) (ad : Option Addr) (n c : Nat) (u : Value) (hx : a.eval x = .pointer (some ⟨g, k, none⟩)) (hy : a.eval y = .slice ad n c) (h1 : w.cell? ⟨g, k, none⟩ = some u) (h2 : w.frozen? ⟨g, k, none⟩ = false)
    (h : K (a.put o.dst undef) (w.setCell ⟨g, k, none⟩ (.slice ad n c))) : o.wp Tryd.prog a w K Q := by
  unfold Oper.wp execOp
  simp only [ho, hx, hy]
  simp [go_sem, h1, h2]
  exact h
theorem wp_appE (w : World) {o : Oper} {a : Act} {K : Act → World → Prop} {Q : Exit → Act → World → Prop} (s x : Operand) (ho : o.op = .call { callee := .builtin .append, args := #[s, x], argTypes := #[63, 63] })
    (B : Nat) (v : Value) (l : List Ev) (hs : a.eval s = v) (hown : w.ownsRow B 55 4 v l.length (eCells l)) (e : Ev) (b : Nat) (hx : a.eval x = .slice (some ⟨b, 0, none⟩) 1 1) (hr : w.rangeAt b 0 (eVals e)) (hl : l.length ≤ 1000) (hB : B ≤ w.heap.size)
    (h : ∀ k cap w', w'.ownsRow B 55 4 (.slice (some ⟨k, 0, none⟩) (l ++ [e]).length cap) (l ++ [e]).length (eCells (l ++ [e])) → w.grownBy w' v.ownBlock → (v.ownBlock = some k ∨ k = w.heap.size) → K (a.put o.dst (.slice (some ⟨k, 0, none⟩) (l ++ [e]).length cap)) w') : o.wp Tryd.prog a w K Q := by
  obtain ⟨i0, hi, hz0, hz1, hz2⟩ := info_parts Tryd.infoE
  refine wp_append_lies w s x 63 ho B 55 i0 (.agg #[.int .i64 0, .int .i64 0, .string ⟨#[]⟩, .string ⟨#[]⟩]) 4 48 Tryd.underlying63 hi hz0 hz1 hz2 rfl (by decide) v l.length (eCells l) hs hown ⟨b, 0, none⟩ 1 1 (eVals e) hx rfl (fun j u hj => by rw [addr_add]; exact hr j u hj) (by rw [← eCells_one]; exact eCells_oneCell _) (by decide) (by unfold maxLen; omega) (by omega) hB w.heap.size rfl ?_
  intro k cap w' h1 h2 h3 _
  rw [show eCells l ++ eVals e = eCells (l ++ [e]) by rw [eCells_append, eCells_one], show l.length + 1 = (l ++ [e]).length by simp] at h1
  have := h k cap w' h1 h2 h3
  rw [show (l ++ [e]).length = l.length + 1 by simp] at this
  exact this
theorem cell_66 {w : World} {g : Nat} {c : Ch} {v : Value} (h : w.heap[g]? = some (.cells (ccells c v).toArray 87 (0, 0))) (ok : Lens c) : w.cell? ⟨g, 66, none⟩ = some v := by
  unfold ccells at h
  rw [← List.append_assoc] at h
  exact cell_mid h 66 (by simp [lnkC_length, ok.lb, ok.lan])
theorem added_row {w w' : World} {B g k cap : Nat} {v : Value} {c : Ch} {e : Ev} (h : ChAt w B g v c) (ok : Lens c) (hown : w'.ownsRow B 55 4 (.slice (some ⟨k, 0, none⟩) (c.ev ++ [e]).length cap) (c.ev ++ [e]).length (eCells (c.ev ++ [e]))) (hg : w.grownBy w' v.ownBlock) (hk : v.ownBlock = some k ∨ k = w.heap.size)
    (ho : w'.heap[g]? = some (.cells (ccells c v).toArray 87 (0, 0))) :
    ChAt (w'.setCell ⟨g, 66, none⟩ (.slice (some ⟨k, 0, none⟩) (c.ev ++ [e]).length cap)) B g (.slice (some ⟨k, 0, none⟩) (c.ev ++ [e]).length cap) { c with ev := c.ev ++ [e] } ∧ Out (CBlk g v) w (w'.setCell ⟨g, 66, none⟩ (.slice (some ⟨k, 0, none⟩) (c.ev ++ [e]).length cap)) := by
  have hkg : k ≠ g := by
    rcases hk with hk | hk
    · exact h.ne k hk
    · have := h.lt; omega
  refine ⟨⟨?_, ⟨hown.1, ?_⟩, h.bg⟩, (Out.of_grown hg (fun j hj => .inr hj)).setCell _ _ (.inl rfl)⟩
  · rw [heap_setCell_same w' g 66 _ _ _ ho, ccells_set66 ok]
    rfl
  · rcases hown.2 with h0 | ⟨j, cap', cur, hv, hb, hj, r⟩
    · exact .inl h0
    · refine .inr ⟨j, cap', cur, hv, hb, (heap_setCell_other _ _ _ _ (fun x => ?_)).trans hj, r⟩
      cases hv
      exact hkg x
noncomputable def codeAdd (n : Nat) : Code := ((Tryd.f20.body.bind (regionAt n)).getD .skip)
set_option maxHeartbeats 2000000 in
theorem add_region5 {V0 W5 : World} {B g E : Nat} {a0 : Option Addr} {n0 c0 : Nat} {c : Ch} {e : Ev} {A : Act} (sz : A.tmps.size = 53) (e0 : A.eval (.tmp 0) = .pointer (some ⟨g, 0, none⟩)) (e11 : A.eval (.tmp 11) = .pointer (some ⟨E, 0, none⟩))
    (hV0 : V0 = W5.drew) (H0 : ChAt V0 B g (.slice a0 n0 c0) c) (lens : Lens c) (hs0 : V0.heap[E]? = some (.cells (eVals e).toArray 55 (0, 0))) (hfew : c.ev.length ≤ 1000) (hB : B ≤ V0.heap.size) (hneE : (Value.slice a0 n0 c0).ownBlock ≠ some E) :
    (codeAdd 5).wp Tryd.prog (fun x a V => x = .normal ∧ ∃ k cap, a = ((((((((((A.put (some 28) (.pointer (some ⟨g, 0, none⟩))).put (some 29) (.pointer (some ⟨g, 0, none⟩))).put (some 30) (.pointer (some ⟨g, 0, none⟩))).put (some 31) (.pointer (some ⟨g, 66, none⟩))).put (some 33) (.agg (eVals e).toArray)).put (some 32) (.slice a0 n0 c0)).put (some 34) (.slice (some ⟨V0.heap.size, 0, none⟩) 1 1)).put (some 35) (.slice (some ⟨k, 0, none⟩) (c.ev ++ [e]).length cap)).put (some 36) (.pointer (some ⟨g, 0, none⟩))).put (some 37) (.pointer (some ⟨g, 66, none⟩))) ∧
      ChAt V B g (.slice (some ⟨k, 0, none⟩) (c.ev ++ [e]).length cap) { c with ev := c.ev ++ [e] } ∧ V.heap[E]? = some (.cells (eVals e).toArray 55 (0, 0)) ∧ Out (CBlk g (.slice a0 n0 c0)) V0 V ∧ ((Value.slice a0 n0 c0).ownBlock = some k ∨ V0.heap.size ≤ k)) A W5 := by
  have hm : Tryd.prog.follows .mixedOrders = true := by kernel_rfl
  have hEg : E ≠ g := fun x => by
    rw [x, H0.obj] at hs0
    injection hs0 with hs0
    injection hs0 with _ hs0
    exact absurd hs0 (by decide)
  have hA : A = A := rfl
  unfold codeAdd
  conv => arg 2; whnf
  refine wp_region_held (S := fun V => V.heap[E]? = some (.cells (eVals e).toArray 55 (0, 0))) hm ?_
  rw [show ({ W5 with drawn := W5.drawn + 1 } : World) = V0 from hV0.symm]
  have b01 : Below V0.heap.size V0 (V0.alloc (.cells (eVals e).toArray 55)) := (Below.refl _ V0).alloc (Nat.le_refl _) _
  have H1 := H0.below b01
  have hs1 := (b01.block E (heap_lt hs0)).trans hs0
  have hB1 : B ≤ (V0.alloc (.cells (eVals e).toArray 55)).heap.size := Nat.le_trans hB b01.size
  refine tkH (i := 0) (d := 28) (v := .pointer (some ⟨g, 0, none⟩)) rfl rfl (yields_move (by simp [Region.wanted]) (.tmp 0) rfl _ e0) hs0 ?_
  refine tkH (i := 1) (d := 29) (v := .pointer (some ⟨g, 0, none⟩)) rfl rfl (yields_move (by simp [Region.wanted]) (.tmp 0) rfl _ (evn e0)) hs0 ?_
  refine tkH (i := 2) (d := 30) (v := .pointer (some ⟨g, 0, none⟩)) rfl rfl (y_nil (by simp [Region.wanted]) (.tmp 29) rfl _ (ev_eq _ _ (by simp [put_sz, sz]))) hs0 ?_
  refine tkH (i := 3) (d := 31) (v := .pointer (some ⟨g, 66, none⟩)) rfl rfl (y_chain2 (by simp [Region.wanted]) (.tmp 30) rfl g (ev_eq _ _ (by simp [put_sz, sz]))) hs0 ?_
  refine tkH (i := 5) (d := 33) (v := .agg (eVals e).toArray) rfl rfl (y_loadE (by simp [Region.wanted]) (.tmp 11) rfl E 0 e (evn (evn (evn (evn e11)))) (fun V hV => range_mid (A := []) (C := []) hV 0 rfl)) hs0 ?_
  refine wpAnyH_all (rs := [4, 6]) (by kernel_rfl) (by simp) fun i1 hm1 => ?_
  have hn1 : i1 = 4 ∨ i1 = 6 := by simpa using hm1
  clear hm1
  rcases hn1 with rfl | rfl
  · refine YieldsIf.wpOp rfl (y_loadV (S := fun V => V.cell? ⟨g, 66, none⟩ = some (.slice a0 n0 c0)) (by simp [Region.wanted]) (.tmp 31) rfl g 66 a0 n0 c0 (evn (ev_eq _ _ (by simp [put_sz, sz]))) (fun V hV => hV)) (H0.c66 lens) ⟨hs0, ?_⟩
    show wpAnyH _ _ _ _ _ _ _ ((((((A.put (some 28) (.pointer (some ⟨g, 0, none⟩))).put (some 29) (.pointer (some ⟨g, 0, none⟩))).put (some 30) (.pointer (some ⟨g, 0, none⟩))).put (some 31) (.pointer (some ⟨g, 66, none⟩))).put (some 33) (.agg (eVals e).toArray)).put (some 32) (.slice a0 n0 c0)) _
    refine wpAnyH_all (rs := [6]) (by kernel_rfl) (by simp) fun i2 hm2 => ?_
    obtain rfl : i2 = 6 := by simpa using hm2
    refine wpOp_own rfl rfl fun K2 hK2 => ?_
    refine wp_buildE (.tmp 33) rfl e (evn (ev_eq _ _ (by simp [put_sz, sz]))) ?_
    refine hK2 _ _ ⟨hs1, ?_⟩
    clear hK2 K2 hm2
    show wpAnyH _ _ _ _ _ _ _ (((((((A.put (some 28) (.pointer (some ⟨g, 0, none⟩))).put (some 29) (.pointer (some ⟨g, 0, none⟩))).put (some 30) (.pointer (some ⟨g, 0, none⟩))).put (some 31) (.pointer (some ⟨g, 66, none⟩))).put (some 33) (.agg (eVals e).toArray)).put (some 32) (.slice a0 n0 c0)).put (some 34) (.slice (some ⟨V0.heap.size, 0, none⟩) 1 1)) _
    obtain ⟨A3, hA3⟩ : ∃ A3, A3 = (((((((A.put (some 28) (.pointer (some ⟨g, 0, none⟩))).put (some 29) (.pointer (some ⟨g, 0, none⟩))).put (some 30) (.pointer (some ⟨g, 0, none⟩))).put (some 31) (.pointer (some ⟨g, 66, none⟩))).put (some 33) (.agg (eVals e).toArray)).put (some 32) (.slice a0 n0 c0)).put (some 34) (.slice (some ⟨V0.heap.size, 0, none⟩) 1 1)) := ⟨_, rfl⟩
    have szA3 : A3.tmps.size = 53 := by rw [hA3]; simp [put_sz, sz]
    have eA328 : A3.eval (.tmp 28) = .pointer (some ⟨g, 0, none⟩) := by rw [hA3]; exact (evn (evn (evn (evn (evn (evn (ev_eq _ _ (by simp [sz]))))))))
    have eA332 : A3.eval (.tmp 32) = .slice a0 n0 c0 := by rw [hA3]; exact (evn (ev_eq _ _ (by simp [put_sz, sz])))
    have eA334 : A3.eval (.tmp 34) = .slice (some ⟨V0.heap.size, 0, none⟩) 1 1 := by rw [hA3]; exact (ev_eq _ _ (by simp [put_sz, sz]))
    rw [← hA3]
    refine wpAnyH_all (rs := [7]) (by kernel_rfl) (by simp) fun i3 hm3 => ?_
    obtain rfl : i3 = 7 := by simpa using hm3
    refine wpOp_own rfl rfl fun K3 hK3 => ?_
    refine wp_appE _ (.tmp 32) (.tmp 34) rfl B (.slice a0 n0 c0) c.ev eA332 H1.row e V0.heap.size eA334 (range_new V0 e) hfew hB1 ?_
    intro k cap V2 hown hgrow hk
    have hs2 : V2.heap[E]? = some (.cells (eVals e).toArray 55 (0, 0)) := (hgrow.block E (heap_lt hs1) (fun x => hneE x.symm)).trans hs1
    have o2 : V2.heap[g]? = some (.cells (ccells c (.slice a0 n0 c0)).toArray 87 (0, 0)) := (hgrow.block g H1.lt (fun x => H1.ne g x.symm rfl)).trans H1.obj
    refine hK3 _ _ ⟨hs2, ?_⟩
    clear hK3 K3 hm3
    show wpAnyH _ _ _ _ _ _ _ (A3.put (some 35) (.slice (some ⟨k, 0, none⟩) (c.ev ++ [e]).length cap)) _
    refine tkH (i := 8) (d := 36) (v := .pointer (some ⟨g, 0, none⟩)) rfl rfl (y_nil (by simp [Region.wanted]) (.tmp 28) rfl _ (evn eA328)) hs2 ?_
    refine tkH (i := 9) (d := 37) (v := .pointer (some ⟨g, 66, none⟩)) rfl rfl (y_chain2 (by simp [Region.wanted]) (.tmp 36) rfl g (ev_eq _ _ (by simp [put_sz, szA3]))) hs2 ?_
    refine wpAnyH_all (rs := [10]) (by kernel_rfl) (by simp) fun i4 hm4 => ?_
    obtain rfl : i4 = 10 := by simpa using hm4
    refine wpOp_own rfl rfl fun K4 hK4 => ?_
    refine wp_storeV (.tmp 37) (.tmp 35) rfl g 66 (some ⟨k, 0, none⟩) _ cap (.slice a0 n0 c0) (ev_eq _ _ (by simp [put_sz, szA3])) (evn (evn (ev_eq _ _ (by simp [szA3])))) (cell_66 o2 lens) (frozen_of_row _ _ _ _ _ o2) ?_
    have hfin := added_row H1 lens hown hgrow hk o2
    refine hK4 _ _ ⟨(heap_setCell_other _ _ _ _ (fun x => hEg x)).trans hs2, wpAnyH_done (by kernel_rfl) ⟨rfl, k, cap, ?_, hfin.1, (heap_setCell_other _ _ _ _ (fun x => hEg x)).trans hs2, (Out.of_below (P := CBlk g (.slice a0 n0 c0)) b01).trans hfin.2 (fun _ _ x => x), hk.imp id (fun x => by rw [x]; exact b01.size)⟩ _⟩
    show (((A3.put (some 35) (.slice (some ⟨k, 0, none⟩) (c.ev ++ [e]).length cap)).put (some 36) (.pointer (some ⟨g, 0, none⟩))).put (some 37) (.pointer (some ⟨g, 66, none⟩))) = _
    rw [hA3]
  · refine wpOp_own rfl rfl fun K2 hK2 => ?_
    refine wp_buildE (.tmp 33) rfl e (ev_eq _ _ (by simp [put_sz, sz])) ?_
    refine hK2 _ _ ⟨hs1, ?_⟩
    clear hK2 K2
    show wpAnyH _ _ _ _ _ _ _ ((((((A.put (some 28) (.pointer (some ⟨g, 0, none⟩))).put (some 29) (.pointer (some ⟨g, 0, none⟩))).put (some 30) (.pointer (some ⟨g, 0, none⟩))).put (some 31) (.pointer (some ⟨g, 66, none⟩))).put (some 33) (.agg (eVals e).toArray)).put (some 34) (.slice (some ⟨V0.heap.size, 0, none⟩) 1 1)) _
    refine wpAnyH_all (rs := [4]) (by kernel_rfl) (by simp) fun i3 hm3 => ?_
    obtain rfl : i3 = 4 := by simpa using hm3
    refine YieldsIf.wpOp rfl (y_loadV (S := fun V => V.cell? ⟨g, 66, none⟩ = some (.slice a0 n0 c0)) (by simp [Region.wanted]) (.tmp 31) rfl g 66 a0 n0 c0 (evn (evn (ev_eq _ _ (by simp [put_sz, sz])))) (fun V hV => hV)) (H1.c66 lens) ⟨hs1, ?_⟩
    show wpAnyH _ _ _ _ _ _ _ (((((((A.put (some 28) (.pointer (some ⟨g, 0, none⟩))).put (some 29) (.pointer (some ⟨g, 0, none⟩))).put (some 30) (.pointer (some ⟨g, 0, none⟩))).put (some 31) (.pointer (some ⟨g, 66, none⟩))).put (some 33) (.agg (eVals e).toArray)).put (some 34) (.slice (some ⟨V0.heap.size, 0, none⟩) 1 1)).put (some 32) (.slice a0 n0 c0)) _
    obtain ⟨A3, hA3⟩ : ∃ A3, A3 = (((((((A.put (some 28) (.pointer (some ⟨g, 0, none⟩))).put (some 29) (.pointer (some ⟨g, 0, none⟩))).put (some 30) (.pointer (some ⟨g, 0, none⟩))).put (some 31) (.pointer (some ⟨g, 66, none⟩))).put (some 33) (.agg (eVals e).toArray)).put (some 34) (.slice (some ⟨V0.heap.size, 0, none⟩) 1 1)).put (some 32) (.slice a0 n0 c0)) := ⟨_, rfl⟩
    have szA3 : A3.tmps.size = 53 := by rw [hA3]; simp [put_sz, sz]
    have eA328 : A3.eval (.tmp 28) = .pointer (some ⟨g, 0, none⟩) := by rw [hA3]; exact (evn (evn (evn (evn (evn (evn (ev_eq _ _ (by simp [sz]))))))))
    have eA332 : A3.eval (.tmp 32) = .slice a0 n0 c0 := by rw [hA3]; exact (ev_eq _ _ (by simp [put_sz, sz]))
    have eA334 : A3.eval (.tmp 34) = .slice (some ⟨V0.heap.size, 0, none⟩) 1 1 := by rw [hA3]; exact (evn (ev_eq _ _ (by simp [put_sz, sz])))
    rw [← hA3]
    refine wpAnyH_all (rs := [7]) (by kernel_rfl) (by simp) fun i4 hm4 => ?_
    obtain rfl : i4 = 7 := by simpa using hm4
    refine wpOp_own rfl rfl fun K4 hK4 => ?_
    refine wp_appE _ (.tmp 32) (.tmp 34) rfl B (.slice a0 n0 c0) c.ev eA332 H1.row e V0.heap.size eA334 (range_new V0 e) hfew hB1 ?_
    intro k cap V2 hown hgrow hk
    have hs2 : V2.heap[E]? = some (.cells (eVals e).toArray 55 (0, 0)) := (hgrow.block E (heap_lt hs1) (fun x => hneE x.symm)).trans hs1
    have o2 : V2.heap[g]? = some (.cells (ccells c (.slice a0 n0 c0)).toArray 87 (0, 0)) := (hgrow.block g H1.lt (fun x => H1.ne g x.symm rfl)).trans H1.obj
    refine hK4 _ _ ⟨hs2, ?_⟩
    clear hK4 K4 hm4
    show wpAnyH _ _ _ _ _ _ _ (A3.put (some 35) (.slice (some ⟨k, 0, none⟩) (c.ev ++ [e]).length cap)) _
    refine tkH (i := 8) (d := 36) (v := .pointer (some ⟨g, 0, none⟩)) rfl rfl (y_nil (by simp [Region.wanted]) (.tmp 28) rfl _ (evn eA328)) hs2 ?_
    refine tkH (i := 9) (d := 37) (v := .pointer (some ⟨g, 66, none⟩)) rfl rfl (y_chain2 (by simp [Region.wanted]) (.tmp 36) rfl g (ev_eq _ _ (by simp [put_sz, szA3]))) hs2 ?_
    refine wpAnyH_all (rs := [10]) (by kernel_rfl) (by simp) fun i5 hm5 => ?_
    obtain rfl : i5 = 10 := by simpa using hm5
    refine wpOp_own rfl rfl fun K5 hK5 => ?_
    refine wp_storeV (.tmp 37) (.tmp 35) rfl g 66 (some ⟨k, 0, none⟩) _ cap (.slice a0 n0 c0) (ev_eq _ _ (by simp [put_sz, szA3])) (evn (evn (ev_eq _ _ (by simp [szA3])))) (cell_66 o2 lens) (frozen_of_row _ _ _ _ _ o2) ?_
    have hfin := added_row H1 lens hown hgrow hk o2
    refine hK5 _ _ ⟨(heap_setCell_other _ _ _ _ (fun x => hEg x)).trans hs2, wpAnyH_done (by kernel_rfl) ⟨rfl, k, cap, ?_, hfin.1, (heap_setCell_other _ _ _ _ (fun x => hEg x)).trans hs2, (Out.of_below (P := CBlk g (.slice a0 n0 c0)) b01).trans hfin.2 (fun _ _ x => x), hk.imp id (fun x => by rw [x]; exact b01.size)⟩ _⟩
    show (((A3.put (some 35) (.slice (some ⟨k, 0, none⟩) (c.ev ++ [e]).length cap)).put (some 36) (.pointer (some ⟨g, 0, none⟩))).put (some 37) (.pointer (some ⟨g, 66, none⟩))) = _
    rw [hA3, put_swap (d := 34) (e := 32) _ (by decide)]
end Go.Proofs.YthfmpebgmojcaaaDoor
/- Add's hash: the region of 'c.head = hash.Chain(c.head, bytesOf(event))', over a frame that is a letter. -/
namespace Go.Proofs.YthfmpebgmojcaaaDoor
open Go.RowKit
set_option linter.unusedVariables false
set_option maxRecDepth 20000
theorem hf_bytesOf : ∀ (args : Array Value) (w : World), (callFunc 61 args).run Tryd.prog w = .ok (.enter 61 args) w := fun args w => by simp [go_sem]
theorem hf_chain : ∀ (args : Array Value) (w : World), (callFunc 60 args).run Tryd.prog w = .ok (.enter 60 args) w := fun args w => by simp [go_sem]
set_option maxHeartbeats 2000000 in
theorem add_region6 {V0 W5 : World} {B g E : Nat} {v : Value} {c : Ch} {e : Ev} {A : Act} (sz : A.tmps.size = 53) (e0 : A.eval (.tmp 0) = .pointer (some ⟨g, 0, none⟩)) (e11 : A.eval (.tmp 11) = .pointer (some ⟨E, 0, none⟩))
    (hV0 : V0 = W5.drew) (H0 : ChAt V0 B g v c) (lens : Lens c) (hs0 : V0.heap[E]? = some (.cells (eVals e).toArray 55 (0, 0))) (hn : e.num ≤ 4611686018427387904) (ht : e.tim ≤ 4611686018427387904) (h12 : e.what.size ≤ 12) (h30 : e.who.size ≤ 30) (hT : TabAt V0) (hK : KAt V0) :
    (codeAdd 6).wp Tryd.prog (fun x a V => x = .normal ∧ ∃ aC cC, a = ((((((((((A.put (some 38) (.pointer (some ⟨g, 0, none⟩))).put (some 39) (.pointer (some ⟨g, 0, none⟩))).put (some 40) (.pointer (some ⟨g, 0, none⟩))).put (some 41) (.pointer (some ⟨g, 67, none⟩))).put (some 43) (.agg (eVals e).toArray)).put (some 42) (.agg (bvs c.hd))).put (some 44) (.slice aC (evB e).length cC)).put (some 45) (.agg (bvs (nextH c.hd e)))).put (some 46) (.pointer (some ⟨g, 0, none⟩))).put (some 47) (.pointer (some ⟨g, 67, none⟩))) ∧
      ChAt V B g v { c with hd := nextH c.hd e } ∧ V.heap[E]? = some (.cells (eVals e).toArray 55 (0, 0)) ∧ Out (fun k => k = g) V0 V) A W5 := by
  have hm : Tryd.prog.follows .mixedOrders = true := by kernel_rfl
  have hEg : E ≠ g := fun x => by
    rw [x, H0.obj] at hs0
    injection hs0 with hs0
    injection hs0 with _ hs0
    exact absurd hs0 (by decide)
  unfold codeAdd
  conv => arg 2; whnf
  refine wp_region_held (S := fun V => V.heap[E]? = some (.cells (eVals e).toArray 55 (0, 0))) hm ?_
  rw [show ({ W5 with drawn := W5.drawn + 1 } : World) = V0 from hV0.symm]
  refine tkH (i := 0) (d := 38) (v := .pointer (some ⟨g, 0, none⟩)) rfl rfl (yields_move (by simp [Region.wanted]) (.tmp 0) rfl _ e0) hs0 ?_
  refine tkH (i := 1) (d := 39) (v := .pointer (some ⟨g, 0, none⟩)) rfl rfl (yields_move (by simp [Region.wanted]) (.tmp 0) rfl _ (evn e0)) hs0 ?_
  refine tkH (i := 2) (d := 40) (v := .pointer (some ⟨g, 0, none⟩)) rfl rfl (y_nil (by simp [Region.wanted]) (.tmp 39) rfl _ (ev_eq _ _ (by simp [put_sz, sz]))) hs0 ?_
  refine tkH (i := 3) (d := 41) (v := .pointer (some ⟨g, 67, none⟩)) rfl rfl (y_chain3 (by simp [Region.wanted]) (.tmp 40) rfl g (ev_eq _ _ (by simp [put_sz, sz]))) hs0 ?_
  refine tkH (i := 5) (d := 43) (v := .agg (eVals e).toArray) rfl rfl (y_loadE (by simp [Region.wanted]) (.tmp 11) rfl E 0 e (evn (evn (evn (evn e11)))) (fun V hV => range_mid (A := []) (C := []) hV 0 rfl)) hs0 ?_
  refine wpAnyH_all (rs := [4, 6]) (by kernel_rfl) (by simp) fun i1 hm1 => ?_
  have hn1 : i1 = 4 ∨ i1 = 6 := by simpa using hm1
  clear hm1
  rcases hn1 with rfl | rfl
  · refine YieldsIf.wpOp rfl (y_loadH (S := fun V => V.rangeAt g 67 (cellsOf c.hd)) (by simp [Region.wanted]) (.tmp 41) rfl g 67 c.hd lens.lh (evn (ev_eq _ _ (by simp [put_sz, sz]))) (fun V hV => hV)) (H0.rh lens) ⟨hs0, ?_⟩
    show wpAnyH _ _ _ _ _ _ _ ((((((A.put (some 38) (.pointer (some ⟨g, 0, none⟩))).put (some 39) (.pointer (some ⟨g, 0, none⟩))).put (some 40) (.pointer (some ⟨g, 0, none⟩))).put (some 41) (.pointer (some ⟨g, 67, none⟩))).put (some 43) (.agg (eVals e).toArray)).put (some 42) (.agg (bvs c.hd))) _
    refine wpAnyH_all (rs := [6]) (by kernel_rfl) (by simp) fun i2 hm2 => ?_
    obtain rfl : i2 = 6 := by simpa using hm2
    refine wpOp_own rfl rfl fun K2 hK2 => ?_
    refine wp_calls1 61 hf_bytesOf (.tmp 43) _ rfl (.agg (eVals e).toArray) (evn (ev_eq _ _ (by simp [put_sz, sz]))) ?_
    refine (bytesOf_any V0 e hn ht h12 h30 hT).mono ?_
    rintro _ V1 ⟨aC, cC, rfl, hby, hb1, hcC⟩
    have hs1 := (hb1.block E (heap_lt hs0)).trans hs0
    have H1 := H0.below hb1
    refine ⟨_, rfl, hK2 _ _ ⟨hs1, ?_⟩⟩
    clear hK2 K2 hm2
    show wpAnyH _ _ _ _ _ _ _ (((((((A.put (some 38) (.pointer (some ⟨g, 0, none⟩))).put (some 39) (.pointer (some ⟨g, 0, none⟩))).put (some 40) (.pointer (some ⟨g, 0, none⟩))).put (some 41) (.pointer (some ⟨g, 67, none⟩))).put (some 43) (.agg (eVals e).toArray)).put (some 42) (.agg (bvs c.hd))).put (some 44) (.slice aC (evB e).length cC)) _
    obtain ⟨A3, hA3⟩ : ∃ A3, A3 = (((((((A.put (some 38) (.pointer (some ⟨g, 0, none⟩))).put (some 39) (.pointer (some ⟨g, 0, none⟩))).put (some 40) (.pointer (some ⟨g, 0, none⟩))).put (some 41) (.pointer (some ⟨g, 67, none⟩))).put (some 43) (.agg (eVals e).toArray)).put (some 42) (.agg (bvs c.hd))).put (some 44) (.slice aC (evB e).length cC)) := ⟨_, rfl⟩
    have szA3 : A3.tmps.size = 53 := by rw [hA3]; simp [put_sz, sz]
    have eA338 : A3.eval (.tmp 38) = .pointer (some ⟨g, 0, none⟩) := by rw [hA3]; exact (evn (evn (evn (evn (evn (evn (ev_eq _ _ (by simp [sz]))))))))
    have eA342 : A3.eval (.tmp 42) = .agg (bvs c.hd) := by rw [hA3]; exact (evn (ev_eq _ _ (by simp [put_sz, sz])))
    have eA344 : A3.eval (.tmp 44) = .slice aC (evB e).length cC := by rw [hA3]; exact (ev_eq _ _ (by simp [put_sz, sz]))
    rw [← hA3]
    refine wpAnyH_all (rs := [7]) (by kernel_rfl) (by simp) fun i3 hm3 => ?_
    obtain rfl : i3 = 7 := by simpa using hm3
    refine wpOp_own rfl rfl fun K3 hK3 => ?_
    refine wp_calls2 60 hf_chain (.tmp 42) (.tmp 44) _ rfl (.agg (bvs c.hd)) (.slice aC (evB e).length cC) eA342 eA344 ?_
    refine (chain_any (w := V1) (h := c.hd) (H := bvs c.hd) ⟨rfl, lens.lh⟩ (evB e) aC (evB e).length cC rfl hby (by have := evB_bound e; omega) hcC (hK.below hb1)).mono ?_
    rintro _ V2 ⟨O, rfl, hO, hb2⟩
    obtain rfl : O = bvs (nextH c.hd e) := hO.out.eq
    have hs2 := (hb2.block E (heap_lt hs1)).trans hs1
    have H2 := H1.below hb2
    refine ⟨_, rfl, hK3 _ _ ⟨hs2, ?_⟩⟩
    clear hK3 K3 hm3
    show wpAnyH _ _ _ _ _ _ _ (A3.put (some 45) (.agg (bvs (nextH c.hd e)))) _
    refine tkH (i := 8) (d := 46) (v := .pointer (some ⟨g, 0, none⟩)) rfl rfl (y_nil (by simp [Region.wanted]) (.tmp 38) rfl _ (evn eA338)) hs2 ?_
    refine tkH (i := 9) (d := 47) (v := .pointer (some ⟨g, 67, none⟩)) rfl rfl (y_chain3 (by simp [Region.wanted]) (.tmp 46) rfl g (ev_eq _ _ (by simp [put_sz, szA3]))) hs2 ?_
    refine wpAnyH_all (rs := [10]) (by kernel_rfl) (by simp) fun i4 hm4 => ?_
    obtain rfl : i4 = 10 := by simpa using hm4
    refine wpOp_own rfl rfl fun K4 hK4 => ?_
    refine wp_store_mid 69 (.tmp 47) (.tmp 45) rfl g 67 (bvs (nextH c.hd e)) (ev_eq _ _ (by simp [put_sz, szA3])) (evn (evn (ev_eq _ _ (by simp [szA3])))) (by rw [bvs_size, nextH_length]; exact H2.there lens 67 32 (by omega)) (by rw [bvs_size, nextH_length]; exact size_hash) (bvs_one _) ?_
    rw [show (bvs (nextH c.hd e)).toList = cellsOf (nextH c.hd e) from rfl]
    have hs3 : (V2.setCells g 67 (cellsOf (nextH c.hd e))).heap[E]? = some (.cells (eVals e).toArray 55 (0, 0)) := (other_setCells g E hEg _ _ _).trans hs2
    refine hK4 _ _ ⟨hs3, wpAnyH_done (by kernel_rfl) ⟨rfl, aC, cC, ?_, H2.setHd lens _ (nextH_length _ _), hs3, Out.setCells (P := fun x => x = g) g rfl _ _ _ ((Out.of_below (P := fun x => x = g) hb1).on hb2)⟩ _⟩
    show (((A3.put (some 45) (.agg (bvs (nextH c.hd e)))).put (some 46) (.pointer (some ⟨g, 0, none⟩))).put (some 47) (.pointer (some ⟨g, 67, none⟩))) = _
    rw [hA3]
  · refine wpOp_own rfl rfl fun K2 hK2 => ?_
    refine wp_calls1 61 hf_bytesOf (.tmp 43) _ rfl (.agg (eVals e).toArray) (ev_eq _ _ (by simp [put_sz, sz])) ?_
    refine (bytesOf_any V0 e hn ht h12 h30 hT).mono ?_
    rintro _ V1 ⟨aC, cC, rfl, hby, hb1, hcC⟩
    have hs1 := (hb1.block E (heap_lt hs0)).trans hs0
    have H1 := H0.below hb1
    refine ⟨_, rfl, hK2 _ _ ⟨hs1, ?_⟩⟩
    clear hK2 K2
    show wpAnyH _ _ _ _ _ _ _ ((((((A.put (some 38) (.pointer (some ⟨g, 0, none⟩))).put (some 39) (.pointer (some ⟨g, 0, none⟩))).put (some 40) (.pointer (some ⟨g, 0, none⟩))).put (some 41) (.pointer (some ⟨g, 67, none⟩))).put (some 43) (.agg (eVals e).toArray)).put (some 44) (.slice aC (evB e).length cC)) _
    refine wpAnyH_all (rs := [4]) (by kernel_rfl) (by simp) fun i3 hm3 => ?_
    obtain rfl : i3 = 4 := by simpa using hm3
    refine YieldsIf.wpOp rfl (y_loadH (S := fun V => V.rangeAt g 67 (cellsOf c.hd)) (by simp [Region.wanted]) (.tmp 41) rfl g 67 c.hd lens.lh (evn (evn (ev_eq _ _ (by simp [put_sz, sz])))) (fun V hV => hV)) (H1.rh lens) ⟨hs1, ?_⟩
    show wpAnyH _ _ _ _ _ _ _ (((((((A.put (some 38) (.pointer (some ⟨g, 0, none⟩))).put (some 39) (.pointer (some ⟨g, 0, none⟩))).put (some 40) (.pointer (some ⟨g, 0, none⟩))).put (some 41) (.pointer (some ⟨g, 67, none⟩))).put (some 43) (.agg (eVals e).toArray)).put (some 44) (.slice aC (evB e).length cC)).put (some 42) (.agg (bvs c.hd))) _
    obtain ⟨A3, hA3⟩ : ∃ A3, A3 = (((((((A.put (some 38) (.pointer (some ⟨g, 0, none⟩))).put (some 39) (.pointer (some ⟨g, 0, none⟩))).put (some 40) (.pointer (some ⟨g, 0, none⟩))).put (some 41) (.pointer (some ⟨g, 67, none⟩))).put (some 43) (.agg (eVals e).toArray)).put (some 44) (.slice aC (evB e).length cC)).put (some 42) (.agg (bvs c.hd))) := ⟨_, rfl⟩
    have szA3 : A3.tmps.size = 53 := by rw [hA3]; simp [put_sz, sz]
    have eA338 : A3.eval (.tmp 38) = .pointer (some ⟨g, 0, none⟩) := by rw [hA3]; exact (evn (evn (evn (evn (evn (evn (ev_eq _ _ (by simp [sz]))))))))
    have eA342 : A3.eval (.tmp 42) = .agg (bvs c.hd) := by rw [hA3]; exact (ev_eq _ _ (by simp [put_sz, sz]))
    have eA344 : A3.eval (.tmp 44) = .slice aC (evB e).length cC := by rw [hA3]; exact (evn (ev_eq _ _ (by simp [put_sz, sz])))
    rw [← hA3]
    refine wpAnyH_all (rs := [7]) (by kernel_rfl) (by simp) fun i4 hm4 => ?_
    obtain rfl : i4 = 7 := by simpa using hm4
    refine wpOp_own rfl rfl fun K4 hK4 => ?_
    refine wp_calls2 60 hf_chain (.tmp 42) (.tmp 44) _ rfl (.agg (bvs c.hd)) (.slice aC (evB e).length cC) eA342 eA344 ?_
    refine (chain_any (w := V1) (h := c.hd) (H := bvs c.hd) ⟨rfl, lens.lh⟩ (evB e) aC (evB e).length cC rfl hby (by have := evB_bound e; omega) hcC (hK.below hb1)).mono ?_
    rintro _ V2 ⟨O, rfl, hO, hb2⟩
    obtain rfl : O = bvs (nextH c.hd e) := hO.out.eq
    have hs2 := (hb2.block E (heap_lt hs1)).trans hs1
    have H2 := H1.below hb2
    refine ⟨_, rfl, hK4 _ _ ⟨hs2, ?_⟩⟩
    clear hK4 K4 hm4
    show wpAnyH _ _ _ _ _ _ _ (A3.put (some 45) (.agg (bvs (nextH c.hd e)))) _
    refine tkH (i := 8) (d := 46) (v := .pointer (some ⟨g, 0, none⟩)) rfl rfl (y_nil (by simp [Region.wanted]) (.tmp 38) rfl _ (evn eA338)) hs2 ?_
    refine tkH (i := 9) (d := 47) (v := .pointer (some ⟨g, 67, none⟩)) rfl rfl (y_chain3 (by simp [Region.wanted]) (.tmp 46) rfl g (ev_eq _ _ (by simp [put_sz, szA3]))) hs2 ?_
    refine wpAnyH_all (rs := [10]) (by kernel_rfl) (by simp) fun i5 hm5 => ?_
    obtain rfl : i5 = 10 := by simpa using hm5
    refine wpOp_own rfl rfl fun K5 hK5 => ?_
    refine wp_store_mid 69 (.tmp 47) (.tmp 45) rfl g 67 (bvs (nextH c.hd e)) (ev_eq _ _ (by simp [put_sz, szA3])) (evn (evn (ev_eq _ _ (by simp [szA3])))) (by rw [bvs_size, nextH_length]; exact H2.there lens 67 32 (by omega)) (by rw [bvs_size, nextH_length]; exact size_hash) (bvs_one _) ?_
    rw [show (bvs (nextH c.hd e)).toList = cellsOf (nextH c.hd e) from rfl]
    have hs3 : (V2.setCells g 67 (cellsOf (nextH c.hd e))).heap[E]? = some (.cells (eVals e).toArray 55 (0, 0)) := (other_setCells g E hEg _ _ _).trans hs2
    refine hK5 _ _ ⟨hs3, wpAnyH_done (by kernel_rfl) ⟨rfl, aC, cC, ?_, H2.setHd lens _ (nextH_length _ _), hs3, Out.setCells (P := fun x => x = g) g rfl _ _ _ ((Out.of_below (P := fun x => x = g) hb1).on hb2)⟩ _⟩
    show (((A3.put (some 45) (.agg (bvs (nextH c.hd e)))).put (some 46) (.pointer (some ⟨g, 0, none⟩))).put (some 47) (.pointer (some ⟨g, 67, none⟩))) = _
    rw [hA3, put_swap (d := 44) (e := 42) _ (by decide)]
end Go.Proofs.YthfmpebgmojcaaaDoor
/- audit.Add by a contract. -/
namespace Go.Proofs.YthfmpebgmojcaaaDoor
open Go.RowKit
set_option linter.unusedVariables false
set_option maxRecDepth 20000
def ev0 : Ev := ⟨0, 0, ⟨#[]⟩, ⟨#[]⟩⟩
def addEv (c : Ch) (t : Int) (what who : ByteArray) : Ev := if addE c t what who = 0 then newE c t what who else ev0
def addR (c : Ch) (t : Int) (what who : ByteArray) : Ch := if addE c t what who = 0 then addC c t what who else c
theorem addR_ok {c : Ch} (ok : ChOk c) (t : Int) (what who : ByteArray) : ChOk (addR c t what who) := by
  unfold addR
  split
  · rename_i h; exact addC_ok ok h
  · exact ok
theorem addR_sound {c : Ch} (ok : ChOk c) (h : Sound c) (t : Int) (what who : ByteArray) : Sound (addR c t what who) := by
  unfold addR
  split
  · exact h.add ok t what who
  · exact h
theorem addR_cnt (c : Ch) (t : Int) (what who : ByteArray) : (addR c t what who).cnt ≤ c.cnt + 1 := by
  unfold addR
  split
  · simp [addC, Ch.cnt]; omega
  · omega
def Grew (w : World) (v v' : Value) : Prop := ∀ k, v'.ownBlock = some k → v.ownBlock = some k ∨ w.heap.size ≤ k
def AddPost (w : World) (B g : Nat) (v : Value) (c : Ch) (t : Int) (what who : ByteArray) (x : Ending) (w' : World) : Prop :=
  ∃ v', x = .returned (.tuple #[.agg (eVals (addEv c t what who)).toArray, .int .i64 (addE c t what who)]) ∧ ChAt w' B g v' (addR c t what who) ∧ Out (CBlk g v) w w' ∧ Grew w v v'
theorem size_evs (e : Ev) : (Tryd.prog.info? 55).map (·.size) = some (eVals e).toArray.size := size_ev
theorem size_evl (e : Ev) : (Tryd.prog.info? 55).map (·.size) = some (eVals e).length := size_ev
theorem ev_sizes (e d : Ev) : (eVals e).toArray.size = (eVals d).toArray.size := rfl
theorem built_ev : Tryd.prog.built 55 [] = some (eVals ev0).toArray := by kernel_rfl
theorem ev_one (e : Ev) : (eVals e).toArray.all (·.oneCell') = true := all_oneCell_toArray (by rw [← eCells_one]; exact eCells_oneCell _)
set_option maxHeartbeats 4000000 in
theorem add_any {w : World} {B g : Nat} {v : Value} {c : Ch} (h : ChAt w B g v c) (ok : ChOk c) (hc : c.cnt < 1152921504606846976) (hB : B ≤ w.heap.size) (t : Int) (what who : ByteArray) (h1 : what.size ≤ 9223372036854775807) (h2 : who.size ≤ 9223372036854775807) (hT : Tabs w B) :
    Calls Tryd.prog 20 #[.pointer (some ⟨g, 0, none⟩), .int .i64 t, .string what, .string who] w (AddPost w B g v c t what who) := by
  obtain ⟨W0, hW0⟩ : ∃ W0, W0 = w.alloc (.cells (eVals ev0).toArray 55) := ⟨_, rfl⟩
  have b0 : Below w.heap.size w W0 := by rw [hW0]; exact (Below.refl _ w).alloc (Nat.le_refl _) _
  have r0 : W0.heap[w.heap.size]? = some (.cells (eVals ev0).toArray 55 (0, 0)) := by rw [hW0]; exact heap_alloc_new w _
  have H0 := h.below b0
  have HE := hid (addError_any H0 ok t what who h1 h2)
  by_cases he : addE c t what who = 0
  · have hpost : Hid (∀ x w', (∃ v', x = .returned (.tuple #[.agg (eVals (newE c t what who)).toArray, .int .i64 0]) ∧ ChAt w' B g v' (addC c t what who) ∧ Out (CBlk g v) w w' ∧ Grew w v v') → AddPost w B g v c t what who x w') := fun x w' hx => by
      unfold AddPost addEv addR
      rw [if_pos he, if_pos he, he]
      exact hx
    rw [he] at HE
    obtain ⟨t1, t2, t3, t4, t5, t6⟩ := addE_zero he
    obtain ⟨tn, rfl⟩ : ∃ tn : Nat, t = (tn : Int) := ⟨t.toNat, by omega⟩
    have HC := hid (count_any H0 ok hc)
    have en : Hid (newE c (tn : Int) what who = ⟨c.cnt + 1, tn, what, who⟩) := rfl
    obtain ⟨a0, c0, rfl⟩ := h.val
    have hne := hid h.ne
    have hlts := hid h.lts
    have H0' := hid H0
    have OK := hid ok
    have HT := hid hT
    have HB0 := hid b0
    have HW := hid hW0
    obtain ⟨m, hm⟩ : ∃ m, m = c.cnt := ⟨_, rfl⟩
    have Hm := hid hm
    rw [← hm] at HC hc
    have hblk := hid h.blk
    clear h ok hT hW0 hm h1 h2 he t1 t5 H0 b0 t6
    have r0' := hid r0
    clear r0
    refine (Calls.mono ?_ hpost.out)
    clear hpost
    go_enter Tryd.func20, Tryd.ntmps20
    go_wp2_with (first
      | (go_at_call 59; rw [show w.alloc (.cells #[.int .i64 0, .int .i64 0, .string ⟨#[]⟩, .string ⟨#[]⟩] 55) = W0 from HW.out.symm]; refine HE.out.mono ?_; rintro x w9 ⟨rfl, e9⟩; subst w9)
      | (go_at_call 23; refine HC.out.mono ?_; rintro x w1 ⟨rfl, hb1⟩))
    obtain ⟨e, hee⟩ : ∃ e, e = newE c (tn : Int) what who := ⟨_, rfl⟩
    have hev : (#[.int .i64 ((m : Int) + 1), .int .i64 (tn : Int), .string what, .string who] : Array Value) = (eVals e).toArray := by
      rw [hee, en.out, ← Hm.out]
      simp [eVals]
    have he1 : e.num = m + 1 := by rw [hee, en.out, ← Hm.out]
    have he2 : e.tim = tn := by rw [hee, en.out]
    have he3 : e.what = what := by rw [hee, en.out]
    have he4 : e.who = who := by rw [hee, en.out]
    have HEE := hid hee
    rw [hev]
    clear hee en
    obtain ⟨W5, hW5⟩ : ∃ W5, W5 = w1.alloc (.cells (eVals e).toArray 55) := ⟨_, rfl⟩
    obtain ⟨V0, hV0⟩ : ∃ V0, V0 = W5.drew := ⟨_, rfl⟩
    rw [← hW5]
    have bw1 : Below w.heap.size w w1 := HB0.out.trans (hb1.mono HB0.out.size)
    have b5 : Below w1.heap.size w1 V0 := by rw [hV0, hW5]; exact ((Below.refl _ w1).alloc (Nat.le_refl _) _).drew
    have bwV : Below w.heap.size w V0 := bw1.trans (b5.mono bw1.size)
    have H5 : ChAt V0 B g (.slice a0 c.ev.length c0) c := (H0'.out.below hb1).below b5
    have s5 : V0.heap[w1.heap.size]? = some (.cells (eVals e).toArray 55 (0, 0)) := by rw [hV0, hW5]; exact heap_alloc_new w1 _
    have r5 : V0.heap[w.heap.size]? = some (.cells (eVals ev0).toArray 55 (0, 0)) := by
      rw [b5.block _ (Nat.lt_of_lt_of_le (heap_lt r0'.out) hb1.size), hb1.block _ (heap_lt r0'.out)]
      exact r0'.out
    have hlw : w.heap.size < w1.heap.size := Nat.lt_of_lt_of_le (heap_lt r0'.out) hb1.size
    have hneE : (Value.slice a0 c.ev.length c0).ownBlock ≠ some w1.heap.size := fun x => by
      have := (hlts.out _ x).2
      omega
    have hneR : ¬ CBlk g (.slice a0 c.ev.length c0) w.heap.size := fun x => by
      rcases x with x | x
      · have := H0'.out
        have h1 := r0'.out
        rw [x, this.obj] at h1
        injection h1 with h1
        injection h1 with _ h1
        exact absurd h1 (by decide)
      · have := (hlts.out _ x).2
        omega
    refine wp_act _ fun A hA => ?_
    have sz : A.tmps.size = 53 := by rw [hA]; rfl
    have e0 : A.eval (.tmp 0) = .pointer (some ⟨g, 0, none⟩) := by rw [hA]; rfl
    have e11 : A.eval (.tmp 11) = .pointer (some ⟨w1.heap.size, 0, none⟩) := by rw [hA]; rfl
    refine wp_split _ (add_region5 sz e0 e11 hV0 H5 OK.out.l s5 (by have := OK.out.few; omega) (Nat.le_trans hB bwV.size) hneE) ?_
    rintro _ V6 ⟨k, cap, rfl, H6, s6, o6, hk6⟩
    have r6 := (o6.block w.heap.size (heap_lt r5) hneR).trans r5
    have bB6 : Below B w V6 := (bwV.mono hB).trans (o6.below (Nat.le_trans hB bwV.size) hblk.out)
    rw [hA]
    simp only [Act.put, List.setIfInBounds_toArray, List.set_cons_succ, List.set_cons_zero]
    clear sz e0 e11 hA A H5 s5 r5
    have H6' := hid H6
    have s6' := hid s6
    have r6' := hid r6
    have o6' := hid o6
    have hk6' := hid hk6
    have bB6' := hid bB6
    have b5' := hid b5
    clear H6 s6 r6 o6 hk6 bB6 b5 hV0 hW5 hb1
    go_wp2_with fail
    obtain ⟨V7, hV7⟩ : ∃ V7, V7 = V6.drew := ⟨_, rfl⟩
    have b67 : Below V6.heap.size V6 V7 := by rw [hV7]; exact (Below.refl _ V6).drew
    have lens6 : Lens { c with ev := c.ev ++ [e] } := ⟨OK.out.lb, OK.out.lan, OK.out.lh⟩
    have hB6 : B ≤ V6.heap.size := Nat.le_trans hB bB6'.out.size
    have T7 : Tabs V7 B := (HT.out.keep bB6'.out).below hB6 b67
    refine wp_act _ fun A hA => ?_
    have sz : A.tmps.size = 53 := by rw [hA]; rfl
    have e0 : A.eval (.tmp 0) = .pointer (some ⟨g, 0, none⟩) := by rw [hA]; rfl
    have e11 : A.eval (.tmp 11) = .pointer (some ⟨w1.heap.size, 0, none⟩) := by rw [hA]; rfl
    refine wp_split _ (add_region6 sz e0 e11 hV7 (H6'.out.below b67) lens6 ((b67.block _ (heap_lt s6'.out)).trans s6'.out) (by rw [he1]; omega) (by rw [he2]; omega) (by rw [he3]; exact t3) (by rw [he4]; exact t4) T7.tab T7.kat) ?_
    rintro _ V8 ⟨aC, cC, rfl, H8, s8, o8⟩
    rw [hA]
    simp only [Act.put, List.setIfInBounds_toArray, List.set_cons_succ, List.set_cons_zero]
    clear sz e0 e11 hA A
    have hgw : g ≠ w.heap.size := fun x => hneR (.inl x.symm)
    have r8 : V8.heap[w.heap.size]? = some (.cells (eVals ev0).toArray 55 (0, 0)) := by
      rw [o8.block _ (Nat.lt_of_lt_of_le (heap_lt r6'.out) b67.size) (fun x => hgw x.symm), b67.block _ (heap_lt r6'.out)]
      exact r6'.out
    have lens8 : Lens { c with ev := c.ev ++ [e], hd := nextH c.hd e } := ⟨OK.out.lb, OK.out.lan, nextH_length _ _⟩
    have c99 := H8.c99 lens8
    have f99 := H8.fz 99
    have H9 := H8.setLa lens8 tn
    have oW : Out (CBlk g (.slice a0 c.ev.length c0)) w V8 := ((Out.of_below bwV).trans o6'.out (fun _ _ x => x)).trans ((Out.of_below (P := fun j => j = g) b67).trans o8 (fun _ _ x => x)) (fun _ _ x => .inl x)
    have oW9 := oW.setCell ⟨g, 99, none⟩ (.int .i64 (tn : Int)) (.inl rfl)
    have s9 : (V8.setCell ⟨g, 99, none⟩ (.int .i64 (tn : Int))).heap[w1.heap.size]? = some (.cells (eVals e).toArray 55 (0, 0)) := (heap_setCell_other _ _ _ _ (fun x => by
      rw [show w1.heap.size = g from x] at s8
      have h1 := H8.obj
      rw [s8] at h1
      injection h1 with h1
      injection h1 with _ h1
      exact absurd h1 (by decide))).trans s8
    have r9 : (V8.setCell ⟨g, 99, none⟩ (.int .i64 (tn : Int))).heap[w.heap.size]? = some (.cells (eVals ev0).toArray 55 (0, 0)) := (heap_setCell_other _ _ _ _ (fun x => hgw x.symm)).trans r8
    have hadd : Hid (addC c (tn : Int) what who = { c with ev := c.ev ++ [e], hd := nextH c.hd e, la := tn }) := by
      show _ = _
      rw [HEE.out]
      rfl
    have hgr : Hid (Grew w (.slice a0 c.ev.length c0) (.slice (some ⟨k, 0, none⟩) (c.ev ++ [e]).length cap)) := fun j hj => by
      cases hj
      rcases hk6'.out with x | x
      · exact .inl x
      · exact .inr (Nat.le_trans bwV.size x)
    have hR9 := range_whole s9
    obtain ⟨V9, hV9⟩ : ∃ V9, V9 = V8.setCell ⟨g, 99, none⟩ (.int .i64 (tn : Int)) := ⟨_, rfl⟩
    have HV9 := hid hV9
    rw [← hV9] at H9 oW9 s9 r9 hR9
    have H9' := hid H9
    have oW9' := hid oW9
    have r9' := hid r9
    have hR9' := hid hR9
    have he1' := hid he1
    have hev' := hid hev
    have HEE' := hid he2
    clear H9 oW9 s9 r9 hR9 oW H8 s8 o8 r8 lens8 lens6 T7 b67 hV7 hV9 he1 he2 he3 he4 hev t2 hc
    go_wp2_with (first
      | (with_reducible show Go.wpList _ _ _ _ _ _; first
        | (refine wpList_load_mid rfl 55 _ rfl w1.heap.size 0 rfl (eVals e) _ ?_ Tryd.underlying55 rfl (size_evl e) ?_; exact HV9.out ▸ hR9'.out)
        | (rw [← HV9.out]; refine wpList_store_row rfl 55 _ _ rfl w.heap.size (eVals e).toArray rfl rfl 55 (eVals ev0).toArray r9'.out (size_evs e) (ev_sizes ev0 e) (ev_one e) ?_)))
    refine bodyPost_ret (results_row_tmp rfl _ _ w.heap.size 55 (eVals e).toArray (0, 0) _ rfl (setRow_heap _ _ _ _ _ _ r9'.out) Tryd.underlying55 rfl size_ev) rfl ?_
    refine ⟨by rw [HEE.out]; rfl, .slice (some ⟨k, 0, none⟩) (c.ev ++ [e]).length cap, ?_, ?_, hgr.out⟩
    · rw [hadd.out]
      exact H9'.out.keep (setRow_other _ _ _ _ hgw) (fun j hj => setRow_other _ _ _ _ (fun x => by
        have hj' : k = j := by cases hj; rfl
        subst hj'
        rcases hk6'.out with y | y
        · have := (hlts.out _ y).2; omega
        · have := bwV.size; have := hlw; have := b5'.out.size; omega))
    · exact ⟨oW9'.out.os, oW9'.out.tape, oW9'.out.output, by rw [size_setRow]; exact oW9'.out.size, fun j hj hp => (setRow_other _ _ _ _ (by omega)).trans (oW9'.out.block j hj hp)⟩
  · have hpost : Hid (∀ x w', (x = .returned (.tuple #[.agg (eVals ev0).toArray, .int .i64 (addE c t what who)]) ∧ ChAt w' B g v c ∧ Below w.heap.size w w') → AddPost w B g v c t what who x w') := fun x w' hx => by
      unfold AddPost addEv addR
      rw [if_neg he, if_neg he]
      exact ⟨v, hx.1, hx.2.1, Out.of_below hx.2.2, fun k hk => .inl hk⟩
    obtain ⟨er, her⟩ : ∃ er, er = addE c t what who := ⟨_, rfl⟩
    rw [← her] at HE hpost he
    have hne : (er == 0) = false := by rw [beq_eq_false_iff_ne]; exact he
    have H0' := hid H0
    have HB0 := hid b0
    have HW := hid hW0
    have r0' := hid r0
    have hgl := hid h.lt
    have hlt := hid h.lts
    refine (Calls.mono ?_ hpost.out)
    clear hpost h ok hT hW0 h1 h2 her H0 b0 r0
    go_enter Tryd.func20, Tryd.ntmps20
    go_wp2_with (first
      | (go_at_call 59; rw [show w.alloc (.cells #[.int .i64 0, .int .i64 0, .string ⟨#[]⟩, .string ⟨#[]⟩] 55) = W0 from HW.out.symm]; refine HE.out.mono ?_; rintro x w9 ⟨rfl, e9⟩; subst w9)
      | (with_reducible show Go.wpList _ _ _ _ _ _; first
        | refine wpList_build_none rfl 55 rfl (eVals ev0).toArray built_ev ?_
        | refine wpList_store_row rfl 55 _ _ rfl w.heap.size (eVals ev0).toArray rfl rfl 55 (eVals ev0).toArray r0'.out (size_evs ev0) (ev_sizes ev0 ev0) (ev_one ev0) ?_))
    refine bodyPost_ret (results_row_tmp rfl _ _ w.heap.size 55 (eVals ev0).toArray (0, 0) _ rfl (setRow_heap _ _ _ _ _ _ r0'.out) Tryd.underlying55 rfl size_ev) rfl ?_
    refine ⟨rfl, H0'.out.keep (setRow_other _ _ _ _ (by have := hgl.out; omega)) (fun j hj => setRow_other _ _ _ _ (by have := (hlt.out j hj).2; omega)), HB0.out.setRow (Nat.le_refl _) _⟩
end Go.Proofs.YthfmpebgmojcaaaDoor
