/- YthfmpebgmojcaaaDoorARAt + YthfmpebgmojcaaaDoorARAnc -/
import Derived.Test.YthfmpebgmojcaaaDoorTkH
import Derived.Test.YthfmpebgmojcaaaDoorARCh
/- The reference's At: the hash behind the first k events, by a contract. -/
namespace Go.Proofs.YthfmpebgmojcaaaDoor
open Go.RowKit
set_option linter.unusedVariables false
set_option maxRecDepth 20000
section
variable {ops : Array Oper} {S : World → Prop} {op : Oper} {a : Act}
theorem y_rf0 (hw : Region.wanted op (yielded ops a.tmps) = true) (x : Operand) (ho : op.op = .fieldAddr 93 x 0) (g : Nat) (hx : a.eval x = .pointer (some ⟨g, 0, none⟩)) : YieldsIf Tryd.prog ops S op (.pointer (some ⟨g, 0, none⟩)) a := by
  refine .inl ⟨hw, fun w _ => ?_⟩
  unfold execOp
  simp only [ho, hx]
  simp [go_sem]
theorem y_rf1 (hw : Region.wanted op (yielded ops a.tmps) = true) (x : Operand) (ho : op.op = .fieldAddr 93 x 1) (g : Nat) (hx : a.eval x = .pointer (some ⟨g, 0, none⟩)) : YieldsIf Tryd.prog ops S op (.pointer (some ⟨g, 1, none⟩)) a := by
  refine .inl ⟨hw, fun w _ => ?_⟩
  unfold execOp
  simp only [ho, hx]
  simp [go_sem]
theorem y_rf2 (hw : Region.wanted op (yielded ops a.tmps) = true) (x : Operand) (ho : op.op = .fieldAddr 93 x 2) (g : Nat) (hx : a.eval x = .pointer (some ⟨g, 0, none⟩)) : YieldsIf Tryd.prog ops S op (.pointer (some ⟨g, 2, none⟩)) a := by
  refine .inl ⟨hw, fun w _ => ?_⟩
  unfold execOp
  simp only [ho, hx]
  simp [go_sem]
theorem y_rf3 (hw : Region.wanted op (yielded ops a.tmps) = true) (x : Operand) (ho : op.op = .fieldAddr 93 x 3) (g : Nat) (hx : a.eval x = .pointer (some ⟨g, 0, none⟩)) : YieldsIf Tryd.prog ops S op (.pointer (some ⟨g, 3, none⟩)) a := by
  refine .inl ⟨hw, fun w _ => ?_⟩
  unfold execOp
  simp only [ho, hx]
  simp [go_sem]
theorem y_rf4 (hw : Region.wanted op (yielded ops a.tmps) = true) (x : Operand) (ho : op.op = .fieldAddr 93 x 4) (g : Nat) (hx : a.eval x = .pointer (some ⟨g, 0, none⟩)) : YieldsIf Tryd.prog ops S op (.pointer (some ⟨g, 35, none⟩)) a := by
  refine .inl ⟨hw, fun w _ => ?_⟩
  unfold execOp
  simp only [ho, hx]
  simp [go_sem]
theorem y_rf5 (hw : Region.wanted op (yielded ops a.tmps) = true) (x : Operand) (ho : op.op = .fieldAddr 93 x 5) (g : Nat) (hx : a.eval x = .pointer (some ⟨g, 0, none⟩)) : YieldsIf Tryd.prog ops S op (.pointer (some ⟨g, 67, none⟩)) a := by
  refine .inl ⟨hw, fun w _ => ?_⟩
  unfold execOp
  simp only [ho, hx]
  simp [go_sem]
theorem y_rf6 (hw : Region.wanted op (yielded ops a.tmps) = true) (x : Operand) (ho : op.op = .fieldAddr 93 x 6) (g : Nat) (hx : a.eval x = .pointer (some ⟨g, 0, none⟩)) : YieldsIf Tryd.prog ops S op (.pointer (some ⟨g, 99, none⟩)) a := by
  refine .inl ⟨hw, fun w _ => ?_⟩
  unfold execOp
  simp only [ho, hx]
  simp [go_sem]
theorem y_idxE (hw : Region.wanted op (yielded ops a.tmps) = true) (x y : Operand) (ho : op.op = .indexAddr 63 x y) (g n c k : Nat) (hx : a.eval x = .slice (some ⟨g, 0, none⟩) n c) (hy : a.eval y = .int .i64 (k : Int)) (hk : k < n) : YieldsIf Tryd.prog ops S op (.pointer (some ⟨g, k * 4, none⟩)) a := by
  refine .inl ⟨hw, fun w _ => ?_⟩
  have h1 : (k : Int) < (n : Int) := by omega
  have h0 : (0 : Int) ≤ (k : Int) := by omega
  unfold execOp
  simp only [ho, hx, hy]
  simp [go_sem, h0, h1]
end
theorem keep_S {V V' : World} {g b k n0 c0 : Nat} {e : Ev} (h : V.cell? ⟨g, 99, none⟩ = some (.slice (some ⟨b, 0, none⟩) n0 c0) ∧ V.rangeAt b (k * 4) (eVals e)) (hb : Below V.heap.size V V') (hg : g < V.heap.size) (hbl : b < V.heap.size) : V'.cell? ⟨g, 99, none⟩ = some (.slice (some ⟨b, 0, none⟩) n0 c0) ∧ V'.rangeAt b (k * 4) (eVals e) :=
  ⟨(hb.cell (p := ⟨g, 99, none⟩) hg).trans h.1, fun j u hj => (hb.cell (p := ⟨b, k * 4 + j, none⟩) hbl).trans (h.2 j u hj)⟩
theorem set_S {V : World} {g b k n0 c0 L : Nat} {e : Ev} {O : Array Value} (h : V.cell? ⟨g, 99, none⟩ = some (.slice (some ⟨b, 0, none⟩) n0 c0) ∧ V.rangeAt b (k * 4) (eVals e)) (hg : g ≠ L) (hbl : b ≠ L) : (V.setRow L O).cell? ⟨g, 99, none⟩ = some (.slice (some ⟨b, 0, none⟩) n0 c0) ∧ (V.setRow L O).rangeAt b (k * 4) (eVals e) :=
  ⟨(cell_setRow_other _ _ _ _ hg).trans h.1, fun j u hj => (cell_setRow_other _ _ _ _ hbl).trans (h.2 j u hj)⟩
theorem hf_rbytes : ∀ (args : Array Value) (w : World), (callFunc 81 args).run Tryd.prog w = .ok (.enter 81 args) w := fun args w => by simp [go_sem]
theorem hf_rchain : ∀ (args : Array Value) (w : World), (callFunc 80 args).run Tryd.prog w = .ok (.enter 80 args) w := fun args w => by simp [go_sem]
noncomputable def codeRAt (n : Nat) : Code := ((Tryd.f44.body.bind (regionAt n)).getD .skip)
set_option maxHeartbeats 2000000 in
theorem rAt_region5 {V0 W5 : World} {g b k n0 c0 L : Nat} {h : List UInt8} {e : Ev} {A : Act} (sz : A.tmps.size = 27) (e0 : A.eval (.tmp 0) = .pointer (some ⟨g, 0, none⟩)) (e5 : A.eval (.tmp 5) = .pointer (some ⟨L, 0, none⟩)) (e6 : A.eval (.tmp 6) = .int .i64 (k : Int))
    (hV0 : V0 = W5.drew) (hh : h.length = 32) (ha0 : V0.heap[L]? = some (.cells (bvs h) 69 (0, 0))) (hs0 : V0.cell? ⟨g, 99, none⟩ = some (.slice (some ⟨b, 0, none⟩) n0 c0) ∧ V0.rangeAt b (k * 4) (eVals e)) (hkn : k < n0) (hgl : g < V0.heap.size) (hbl : b < V0.heap.size) (hgL : g ≠ L) (hbL : b ≠ L)
    (hn : e.num ≤ 4611686018427387904) (ht : e.tim ≤ 4611686018427387904) (h12 : e.what.size ≤ 12) (h30 : e.who.size ≤ 30) :
    (codeRAt 5).wp Tryd.prog (fun x a V => x = .normal ∧ ∃ aC cC, a = ((((((((((A.put (some 17) (.pointer (some ⟨g, 0, none⟩))).put (some 18) (.pointer (some ⟨g, 0, none⟩))).put (some 19) (.pointer (some ⟨g, 99, none⟩))).put (some 20) (.slice (some ⟨b, 0, none⟩) n0 c0)).put (some 21) (.int .i64 (k : Int))).put (some 22) (.pointer (some ⟨b, k * 4, none⟩))).put (some 23) (.agg (eVals e).toArray)).put (some 16) (.agg (bvs h))).put (some 24) (.slice aC (evB e).length cC)).put (some 25) (.agg (bvs (nextH h e)))) ∧
      V.heap[L]? = some (.cells (bvs (nextH h e)) 69 (0, 0)) ∧ Out (fun k => k = L) V0 V) A W5 := by
  have hm : Tryd.prog.follows .mixedOrders = true := by kernel_rfl
  unfold codeRAt
  conv => arg 2; whnf
  refine wp_region_held (S := fun V => V.cell? ⟨g, 99, none⟩ = some (.slice (some ⟨b, 0, none⟩) n0 c0) ∧ V.rangeAt b (k * 4) (eVals e)) hm ?_
  rw [show ({ W5 with drawn := W5.drawn + 1 } : World) = V0 from hV0.symm]
  refine tkH (i := 1) (d := 17) (v := .pointer (some ⟨g, 0, none⟩)) rfl rfl (yields_move (by simp [Region.wanted]) (.tmp 0) rfl _ e0) hs0 ?_
  refine tkH (i := 2) (d := 18) (v := .pointer (some ⟨g, 0, none⟩)) rfl rfl (y_nil (by simp [Region.wanted]) (.tmp 17) rfl _ (ev_eq _ _ (by simp [sz]))) hs0 ?_
  refine tkH (i := 3) (d := 19) (v := .pointer (some ⟨g, 99, none⟩)) rfl rfl (y_rf6 (by simp [Region.wanted]) (.tmp 18) rfl g (ev_eq _ _ (by simp [put_sz, sz]))) hs0 ?_
  refine tkH (i := 4) (d := 20) (v := .slice (some ⟨b, 0, none⟩) n0 c0) rfl rfl (y_loadV (by simp [Region.wanted]) (.tmp 19) rfl g 99 _ _ _ (ev_eq _ _ (by simp [put_sz, sz])) (fun V hV => hV.1)) hs0 ?_
  refine tkH (i := 5) (d := 21) (v := .int .i64 (k : Int)) rfl rfl (yields_move (by simp [Region.wanted]) (.tmp 6) rfl _ (evn (evn (evn (evn e6))))) hs0 ?_
  refine tkH (i := 6) (d := 22) (v := .pointer (some ⟨b, k * 4, none⟩)) rfl rfl (y_idxE (by simp [Region.wanted]) (.tmp 20) (.tmp 21) rfl b n0 c0 k (evn (ev_eq _ _ (by simp [put_sz, sz]))) (ev_eq _ _ (by simp [put_sz, sz])) hkn) hs0 ?_
  refine tkH (i := 7) (d := 23) (v := .agg (eVals e).toArray) rfl rfl (y_loadE (by simp [Region.wanted]) (.tmp 22) rfl b (k * 4) e (ev_eq _ _ (by simp [put_sz, sz])) (fun V hV => hV.2)) hs0 ?_
  refine wpAnyH_all (rs := [0, 8]) (by kernel_rfl) (by simp) fun i1 hm1 => ?_
  have hn1 : i1 = 0 ∨ i1 = 8 := by simpa using hm1
  clear hm1
  rcases hn1 with rfl | rfl
  · refine YieldsIf.wpOp rfl (y_loadH (S := fun V => V.rangeAt L 0 (cellsOf h)) (by simp [Region.wanted]) (.tmp 5) rfl L 0 h hh (evn (evn (evn (evn (evn (evn (evn e5))))))) (fun V hV => hV)) (range_whole ha0) ⟨hs0, ?_⟩
    show wpAnyH _ _ _ _ _ _ _ ((((((((A.put (some 17) (.pointer (some ⟨g, 0, none⟩))).put (some 18) (.pointer (some ⟨g, 0, none⟩))).put (some 19) (.pointer (some ⟨g, 99, none⟩))).put (some 20) (.slice (some ⟨b, 0, none⟩) n0 c0)).put (some 21) (.int .i64 (k : Int))).put (some 22) (.pointer (some ⟨b, k * 4, none⟩))).put (some 23) (.agg (eVals e).toArray)).put (some 16) (.agg (bvs h))) _
    refine wpAnyH_all (rs := [8]) (by kernel_rfl) (by simp) fun i2 hm2 => ?_
    obtain rfl : i2 = 8 := by simpa using hm2
    refine wpOp_own rfl rfl fun K2 hK2 => ?_
    refine wp_calls1 81 hf_rbytes (.tmp 23) _ rfl (.agg (eVals e).toArray) (evn (ev_eq _ _ (by simp [put_sz, sz]))) ?_
    refine (rBytes_any V0 e hn ht h12 h30).mono ?_
    rintro _ V1 ⟨aC, cC, rfl, hby, hb1, hcC, hnC⟩
    have hs1 := keep_S hs0 hb1 hgl hbl
    have ha1 := (hb1.block L (heap_lt ha0)).trans ha0
    refine ⟨_, rfl, hK2 _ _ ⟨hs1, ?_⟩⟩
    clear hK2 K2 hm2
    show wpAnyH _ _ _ _ _ _ _ (((((((((A.put (some 17) (.pointer (some ⟨g, 0, none⟩))).put (some 18) (.pointer (some ⟨g, 0, none⟩))).put (some 19) (.pointer (some ⟨g, 99, none⟩))).put (some 20) (.slice (some ⟨b, 0, none⟩) n0 c0)).put (some 21) (.int .i64 (k : Int))).put (some 22) (.pointer (some ⟨b, k * 4, none⟩))).put (some 23) (.agg (eVals e).toArray)).put (some 16) (.agg (bvs h))).put (some 24) (.slice aC (evB e).length cC)) _
    obtain ⟨A3, hA3⟩ : ∃ A3, A3 = (((((((((A.put (some 17) (.pointer (some ⟨g, 0, none⟩))).put (some 18) (.pointer (some ⟨g, 0, none⟩))).put (some 19) (.pointer (some ⟨g, 99, none⟩))).put (some 20) (.slice (some ⟨b, 0, none⟩) n0 c0)).put (some 21) (.int .i64 (k : Int))).put (some 22) (.pointer (some ⟨b, k * 4, none⟩))).put (some 23) (.agg (eVals e).toArray)).put (some 16) (.agg (bvs h))).put (some 24) (.slice aC (evB e).length cC)) := ⟨_, rfl⟩
    have szA3 : A3.tmps.size = 27 := by rw [hA3]; simp [put_sz, sz]
    have eA35 : A3.eval (.tmp 5) = .pointer (some ⟨L, 0, none⟩) := by rw [hA3]; exact (evn (evn (evn (evn (evn (evn (evn (evn (evn e5)))))))))
    have eA316 : A3.eval (.tmp 16) = .agg (bvs h) := by rw [hA3]; exact (evn (ev_eq _ _ (by simp [put_sz, sz])))
    have eA324 : A3.eval (.tmp 24) = .slice aC (evB e).length cC := by rw [hA3]; exact (ev_eq _ _ (by simp [put_sz, sz]))
    rw [← hA3]
    refine wpAnyH_all (rs := [9]) (by kernel_rfl) (by simp) fun i3 hm3 => ?_
    obtain rfl : i3 = 9 := by simpa using hm3
    refine wpOp_own rfl rfl fun K3 hK3 => ?_
    refine wp_calls2 80 hf_rchain (.tmp 16) (.tmp 24) _ rfl (.agg (bvs h)) (.slice aC (evB e).length cC) eA316 eA324 ?_
    refine (refChain_any (w := V1) (h := h) (H := bvs h) ⟨rfl, hh⟩ (evB e) aC (evB e).length cC rfl hby (by have := evB_bound e; omega) hnC).mono ?_
    rintro _ V2 ⟨O, rfl, hO, hb2⟩
    obtain rfl : O = bvs (nextH h e) := hO.out.eq
    have hs2 := keep_S hs1 hb2 (Nat.lt_of_lt_of_le hgl hb1.size) (Nat.lt_of_lt_of_le hbl hb1.size)
    have ha2 := (hb2.block L (heap_lt ha1)).trans ha1
    refine ⟨_, rfl, hK3 _ _ ⟨hs2, ?_⟩⟩
    clear hK3 K3 hm3
    show wpAnyH _ _ _ _ _ _ _ (A3.put (some 25) (.agg (bvs (nextH h e)))) _
    refine wpAnyH_all (rs := [10]) (by kernel_rfl) (by simp) fun i4 hm4 => ?_
    obtain rfl : i4 = 10 := by simpa using hm4
    refine wpOp_own rfl rfl fun K4 hK4 => ?_
    refine wp_store_hash (.tmp 5) (.tmp 25) rfl L (bvs (nextH h e)) (bvs h) (l := nextH h e) (m := h) ⟨rfl, nextH_length _ _⟩ ⟨rfl, hh⟩ (evn eA35) (ev_eq _ _ (by simp [szA3])) ha2 ?_
    have o2 : Out (fun k => k = L) V0 V2 := (Out.of_below hb1).on hb2
    refine hK4 _ _ ⟨set_S hs2 hgL hbL, wpAnyH_done (by kernel_rfl) ⟨rfl, aC, cC, ?_, setRow_heap _ _ _ _ _ _ ha2, ⟨o2.os, o2.tape, o2.output, by rw [size_setRow]; exact o2.size, fun j hj hp => (setRow_other _ _ _ _ hp).trans (o2.block j hj hp)⟩⟩ _⟩
    show (A3.put (some 25) (.agg (bvs (nextH h e)))) = _
    rw [hA3]
  · refine wpOp_own rfl rfl fun K2 hK2 => ?_
    refine wp_calls1 81 hf_rbytes (.tmp 23) _ rfl (.agg (eVals e).toArray) (ev_eq _ _ (by simp [put_sz, sz])) ?_
    refine (rBytes_any V0 e hn ht h12 h30).mono ?_
    rintro _ V1 ⟨aC, cC, rfl, hby, hb1, hcC, hnC⟩
    have hs1 := keep_S hs0 hb1 hgl hbl
    have ha1 := (hb1.block L (heap_lt ha0)).trans ha0
    refine ⟨_, rfl, hK2 _ _ ⟨hs1, ?_⟩⟩
    clear hK2 K2
    show wpAnyH _ _ _ _ _ _ _ ((((((((A.put (some 17) (.pointer (some ⟨g, 0, none⟩))).put (some 18) (.pointer (some ⟨g, 0, none⟩))).put (some 19) (.pointer (some ⟨g, 99, none⟩))).put (some 20) (.slice (some ⟨b, 0, none⟩) n0 c0)).put (some 21) (.int .i64 (k : Int))).put (some 22) (.pointer (some ⟨b, k * 4, none⟩))).put (some 23) (.agg (eVals e).toArray)).put (some 24) (.slice aC (evB e).length cC)) _
    refine wpAnyH_all (rs := [0]) (by kernel_rfl) (by simp) fun i3 hm3 => ?_
    obtain rfl : i3 = 0 := by simpa using hm3
    refine YieldsIf.wpOp rfl (y_loadH (S := fun V => V.rangeAt L 0 (cellsOf h)) (by simp [Region.wanted]) (.tmp 5) rfl L 0 h hh (evn (evn (evn (evn (evn (evn (evn (evn e5)))))))) (fun V hV => hV)) (range_whole ha1) ⟨hs1, ?_⟩
    show wpAnyH _ _ _ _ _ _ _ (((((((((A.put (some 17) (.pointer (some ⟨g, 0, none⟩))).put (some 18) (.pointer (some ⟨g, 0, none⟩))).put (some 19) (.pointer (some ⟨g, 99, none⟩))).put (some 20) (.slice (some ⟨b, 0, none⟩) n0 c0)).put (some 21) (.int .i64 (k : Int))).put (some 22) (.pointer (some ⟨b, k * 4, none⟩))).put (some 23) (.agg (eVals e).toArray)).put (some 24) (.slice aC (evB e).length cC)).put (some 16) (.agg (bvs h))) _
    obtain ⟨A3, hA3⟩ : ∃ A3, A3 = (((((((((A.put (some 17) (.pointer (some ⟨g, 0, none⟩))).put (some 18) (.pointer (some ⟨g, 0, none⟩))).put (some 19) (.pointer (some ⟨g, 99, none⟩))).put (some 20) (.slice (some ⟨b, 0, none⟩) n0 c0)).put (some 21) (.int .i64 (k : Int))).put (some 22) (.pointer (some ⟨b, k * 4, none⟩))).put (some 23) (.agg (eVals e).toArray)).put (some 24) (.slice aC (evB e).length cC)).put (some 16) (.agg (bvs h))) := ⟨_, rfl⟩
    have szA3 : A3.tmps.size = 27 := by rw [hA3]; simp [put_sz, sz]
    have eA35 : A3.eval (.tmp 5) = .pointer (some ⟨L, 0, none⟩) := by rw [hA3]; exact (evn (evn (evn (evn (evn (evn (evn (evn (evn e5)))))))))
    have eA316 : A3.eval (.tmp 16) = .agg (bvs h) := by rw [hA3]; exact (ev_eq _ _ (by simp [put_sz, sz]))
    have eA324 : A3.eval (.tmp 24) = .slice aC (evB e).length cC := by rw [hA3]; exact (evn (ev_eq _ _ (by simp [put_sz, sz])))
    rw [← hA3]
    refine wpAnyH_all (rs := [9]) (by kernel_rfl) (by simp) fun i4 hm4 => ?_
    obtain rfl : i4 = 9 := by simpa using hm4
    refine wpOp_own rfl rfl fun K4 hK4 => ?_
    refine wp_calls2 80 hf_rchain (.tmp 16) (.tmp 24) _ rfl (.agg (bvs h)) (.slice aC (evB e).length cC) eA316 eA324 ?_
    refine (refChain_any (w := V1) (h := h) (H := bvs h) ⟨rfl, hh⟩ (evB e) aC (evB e).length cC rfl hby (by have := evB_bound e; omega) hnC).mono ?_
    rintro _ V2 ⟨O, rfl, hO, hb2⟩
    obtain rfl : O = bvs (nextH h e) := hO.out.eq
    have hs2 := keep_S hs1 hb2 (Nat.lt_of_lt_of_le hgl hb1.size) (Nat.lt_of_lt_of_le hbl hb1.size)
    have ha2 := (hb2.block L (heap_lt ha1)).trans ha1
    refine ⟨_, rfl, hK4 _ _ ⟨hs2, ?_⟩⟩
    clear hK4 K4 hm4
    show wpAnyH _ _ _ _ _ _ _ (A3.put (some 25) (.agg (bvs (nextH h e)))) _
    refine wpAnyH_all (rs := [10]) (by kernel_rfl) (by simp) fun i5 hm5 => ?_
    obtain rfl : i5 = 10 := by simpa using hm5
    refine wpOp_own rfl rfl fun K5 hK5 => ?_
    refine wp_store_hash (.tmp 5) (.tmp 25) rfl L (bvs (nextH h e)) (bvs h) (l := nextH h e) (m := h) ⟨rfl, nextH_length _ _⟩ ⟨rfl, hh⟩ (evn eA35) (ev_eq _ _ (by simp [szA3])) ha2 ?_
    have o2 : Out (fun k => k = L) V0 V2 := (Out.of_below hb1).on hb2
    refine hK5 _ _ ⟨set_S hs2 hgL hbL, wpAnyH_done (by kernel_rfl) ⟨rfl, aC, cC, ?_, setRow_heap _ _ _ _ _ _ ha2, ⟨o2.os, o2.tape, o2.output, by rw [size_setRow]; exact o2.size, fun j hj hp => (setRow_other _ _ _ _ hp).trans (o2.block j hj hp)⟩⟩ _⟩
    show (A3.put (some 25) (.agg (bvs (nextH h e)))) = _
    rw [hA3, put_swap (d := 24) (e := 16) _ (by decide)]
theorem RAt.row_at {w : World} {B g : Nat} {a0 : Option Addr} {cap : Nat} {c : Ch} (h : RAt w B g (.slice a0 c.ev.length cap) c) (k : Nat) (hk : k < c.ev.length) : ∃ b, a0 = some ⟨b, 0, none⟩ ∧ b < w.heap.size ∧ w.rangeAt b (k * 4) (eVals c.ev[k]) := by
  rcases h.row.2 with ⟨_, h0⟩ | ⟨b, cap', cur, hv, _, hg, _, _, _, ht⟩
  · omega
  · cases hv
    refine ⟨b, rfl, heap_lt hg, fun j u hj => ?_⟩
    have hj4 : j < 4 := (List.getElem?_eq_some_iff.1 hj).1
    rw [cell_of_row _ _ _ _ _ _ hg, ← Array.getElem?_toList]
    have h1 : (cur.toList.take (c.ev.length * 4))[k * 4 + j]? = some u := by rw [ht, eCells_get _ _ hk _ hj4]; exact hj
    rw [List.getElem?_take_of_lt (by omega)] at h1
    exact h1
def EvOk (l : List Ev) : Prop := ∀ e ∈ l, e.num ≤ 4611686018427387904 ∧ e.tim ≤ 4611686018427387904 ∧ e.what.size ≤ 12 ∧ e.who.size ≤ 30
set_option maxHeartbeats 2000000 in
theorem rAt_any {w : World} {B g : Nat} {v : Value} {c : Ch} (h : RAt w B g v c) (ok : Lens c) (hev : EvOk c.ev) (hfew : c.ev.length ≤ 1000) (k : Nat) (hk : k ≤ c.ev.length) :
    Calls Tryd.prog 44 #[.pointer (some ⟨g, 0, none⟩), .int .i64 (k : Int)] w fun e w' => e = .returned (.agg (bvs (c.at k))) ∧ Below w.heap.size w w' := by
  obtain ⟨Z, hZ⟩ : ∃ Z, Z = bvs (List.replicate 32 0) := ⟨_, rfl⟩
  have zh := (zero_of_info zero_hash).1
  rw [← hZ] at zh
  have hz : Hid (HV Z zero32) := by
    show HV _ _
    rw [hZ]; exact hv_zero
  have zh := hid zh
  obtain ⟨a0, cap, rfl⟩ := h.val
  have b0 : Below w.heap.size w (w.alloc (.cells Z 69)) := (Below.refl _ w).alloc (Nat.le_refl _) _
  have rb := hid ((h.below b0).rb)
  have H := hid h
  have OK := hid ok
  have hgl : Hid (g < w.heap.size) := h.lt
  have sh := hid (size_hashs c.bh ok.lb)
  have sl := hid (size_hashl c.bh ok.lb)
  have one := hid (bvs_one c.bh)
  have bv : Hid ((cellsOf c.bh).toArray = bvs c.bh) := rfl
  have y0 : Hid (((w.alloc (.cells Z 69)).alloc (.cells Z 69)).heap[w.heap.size]? = some (.cells Z 69 (0, 0))) := heap_alloc2_old w _ _
  have y1 : Hid (((w.alloc (.cells Z 69)).alloc (.cells Z 69)).heap[w.heap.size + 1]? = some (.cells Z 69 (0, 0))) := heap_alloc2_new w _ _
  have y2 : Hid (((w.alloc (.cells Z 69)).alloc (.cells Z 69)).heap[(w.alloc (.cells Z 69)).heap.size]? = some (.cells Z 69 (0, 0))) := heap_alloc_new _ _
  have zs : Hid (Z.size = (bvs c.bh).size) := hz.out.size.trans (HV.size (l := c.bh) ⟨rfl, ok.lb⟩).symm
  have Hat0 : Hid (bvs c.bh = bvs (c.at 0)) := by show _ = _; rw [Ch.at_zero]
  have HEv := hid hev
  have Hb0 : Hid (Below w.heap.size w ((w.alloc (.cells Z 69)).alloc (.cells Z 69))) := ((Below.refl _ w).alloc (Nat.le_refl _) _).alloc (by simp) _
  clear hZ h ok b0 hev
  generalize cellsOf c.bh = Lc at *
  generalize bvs c.bh = O at *
  go_enter Tryd.func44, Tryd.ntmps44
  go_wp2_with (first
    | (with_reducible show Go.wpList _ _ _ _ _ _; refine wpList_alloc_row rfl 69 rfl Z zh.out ?_)
    | (with_reducible show Go.wpList _ _ _ _ _ _; refine wpList_load_mid rfl 69 _ rfl g 3 rfl Lc _ rb.out Tryd.underlying69 rfl sl.out ?_; rw [bv.out])
    | (with_reducible show Go.wpList _ _ _ _ _ _; refine wpList_store_row rfl 69 _ _ rfl (w.alloc (.cells Z 69)).heap.size O rfl rfl 69 Z y2.out sh.out zs.out one.out ?_))
  have x1 := hid (setRow_heap _ _ _ O _ _ y1.out)
  have x0 : Hid ((((w.alloc (.cells Z 69)).alloc (.cells Z 69)).setRow (w.heap.size + 1) O).heap[w.heap.size]? = some (.cells Z 69 (0, 0))) := (setRow_other _ _ _ _ (by omega)).trans y0.out
  have Hb1 := hid (Hb0.out.setRow (g := w.heap.size + 1) (by omega) O)
  clear y0 y1 y2 Hb0 rb sl one bv zs sh
  go_loopw [6] (fun i wr => ∃ j : Nat, j ≤ k ∧ i = .int .i64 (j : Int) ∧ wr.heap[w.heap.size + 1]? = some (.cells (bvs (c.at j)) 69 (0, 0)) ∧ wr.heap[w.heap.size]? = some (.cells Z 69 (0, 0)) ∧ Below w.heap.size w wr) (fun i _ => k - (intOf i).toNat)
  case atStart => exact ⟨0, Nat.zero_le _, rfl, by rw [← Hat0.out]; exact x1.out, x0.out, Hb1.out⟩
  case round =>
    clear x0 x1 Hb1 Hat0
    obtain ⟨j, hj, rfl, hx1, hx0, hbel⟩ := hrel
    have X1 := hid hx1
    have X0 := hid hx0
    have Hbel := hid hbel
    clear hx1 hx0 hbel
    by_cases hlt : j < k
    · have hlt' : (j : Int) < (k : Int) := by omega
      go_wp2_with fail
      obtain ⟨V0, hV0⟩ : ∃ V0, V0 = wr.drew := ⟨_, rfl⟩
      have b1 : Below wr.heap.size wr V0 := by rw [hV0]; exact (Below.refl _ wr).drew
      have bV : Below w.heap.size w V0 := Hbel.out.trans (b1.mono Hbel.out.size)
      have HV := H.out.below bV
      obtain ⟨b, rfl, hbl, hrow⟩ := HV.row_at j (by omega)
      have hbw : b < w.heap.size := (H.out.lts b rfl).2
      have hgw := hgl.out
      have he := HEv.out c.ev[j] (List.getElem_mem _)
      refine wp_act _ fun A hA => ?_
      have sz : A.tmps.size = 27 := by rw [hA]; rfl
      have e0 : A.eval (.tmp 0) = .pointer (some ⟨g, 0, none⟩) := by rw [hA]; rfl
      have e5 : A.eval (.tmp 5) = .pointer (some ⟨w.heap.size + 1, 0, none⟩) := by rw [hA]; simp [Act.eval]
      have e6 : A.eval (.tmp 6) = .int .i64 (j : Int) := by rw [hA]; rfl
      refine wp_split _ (rAt_region5 sz e0 e5 e6 hV0 (endH_length _ _ OK.out.lb) ((b1.block _ (heap_lt X1.out)).trans X1.out) ⟨HV.c99 OK.out, hrow⟩ (by omega) HV.lt hbl (by omega) (by omega) he.1 he.2.1 he.2.2.1 he.2.2.2) ?_
      rintro _ V1 ⟨aC, cC, rfl, hl1, ho1⟩
      rw [hA]
      simp only [Act.put, List.setIfInBounds_toArray, List.set_cons_succ, List.set_cons_zero]
      have hat : Hid (nextH (c.at j) c.ev[j] = c.at (j + 1)) := (Ch.at_succ c j (by omega)).symm
      have L1 : Hid (V1.heap[w.heap.size + 1]? = some (.cells (bvs (c.at (j + 1))) 69 (0, 0))) := by
        show _ = _
        rw [← hat.out]; exact hl1
      have Z1 : Hid (V1.heap[w.heap.size]? = some (.cells Z 69 (0, 0))) := (ho1.block _ (Nat.lt_of_lt_of_le (heap_lt X0.out) b1.size) (by omega)).trans ((b1.block _ (heap_lt X0.out)).trans X0.out)
      have B1 : Hid (Below w.heap.size w V1) := bV.trans (ho1.below bV.size (fun i hi => by omega))
      clear sz e0 e5 e6 hA A hl1 ho1 hat he hrow HV b1 bV hV0 X1 X0 Hbel
      go_wp2_with fail
      go_roundw
      case rel => exact ⟨j + 1, by omega, by go_num, L1.out, Z1.out, B1.out⟩
      case measure => simp [intOf]; omega
    · have hjk : j = k := by omega
      subst hjk
      have hlt' : ¬ (j : Int) < (j : Int) := by omega
      have ll := endH_length c.bh (c.ev.take j) OK.out.lb
      have sh := hid (size_hashs (c.at j) ll)
      have sl := hid (size_hashl (c.at j) ll)
      have zs : Hid (Z.size = (bvs (c.at j)).size) := hz.out.size.trans (HV.size (l := c.at j) ⟨rfl, ll⟩).symm
      have one := hid (bvs_one (c.at j))
      obtain ⟨P, hP⟩ : ∃ P, P = bvs (c.at j) := ⟨_, rfl⟩
      have HP := hid hP
      rw [← hP] at X1 sh zs one
      clear hP
      clear hlt hk
      go_wp2_with (first
        | (with_reducible show Go.wpList _ _ _ _ _ _; refine wpList_load_row rfl 69 _ rfl (w.heap.size + 1) rfl _ _ _ _ X1.out Tryd.underlying69 rfl sh.out ?_)
        | (with_reducible show Go.wpList _ _ _ _ _ _; refine wpList_store_row rfl 69 _ _ rfl w.heap.size P rfl rfl 69 Z X0.out sh.out zs.out one.out ?_))
      refine bodyPost_ret (results_cell_row rfl _ _ w.heap.size 69 P (0, 0) _ rfl (setRow_heap _ _ _ _ _ _ X0.out) Tryd.underlying69 rfl sh.out) rfl ?_
      exact ⟨by rw [HP.out], Hbel.out.setRow (Nat.le_refl _) _⟩
end Go.Proofs.YthfmpebgmojcaaaDoor
/- The reference's Anchor, by a contract. -/
namespace Go.Proofs.YthfmpebgmojcaaaDoor
open Go.RowKit
set_option linter.unusedVariables false
set_option maxRecDepth 20000
theorem wp_storeN {o : Oper} {a : Act} {w : World} {K : Act → World → Prop} {Q : Exit → Act → World → Prop} (x y : Operand) (ho : o.op = .store 3 x y) (g k : Nat) (n : Int) (u : Value) (hx : a.eval x = .pointer (some ⟨g, k, none⟩)) (hy : a.eval y = .int .i64 n) (h1 : w.cell? ⟨g, k, none⟩ = some u) (h2 : w.frozen? ⟨g, k, none⟩ = false)
    (h : K (a.put o.dst undef) (w.setCell ⟨g, k, none⟩ (.int .i64 n))) : o.wp Tryd.prog a w K Q := by
  unfold Oper.wp execOp
  simp only [ho, hx, hy]
  simp [go_sem, h1, h2]
  exact h
theorem hf_rcount : ∀ (args : Array Value) (w : World), (callFunc 52 args).run Tryd.prog w = .ok (.enter 52 args) w := fun args w => by simp [go_sem]
noncomputable def codeRAnc (n : Nat) : Code := ((Tryd.f46.body.bind (regionAt n)).getD .skip)
set_option maxHeartbeats 2000000 in
theorem rAnchor_region {V0 W5 : World} {B g : Nat} {v : Value} {c : Ch} {A : Act} (sz : A.tmps.size = 27) (e0 : A.eval (.tmp 0) = .pointer (some ⟨g, 0, none⟩))
    (hV0 : V0 = W5.drew) (H0 : RAt V0 B g v c) (ok : ChOk c) (hc : c.cnt < 1152921504606846976) :
    (codeRAnc 3).wp Tryd.prog (fun x a V => x = .normal ∧ a = ((((((((((((A.put (some 7) (.pointer (some ⟨g, 0, none⟩))).put (some 8) (.pointer (some ⟨g, 0, none⟩))).put (some 9) (.pointer (some ⟨g, 0, none⟩))).put (some 11) (.pointer (some ⟨g, 0, none⟩))).put (some 12) (.pointer (some ⟨g, 0, none⟩))).put (some 13) (.pointer (some ⟨g, 67, none⟩))).put (some 14) (.agg (bvs c.hd))).put (some 10) (.int .i64 (c.cnt : Int))).put (some 15) (.pointer (some ⟨g, 0, none⟩))).put (some 16) (.pointer (some ⟨g, 1, none⟩))).put (some 17) (.pointer (some ⟨g, 0, none⟩))).put (some 18) (.pointer (some ⟨g, 35, none⟩))) ∧ RAt V B g v (ancC c) ∧ Out (fun k => k = g) V0 V) A W5 := by
  have hm : Tryd.prog.follows .mixedOrders = true := by kernel_rfl
  unfold codeRAnc
  conv => arg 2; whnf
  refine wp_region_held (S := fun V => V.rangeAt g 67 (cellsOf c.hd)) hm ?_
  rw [show ({ W5 with drawn := W5.drawn + 1 } : World) = V0 from hV0.symm]
  have hs0 : V0.rangeAt g 67 (cellsOf c.hd) := H0.rh ok.l
  refine tkH (i := 0) (d := 7) (v := .pointer (some ⟨g, 0, none⟩)) rfl rfl (yields_move (by simp [Region.wanted]) (.tmp 0) rfl _ e0) hs0 ?_
  refine tkH (i := 1) (d := 8) (v := .pointer (some ⟨g, 0, none⟩)) rfl rfl (yields_move (by simp [Region.wanted]) (.tmp 0) rfl _ (evn e0)) hs0 ?_
  refine tkH (i := 2) (d := 9) (v := .pointer (some ⟨g, 0, none⟩)) rfl rfl (yields_move (by simp [Region.wanted]) (.tmp 0) rfl _ (evn (evn e0))) hs0 ?_
  refine tkH (i := 4) (d := 11) (v := .pointer (some ⟨g, 0, none⟩)) rfl rfl (yields_move (by simp [Region.wanted]) (.tmp 0) rfl _ (evn (evn (evn e0)))) hs0 ?_
  refine tkH (i := 5) (d := 12) (v := .pointer (some ⟨g, 0, none⟩)) rfl rfl (y_nil (by simp [Region.wanted]) (.tmp 11) rfl _ (ev_eq _ _ (by simp [put_sz, sz]))) hs0 ?_
  refine tkH (i := 6) (d := 13) (v := .pointer (some ⟨g, 67, none⟩)) rfl rfl (y_rf5 (by simp [Region.wanted]) (.tmp 12) rfl g (ev_eq _ _ (by simp [put_sz, sz]))) hs0 ?_
  refine tkH (i := 7) (d := 14) (v := .agg (bvs c.hd)) rfl rfl (y_loadH (by simp [Region.wanted]) (.tmp 13) rfl g 67 c.hd ok.lh (ev_eq _ _ (by simp [put_sz, sz])) (fun V hV => hV)) hs0 ?_
  refine wpAnyH_all (rs := [3]) (by kernel_rfl) (by simp) fun i1 hm1 => ?_
  obtain rfl : i1 = 3 := by simpa using hm1
  refine wpOp_own rfl rfl fun K1 hK1 => ?_
  refine wp_calls1 52 hf_rcount (.tmp 9) _ rfl (.pointer (some ⟨g, 0, none⟩)) (evn (evn (evn (evn (ev_eq _ _ (by simp [put_sz, sz])))))) ?_
  refine (rCount_any H0 ok hc).mono ?_
  rintro _ V1 ⟨rfl, hb1⟩
  have H1 := H0.below hb1
  have hs1 := H1.rh ok.l
  refine ⟨_, rfl, hK1 _ _ ⟨hs1, ?_⟩⟩
  clear hK1 K1 hm1
  show wpAnyH _ _ _ _ _ _ _ ((((((((A.put (some 7) (.pointer (some ⟨g, 0, none⟩))).put (some 8) (.pointer (some ⟨g, 0, none⟩))).put (some 9) (.pointer (some ⟨g, 0, none⟩))).put (some 11) (.pointer (some ⟨g, 0, none⟩))).put (some 12) (.pointer (some ⟨g, 0, none⟩))).put (some 13) (.pointer (some ⟨g, 67, none⟩))).put (some 14) (.agg (bvs c.hd))).put (some 10) (.int .i64 (c.cnt : Int))) _
  refine tkH (i := 8) (d := 15) (v := .pointer (some ⟨g, 0, none⟩)) rfl rfl (y_nil (by simp [Region.wanted]) (.tmp 7) rfl _ (evn (evn (evn (evn (evn (evn (evn (ev_eq _ _ (by simp [sz])))))))))) hs1 ?_
  refine tkH (i := 9) (d := 16) (v := .pointer (some ⟨g, 1, none⟩)) rfl rfl (y_rf1 (by simp [Region.wanted]) (.tmp 15) rfl g (ev_eq _ _ (by simp [put_sz, sz]))) hs1 ?_
  obtain ⟨A3, hA3⟩ : ∃ A3, A3 = ((((((((((A.put (some 7) (.pointer (some ⟨g, 0, none⟩))).put (some 8) (.pointer (some ⟨g, 0, none⟩))).put (some 9) (.pointer (some ⟨g, 0, none⟩))).put (some 11) (.pointer (some ⟨g, 0, none⟩))).put (some 12) (.pointer (some ⟨g, 0, none⟩))).put (some 13) (.pointer (some ⟨g, 67, none⟩))).put (some 14) (.agg (bvs c.hd))).put (some 10) (.int .i64 (c.cnt : Int))).put (some 15) (.pointer (some ⟨g, 0, none⟩))).put (some 16) (.pointer (some ⟨g, 1, none⟩))) := ⟨_, rfl⟩
  have szA3 : A3.tmps.size = 27 := by rw [hA3]; simp [put_sz, sz]
  have eA38 : A3.eval (.tmp 8) = .pointer (some ⟨g, 0, none⟩) := by rw [hA3]; exact (evn (evn (evn (evn (evn (evn (evn (evn (ev_eq _ _ (by simp [put_sz, sz]))))))))))
  have eA310 : A3.eval (.tmp 10) = .int .i64 (c.cnt : Int) := by rw [hA3]; exact (evn (evn (ev_eq _ _ (by simp [put_sz, sz]))))
  have eA314 : A3.eval (.tmp 14) = .agg (bvs c.hd) := by rw [hA3]; exact (evn (evn (evn (ev_eq _ _ (by simp [put_sz, sz])))))
  have eA316 : A3.eval (.tmp 16) = .pointer (some ⟨g, 1, none⟩) := by rw [hA3]; exact (ev_eq _ _ (by simp [put_sz, sz]))
  rw [← hA3]
  refine wpAnyH_all (rs := [10]) (by kernel_rfl) (by simp) fun i2 hm2 => ?_
  obtain rfl : i2 = 10 := by simpa using hm2
  refine wpOp_own rfl rfl fun K2 hK2 => ?_
  refine wp_storeN (.tmp 16) (.tmp 10) rfl g 1 (c.cnt : Int) _ eA316 eA310 H1.c1 (H1.fz 1) ?_
  have H2 := H1.setAn c.cnt
  have hs2 := H2.rh (c := { c with an := c.cnt }) ⟨ok.lb, ok.lan, ok.lh⟩
  refine hK2 _ _ ⟨hs2, ?_⟩
  clear hK2 K2 hm2
  show wpAnyH _ _ _ _ _ _ _ A3 _
  refine tkH (i := 11) (d := 17) (v := .pointer (some ⟨g, 0, none⟩)) rfl rfl (y_nil (by simp [Region.wanted]) (.tmp 8) rfl _ eA38) hs2 ?_
  refine tkH (i := 12) (d := 18) (v := .pointer (some ⟨g, 35, none⟩)) rfl rfl (y_rf4 (by simp [Region.wanted]) (.tmp 17) rfl g (ev_eq _ _ (by simp [szA3]))) hs2 ?_
  refine wpAnyH_all (rs := [13]) (by kernel_rfl) (by simp) fun i3 hm3 => ?_
  obtain rfl : i3 = 13 := by simpa using hm3
  refine wpOp_own rfl rfl fun K3 hK3 => ?_
  refine wp_store_mid 69 (.tmp 18) (.tmp 14) rfl g 35 (bvs c.hd) (ev_eq _ _ (by simp [put_sz, szA3])) (evn (evn eA314)) (by rw [bvs_size, ok.lh]; exact H2.there (c := { c with an := c.cnt }) ⟨ok.lb, ok.lan, ok.lh⟩ 35 32 (by omega)) (by rw [bvs_size, ok.lh]; exact size_hash) (bvs_one _) ?_
  rw [show (bvs c.hd).toList = cellsOf c.hd from rfl]
  have H3 := H2.setAh (c := { c with an := c.cnt }) ⟨ok.lb, ok.lan, ok.lh⟩ c.hd ok.lh
  refine hK3 _ _ ⟨H3.rh (c := ancC c) ⟨ok.lb, ok.lh, ok.lh⟩, wpAnyH_done (by kernel_rfl) ⟨rfl, ?_, H3, Out.setCells (P := fun x => x = g) g rfl _ _ _ ((Out.of_below (P := fun x => x = g) hb1).setCell ⟨g, 1, none⟩ _ rfl)⟩ _⟩
  show ((A3.put (some 17) (.pointer (some ⟨g, 0, none⟩))).put (some 18) (.pointer (some ⟨g, 35, none⟩))) = _
  rw [hA3]
set_option maxHeartbeats 2000000 in
theorem rAnchor_region4 {V0 W5 : World} {B g R : Nat} {v : Value} {c : Ch} {Z : Array Value} {A : Act} (sz : A.tmps.size = 27) (e0 : A.eval (.tmp 0) = .pointer (some ⟨g, 0, none⟩)) (e3 : A.eval (.tmp 3) = .pointer (some ⟨R, 0, none⟩))
    (hV0 : V0 = W5.drew) (H0 : RAt V0 B g v c) (lens : Lens c) (hZ : HV Z zero32) (hgR : g ≠ R) (r0 : V0.heap[R]? = some (.cells Z 69 (0, 0))) :
    (codeRAnc 4).wp Tryd.prog (fun x a V => x = .normal ∧ a = (((((((((A.put (some 19) (.pointer (some ⟨g, 0, none⟩))).put (some 20) (.pointer (some ⟨g, 0, none⟩))).put (some 21) (.pointer (some ⟨g, 1, none⟩))).put (some 22) (.int .i64 (c.an : Int))).put (some 23) (.pointer (some ⟨g, 0, none⟩))).put (some 24) (.pointer (some ⟨g, 0, none⟩))).put (some 25) (.pointer (some ⟨g, 35, none⟩))).put (some 26) (.agg (bvs c.ah))).put (some 2) (.int .i64 (c.an : Int))) ∧ V = V0.setRow R (bvs c.ah)) A W5 := by
  have hm : Tryd.prog.follows .mixedOrders = true := by kernel_rfl
  unfold codeRAnc
  conv => arg 2; whnf
  refine wp_region_held (S := fun V => V.cell? ⟨g, 1, none⟩ = some (.int .i64 (c.an : Int)) ∧ V.rangeAt g 35 (cellsOf c.ah)) hm ?_
  rw [show ({ W5 with drawn := W5.drawn + 1 } : World) = V0 from hV0.symm]
  have hs0 : V0.cell? ⟨g, 1, none⟩ = some (.int .i64 (c.an : Int)) ∧ V0.rangeAt g 35 (cellsOf c.ah) := ⟨H0.c1, H0.ra lens⟩
  refine tkH (i := 0) (d := 19) (v := .pointer (some ⟨g, 0, none⟩)) rfl rfl (yields_move (by simp [Region.wanted]) (.tmp 0) rfl _ e0) hs0 ?_
  refine tkH (i := 1) (d := 20) (v := .pointer (some ⟨g, 0, none⟩)) rfl rfl (y_nil (by simp [Region.wanted]) (.tmp 19) rfl _ (ev_eq _ _ (by simp [sz]))) hs0 ?_
  refine tkH (i := 2) (d := 21) (v := .pointer (some ⟨g, 1, none⟩)) rfl rfl (y_rf1 (by simp [Region.wanted]) (.tmp 20) rfl g (ev_eq _ _ (by simp [put_sz, sz]))) hs0 ?_
  refine tkH (i := 3) (d := 22) (v := .int .i64 (c.an : Int)) rfl rfl (y_loadI (by simp [Region.wanted]) (.tmp 21) rfl g 1 _ (ev_eq _ _ (by simp [put_sz, sz])) (fun V hV => hV.1)) hs0 ?_
  refine tkH (i := 4) (d := 23) (v := .pointer (some ⟨g, 0, none⟩)) rfl rfl (yields_move (by simp [Region.wanted]) (.tmp 0) rfl _ (evn (evn (evn (evn e0))))) hs0 ?_
  refine tkH (i := 5) (d := 24) (v := .pointer (some ⟨g, 0, none⟩)) rfl rfl (y_nil (by simp [Region.wanted]) (.tmp 23) rfl _ (ev_eq _ _ (by simp [put_sz, sz]))) hs0 ?_
  refine tkH (i := 6) (d := 25) (v := .pointer (some ⟨g, 35, none⟩)) rfl rfl (y_rf4 (by simp [Region.wanted]) (.tmp 24) rfl g (ev_eq _ _ (by simp [put_sz, sz]))) hs0 ?_
  refine tkH (i := 7) (d := 26) (v := .agg (bvs c.ah)) rfl rfl (y_loadH (by simp [Region.wanted]) (.tmp 25) rfl g 35 c.ah lens.lan (ev_eq _ _ (by simp [put_sz, sz])) (fun V hV => hV.2)) hs0 ?_
  refine tkH (i := 8) (d := 2) (v := .int .i64 (c.an : Int)) rfl rfl (y_assign (by simp [Region.wanted]) (.tmp 22) rfl _ (evn (evn (evn (evn (ev_eq _ _ (by simp [put_sz, sz]))))))) hs0 ?_
  obtain ⟨A3, hA3⟩ : ∃ A3, A3 = (((((((((A.put (some 19) (.pointer (some ⟨g, 0, none⟩))).put (some 20) (.pointer (some ⟨g, 0, none⟩))).put (some 21) (.pointer (some ⟨g, 1, none⟩))).put (some 22) (.int .i64 (c.an : Int))).put (some 23) (.pointer (some ⟨g, 0, none⟩))).put (some 24) (.pointer (some ⟨g, 0, none⟩))).put (some 25) (.pointer (some ⟨g, 35, none⟩))).put (some 26) (.agg (bvs c.ah))).put (some 2) (.int .i64 (c.an : Int))) := ⟨_, rfl⟩
  have szA3 : A3.tmps.size = 27 := by rw [hA3]; simp [put_sz, sz]
  have eA33 : A3.eval (.tmp 3) = .pointer (some ⟨R, 0, none⟩) := by rw [hA3]; exact (evn (evn (evn (evn (evn (evn (evn (evn (evn e3)))))))))
  have eA326 : A3.eval (.tmp 26) = .agg (bvs c.ah) := by rw [hA3]; exact (evn (ev_eq _ _ (by simp [put_sz, sz])))
  rw [← hA3]
  refine wpAnyH_all (rs := [9]) (by kernel_rfl) (by simp) fun i1 hm1 => ?_
  obtain rfl : i1 = 9 := by simpa using hm1
  refine wpOp_own rfl rfl fun K1 hK1 => ?_
  refine wp_store_hash (.tmp 3) (.tmp 26) rfl R (bvs c.ah) Z (l := c.ah) (m := zero32) ⟨rfl, lens.lan⟩ hZ eA33 eA326 r0 ?_
  refine hK1 _ _ ⟨⟨(cell_setRow_other _ _ _ _ hgR).trans hs0.1, fun j v hj => (cell_setRow_other _ _ _ _ hgR).trans (hs0.2 j v hj)⟩, wpAnyH_done (by kernel_rfl) ⟨rfl, ?_, rfl⟩ _⟩
  show A3 = _
  rw [hA3]
set_option maxHeartbeats 1000000 in
theorem rAnchor_any {w : World} {B g : Nat} {v : Value} {c : Ch} (h : RAt w B g v c) (ok : ChOk c) (hc : c.cnt < 1152921504606846976) :
    Calls Tryd.prog 46 #[.pointer (some ⟨g, 0, none⟩)] w fun e w' => e = .returned (.tuple #[.int .i64 (c.cnt : Int), .agg (bvs c.hd)]) ∧ RAt w' B g v (ancC c) ∧ Out (fun k => k = g) w w' := by
  obtain ⟨Z, hZ⟩ : ∃ Z, Z = bvs (List.replicate 32 0) := ⟨_, rfl⟩
  have zh := (zero_of_info zero_hash).1
  rw [← hZ] at zh
  have hz : Hid (HV Z zero32) := by
    show HV _ _
    rw [hZ]; exact hv_zero
  have zh := hid zh
  have H := hid h
  have OK := hid ok
  have sh := hid (size_hashs c.hd ok.lh)
  have lts := hid h.lts
  have lt := hid h.lt
  clear hZ h ok
  go_enter Tryd.func46, Tryd.ntmps46
  go_wp2_with (with_reducible show Go.wpList _ _ _ _ _ _; refine wpList_alloc_row rfl 69 rfl Z zh.out ?_)
  obtain ⟨V0, hV0⟩ : ∃ V0, V0 = (w.alloc (.cells Z 69)).drew := ⟨_, rfl⟩
  have b0 : Below w.heap.size w V0 := by rw [hV0]; exact ((Below.refl _ w).alloc (Nat.le_refl _) _).drew
  have r0 : V0.heap[w.heap.size]? = some (.cells Z 69 (0, 0)) := by rw [hV0]; exact heap_alloc_new w _
  refine wp_act _ fun A hA => ?_
  have sz : A.tmps.size = 27 := by rw [hA]; rfl
  have e0 : A.eval (.tmp 0) = .pointer (some ⟨g, 0, none⟩) := by rw [hA]; rfl
  refine wp_split _ (rAnchor_region sz e0 hV0 (H.out.below b0) OK.out hc) ?_
  rintro _ V1 ⟨rfl, H1, o1⟩
  rw [hA]
  simp only [Act.put, List.setIfInBounds_toArray, List.set_cons_succ, List.set_cons_zero]
  clear sz e0 hA A hV0
  have r1 := (o1.block _ (heap_lt r0) (by have := lt.out; omega)).trans r0
  have O1 : Hid (Out (fun k => k = g) w V1) := (Out.of_below b0).trans o1 (fun _ _ x => x)
  have H1' := hid H1
  have R1 := hid r1
  clear r0 r1 b0 zh H1 o1 H
  go_wp2_with fail
  obtain ⟨V2, hV2⟩ : ∃ V2, V2 = V1.drew := ⟨_, rfl⟩
  have b2 : Below V1.heap.size V1 V2 := by rw [hV2]; exact (Below.refl _ V1).drew
  have r2 := (b2.block _ (heap_lt R1.out)).trans R1.out
  refine wp_act _ fun A hA => ?_
  have sz : A.tmps.size = 27 := by rw [hA]; rfl
  have e0 : A.eval (.tmp 0) = .pointer (some ⟨g, 0, none⟩) := by rw [hA]; rfl
  have e3 : A.eval (.tmp 3) = .pointer (some ⟨w.heap.size, 0, none⟩) := by rw [hA]; rfl
  refine wp_split _ (rAnchor_region4 sz e0 e3 hV2 (H1'.out.below b2) (ancC_ok OK.out).l hz.out (by have := lt.out; omega) r2) ?_
  rintro _ _ ⟨rfl, rfl⟩
  rw [hA]
  simp only [Act.put, List.setIfInBounds_toArray, List.set_cons_succ, List.set_cons_zero]
  clear sz e0 e3 hA A hV2
  have R2 := hid r2
  have B2 := hid b2
  have hn : (ancC c).an = c.cnt := rfl
  have hh : (ancC c).ah = c.hd := rfl
  rw [hn, hh]
  clear r2 b2 hn hh
  go_wp2_with fail
  refine bodyPost_ret (results_tmp_row rfl _ _ w.heap.size 69 (bvs c.hd) (0, 0) _ rfl (setRow_heap _ _ _ _ _ _ R2.out) Tryd.underlying69 rfl sh.out) rfl ?_
  have hlt := lt.out
  refine ⟨rfl, (H1'.out.below B2.out).keep (setRow_other _ _ _ _ (by omega)) (fun k hk => setRow_other _ _ _ _ (by have := (lts.out k hk).2; omega)), ?_⟩
  have o2 := O1.out.on B2.out
  exact ⟨o2.os, o2.tape, o2.output, by rw [size_setRow]; exact o2.size, fun j hj hp => (setRow_other _ _ _ _ (by omega)).trans (o2.block j hj hp)⟩
end Go.Proofs.YthfmpebgmojcaaaDoor
