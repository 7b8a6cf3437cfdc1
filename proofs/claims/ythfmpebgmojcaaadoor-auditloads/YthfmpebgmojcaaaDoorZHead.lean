/- YthfmpebgmojcaaaDoorARAdd6 + YthfmpebgmojcaaaDoorARAddE + YthfmpebgmojcaaaDoorARAdd + YthfmpebgmojcaaaDoorZFork + YthfmpebgmojcaaaDoorZHead -/
import Derived.Test.YthfmpebgmojcaaaDoorTkH
import Derived.Test.YthfmpebgmojcaaaDoorARPrune
import Derived.Test.YthfmpebgmojcaaaDoorARCh
/- The reference's Add: the region that chains the hash, over a frame that is a letter. -/
namespace Go.Proofs.YthfmpebgmojcaaaDoor
open Go.RowKit
set_option linter.unusedVariables false
set_option maxRecDepth 20000
noncomputable def codeRAdd (n : Nat) : Code := ((Tryd.f45.body.bind (regionAt n)).getD .skip)
set_option maxHeartbeats 2000000 in
theorem rAdd_region {V0 W5 : World} {B g E : Nat} {v : Value} {c : Ch} {e : Ev} {A : Act} (sz : A.tmps.size = 85) (e0 : A.eval (.tmp 0) = .pointer (some ⟨g, 0, none⟩)) (e10 : A.eval (.tmp 10) = .pointer (some ⟨E, 0, none⟩))
    (hV0 : V0 = W5.drew) (H0 : RAt V0 B g v c) (lens : Lens c) (hs0 : V0.heap[E]? = some (.cells (eVals e).toArray 55 (0, 0))) (hn : e.num ≤ 4611686018427387904) (ht : e.tim ≤ 4611686018427387904) (h12 : e.what.size ≤ 12) (h30 : e.who.size ≤ 30) (hEg : E ≠ g) :
    (codeRAdd 15).wp Tryd.prog (fun x a V => x = .normal ∧ ∃ aC cC, a = ((((((((((A.put (some 70) (.pointer (some ⟨g, 0, none⟩))).put (some 71) (.pointer (some ⟨g, 0, none⟩))).put (some 72) (.pointer (some ⟨g, 0, none⟩))).put (some 73) (.pointer (some ⟨g, 67, none⟩))).put (some 75) (.agg (eVals e).toArray)).put (some 74) (.agg (bvs c.hd))).put (some 76) (.slice aC (evB e).length cC)).put (some 77) (.agg (bvs (nextH c.hd e)))).put (some 78) (.pointer (some ⟨g, 0, none⟩))).put (some 79) (.pointer (some ⟨g, 67, none⟩))) ∧
      RAt V B g v { c with hd := nextH c.hd e } ∧ V.heap[E]? = some (.cells (eVals e).toArray 55 (0, 0)) ∧ Out (fun k => k = g) V0 V) A W5 := by
  have hm : Tryd.prog.follows .mixedOrders = true := by kernel_rfl
  unfold codeRAdd
  conv => arg 2; whnf
  refine wp_region_held (S := fun V => V.heap[E]? = some (.cells (eVals e).toArray 55 (0, 0))) hm ?_
  rw [show ({ W5 with drawn := W5.drawn + 1 } : World) = V0 from hV0.symm]
  refine tkH (i := 0) (d := 70) (v := .pointer (some ⟨g, 0, none⟩)) rfl rfl (yields_move (by simp [Region.wanted]) (.tmp 0) rfl _ e0) hs0 ?_
  refine tkH (i := 1) (d := 71) (v := .pointer (some ⟨g, 0, none⟩)) rfl rfl (yields_move (by simp [Region.wanted]) (.tmp 0) rfl _ (evn e0)) hs0 ?_
  refine tkH (i := 2) (d := 72) (v := .pointer (some ⟨g, 0, none⟩)) rfl rfl (y_nil (by simp [Region.wanted]) (.tmp 71) rfl _ (ev_eq _ _ (by simp [put_sz, sz]))) hs0 ?_
  refine tkH (i := 3) (d := 73) (v := .pointer (some ⟨g, 67, none⟩)) rfl rfl (y_rf5 (by simp [Region.wanted]) (.tmp 72) rfl g (ev_eq _ _ (by simp [put_sz, sz]))) hs0 ?_
  refine tkH (i := 5) (d := 75) (v := .agg (eVals e).toArray) rfl rfl (y_loadE (by simp [Region.wanted]) (.tmp 10) rfl E 0 e (evn (evn (evn (evn e10)))) (fun V hV => range_mid (A := []) (C := []) hV 0 rfl)) hs0 ?_
  refine wpAnyH_all (rs := [4, 6]) (by kernel_rfl) (by simp) fun i1 hm1 => ?_
  have hn1 : i1 = 4 ∨ i1 = 6 := by simpa using hm1
  clear hm1
  rcases hn1 with rfl | rfl
  · refine YieldsIf.wpOp rfl (y_loadH (S := fun V => V.rangeAt g 67 (cellsOf c.hd)) (by simp [Region.wanted]) (.tmp 73) rfl g 67 c.hd lens.lh (evn (ev_eq _ _ (by simp [put_sz, sz]))) (fun V hV => hV)) (H0.rh lens) ⟨hs0, ?_⟩
    show wpAnyH _ _ _ _ _ _ _ ((((((A.put (some 70) (.pointer (some ⟨g, 0, none⟩))).put (some 71) (.pointer (some ⟨g, 0, none⟩))).put (some 72) (.pointer (some ⟨g, 0, none⟩))).put (some 73) (.pointer (some ⟨g, 67, none⟩))).put (some 75) (.agg (eVals e).toArray)).put (some 74) (.agg (bvs c.hd))) _
    refine wpAnyH_all (rs := [6]) (by kernel_rfl) (by simp) fun i2 hm2 => ?_
    obtain rfl : i2 = 6 := by simpa using hm2
    refine wpOp_own rfl rfl fun K2 hK2 => ?_
    refine wp_calls1 81 hf_rbytes (.tmp 75) _ rfl (.agg (eVals e).toArray) (evn (ev_eq _ _ (by simp [put_sz, sz]))) ?_
    refine (rBytes_any V0 e hn ht h12 h30).mono ?_
    rintro _ V1 ⟨aC, cC, rfl, hby, hb1, hcC, hnC⟩
    have hs1 := (hb1.block E (heap_lt hs0)).trans hs0
    have H1 := H0.below hb1
    refine ⟨_, rfl, hK2 _ _ ⟨hs1, ?_⟩⟩
    clear hK2 K2 hm2
    show wpAnyH _ _ _ _ _ _ _ (((((((A.put (some 70) (.pointer (some ⟨g, 0, none⟩))).put (some 71) (.pointer (some ⟨g, 0, none⟩))).put (some 72) (.pointer (some ⟨g, 0, none⟩))).put (some 73) (.pointer (some ⟨g, 67, none⟩))).put (some 75) (.agg (eVals e).toArray)).put (some 74) (.agg (bvs c.hd))).put (some 76) (.slice aC (evB e).length cC)) _
    obtain ⟨A3, hA3⟩ : ∃ A3, A3 = (((((((A.put (some 70) (.pointer (some ⟨g, 0, none⟩))).put (some 71) (.pointer (some ⟨g, 0, none⟩))).put (some 72) (.pointer (some ⟨g, 0, none⟩))).put (some 73) (.pointer (some ⟨g, 67, none⟩))).put (some 75) (.agg (eVals e).toArray)).put (some 74) (.agg (bvs c.hd))).put (some 76) (.slice aC (evB e).length cC)) := ⟨_, rfl⟩
    have szA3 : A3.tmps.size = 85 := by rw [hA3]; simp [put_sz, sz]
    have eA370 : A3.eval (.tmp 70) = .pointer (some ⟨g, 0, none⟩) := by rw [hA3]; exact (evn (evn (evn (evn (evn (evn (ev_eq _ _ (by simp [sz]))))))))
    have eA374 : A3.eval (.tmp 74) = .agg (bvs c.hd) := by rw [hA3]; exact (evn (ev_eq _ _ (by simp [put_sz, sz])))
    have eA376 : A3.eval (.tmp 76) = .slice aC (evB e).length cC := by rw [hA3]; exact (ev_eq _ _ (by simp [put_sz, sz]))
    rw [← hA3]
    refine wpAnyH_all (rs := [7]) (by kernel_rfl) (by simp) fun i3 hm3 => ?_
    obtain rfl : i3 = 7 := by simpa using hm3
    refine wpOp_own rfl rfl fun K3 hK3 => ?_
    refine wp_calls2 80 hf_rchain (.tmp 74) (.tmp 76) _ rfl (.agg (bvs c.hd)) (.slice aC (evB e).length cC) eA374 eA376 ?_
    refine (refChain_any (w := V1) (h := c.hd) (H := bvs c.hd) ⟨rfl, lens.lh⟩ (evB e) aC (evB e).length cC rfl hby (by have := evB_bound e; omega) hnC).mono ?_
    rintro _ V2 ⟨O, rfl, hO, hb2⟩
    obtain rfl : O = bvs (nextH c.hd e) := hO.out.eq
    have hs2 := (hb2.block E (heap_lt hs1)).trans hs1
    have H2 := H1.below hb2
    refine ⟨_, rfl, hK3 _ _ ⟨hs2, ?_⟩⟩
    clear hK3 K3 hm3
    show wpAnyH _ _ _ _ _ _ _ (A3.put (some 77) (.agg (bvs (nextH c.hd e)))) _
    refine tkH (i := 8) (d := 78) (v := .pointer (some ⟨g, 0, none⟩)) rfl rfl (y_nil (by simp [Region.wanted]) (.tmp 70) rfl _ (evn eA370)) hs2 ?_
    refine tkH (i := 9) (d := 79) (v := .pointer (some ⟨g, 67, none⟩)) rfl rfl (y_rf5 (by simp [Region.wanted]) (.tmp 78) rfl g (ev_eq _ _ (by simp [put_sz, szA3]))) hs2 ?_
    refine wpAnyH_all (rs := [10]) (by kernel_rfl) (by simp) fun i4 hm4 => ?_
    obtain rfl : i4 = 10 := by simpa using hm4
    refine wpOp_own rfl rfl fun K4 hK4 => ?_
    refine wp_store_mid 69 (.tmp 79) (.tmp 77) rfl g 67 (bvs (nextH c.hd e)) (ev_eq _ _ (by simp [put_sz, szA3])) (evn (evn (ev_eq _ _ (by simp [szA3])))) (by rw [bvs_size, nextH_length]; exact H2.there lens 67 32 (by omega)) (by rw [bvs_size, nextH_length]; exact size_hash) (bvs_one _) ?_
    rw [show (bvs (nextH c.hd e)).toList = cellsOf (nextH c.hd e) from rfl]
    have hs3 : (V2.setCells g 67 (cellsOf (nextH c.hd e))).heap[E]? = some (.cells (eVals e).toArray 55 (0, 0)) := (other_setCells g E hEg _ _ _).trans hs2
    refine hK4 _ _ ⟨hs3, wpAnyH_done (by kernel_rfl) ⟨rfl, aC, cC, ?_, H2.setHd lens _ (nextH_length _ _), hs3, Out.setCells (P := fun x => x = g) g rfl _ _ _ ((Out.of_below (P := fun x => x = g) hb1).on hb2)⟩ _⟩
    show (((A3.put (some 77) (.agg (bvs (nextH c.hd e)))).put (some 78) (.pointer (some ⟨g, 0, none⟩))).put (some 79) (.pointer (some ⟨g, 67, none⟩))) = _
    rw [hA3]
  · refine wpOp_own rfl rfl fun K2 hK2 => ?_
    refine wp_calls1 81 hf_rbytes (.tmp 75) _ rfl (.agg (eVals e).toArray) (ev_eq _ _ (by simp [put_sz, sz])) ?_
    refine (rBytes_any V0 e hn ht h12 h30).mono ?_
    rintro _ V1 ⟨aC, cC, rfl, hby, hb1, hcC, hnC⟩
    have hs1 := (hb1.block E (heap_lt hs0)).trans hs0
    have H1 := H0.below hb1
    refine ⟨_, rfl, hK2 _ _ ⟨hs1, ?_⟩⟩
    clear hK2 K2
    show wpAnyH _ _ _ _ _ _ _ ((((((A.put (some 70) (.pointer (some ⟨g, 0, none⟩))).put (some 71) (.pointer (some ⟨g, 0, none⟩))).put (some 72) (.pointer (some ⟨g, 0, none⟩))).put (some 73) (.pointer (some ⟨g, 67, none⟩))).put (some 75) (.agg (eVals e).toArray)).put (some 76) (.slice aC (evB e).length cC)) _
    refine wpAnyH_all (rs := [4]) (by kernel_rfl) (by simp) fun i3 hm3 => ?_
    obtain rfl : i3 = 4 := by simpa using hm3
    refine YieldsIf.wpOp rfl (y_loadH (S := fun V => V.rangeAt g 67 (cellsOf c.hd)) (by simp [Region.wanted]) (.tmp 73) rfl g 67 c.hd lens.lh (evn (evn (ev_eq _ _ (by simp [put_sz, sz])))) (fun V hV => hV)) (H1.rh lens) ⟨hs1, ?_⟩
    show wpAnyH _ _ _ _ _ _ _ (((((((A.put (some 70) (.pointer (some ⟨g, 0, none⟩))).put (some 71) (.pointer (some ⟨g, 0, none⟩))).put (some 72) (.pointer (some ⟨g, 0, none⟩))).put (some 73) (.pointer (some ⟨g, 67, none⟩))).put (some 75) (.agg (eVals e).toArray)).put (some 76) (.slice aC (evB e).length cC)).put (some 74) (.agg (bvs c.hd))) _
    obtain ⟨A3, hA3⟩ : ∃ A3, A3 = (((((((A.put (some 70) (.pointer (some ⟨g, 0, none⟩))).put (some 71) (.pointer (some ⟨g, 0, none⟩))).put (some 72) (.pointer (some ⟨g, 0, none⟩))).put (some 73) (.pointer (some ⟨g, 67, none⟩))).put (some 75) (.agg (eVals e).toArray)).put (some 76) (.slice aC (evB e).length cC)).put (some 74) (.agg (bvs c.hd))) := ⟨_, rfl⟩
    have szA3 : A3.tmps.size = 85 := by rw [hA3]; simp [put_sz, sz]
    have eA370 : A3.eval (.tmp 70) = .pointer (some ⟨g, 0, none⟩) := by rw [hA3]; exact (evn (evn (evn (evn (evn (evn (ev_eq _ _ (by simp [sz]))))))))
    have eA374 : A3.eval (.tmp 74) = .agg (bvs c.hd) := by rw [hA3]; exact (ev_eq _ _ (by simp [put_sz, sz]))
    have eA376 : A3.eval (.tmp 76) = .slice aC (evB e).length cC := by rw [hA3]; exact (evn (ev_eq _ _ (by simp [put_sz, sz])))
    rw [← hA3]
    refine wpAnyH_all (rs := [7]) (by kernel_rfl) (by simp) fun i4 hm4 => ?_
    obtain rfl : i4 = 7 := by simpa using hm4
    refine wpOp_own rfl rfl fun K4 hK4 => ?_
    refine wp_calls2 80 hf_rchain (.tmp 74) (.tmp 76) _ rfl (.agg (bvs c.hd)) (.slice aC (evB e).length cC) eA374 eA376 ?_
    refine (refChain_any (w := V1) (h := c.hd) (H := bvs c.hd) ⟨rfl, lens.lh⟩ (evB e) aC (evB e).length cC rfl hby (by have := evB_bound e; omega) hnC).mono ?_
    rintro _ V2 ⟨O, rfl, hO, hb2⟩
    obtain rfl : O = bvs (nextH c.hd e) := hO.out.eq
    have hs2 := (hb2.block E (heap_lt hs1)).trans hs1
    have H2 := H1.below hb2
    refine ⟨_, rfl, hK4 _ _ ⟨hs2, ?_⟩⟩
    clear hK4 K4 hm4
    show wpAnyH _ _ _ _ _ _ _ (A3.put (some 77) (.agg (bvs (nextH c.hd e)))) _
    refine tkH (i := 8) (d := 78) (v := .pointer (some ⟨g, 0, none⟩)) rfl rfl (y_nil (by simp [Region.wanted]) (.tmp 70) rfl _ (evn eA370)) hs2 ?_
    refine tkH (i := 9) (d := 79) (v := .pointer (some ⟨g, 67, none⟩)) rfl rfl (y_rf5 (by simp [Region.wanted]) (.tmp 78) rfl g (ev_eq _ _ (by simp [put_sz, szA3]))) hs2 ?_
    refine wpAnyH_all (rs := [10]) (by kernel_rfl) (by simp) fun i5 hm5 => ?_
    obtain rfl : i5 = 10 := by simpa using hm5
    refine wpOp_own rfl rfl fun K5 hK5 => ?_
    refine wp_store_mid 69 (.tmp 79) (.tmp 77) rfl g 67 (bvs (nextH c.hd e)) (ev_eq _ _ (by simp [put_sz, szA3])) (evn (evn (ev_eq _ _ (by simp [szA3])))) (by rw [bvs_size, nextH_length]; exact H2.there lens 67 32 (by omega)) (by rw [bvs_size, nextH_length]; exact size_hash) (bvs_one _) ?_
    rw [show (bvs (nextH c.hd e)).toList = cellsOf (nextH c.hd e) from rfl]
    have hs3 : (V2.setCells g 67 (cellsOf (nextH c.hd e))).heap[E]? = some (.cells (eVals e).toArray 55 (0, 0)) := (other_setCells g E hEg _ _ _).trans hs2
    refine hK5 _ _ ⟨hs3, wpAnyH_done (by kernel_rfl) ⟨rfl, aC, cC, ?_, H2.setHd lens _ (nextH_length _ _), hs3, Out.setCells (P := fun x => x = g) g rfl _ _ _ ((Out.of_below (P := fun x => x = g) hb1).on hb2)⟩ _⟩
    show (((A3.put (some 77) (.agg (bvs (nextH c.hd e)))).put (some 78) (.pointer (some ⟨g, 0, none⟩))).put (some 79) (.pointer (some ⟨g, 67, none⟩))) = _
    rw [hA3, put_swap (d := 76) (e := 74) _ (by decide)]
theorem app_ev1 (w : World) {ops : Array Oper} {rest : List Oper} {o : Oper} {a : Act} {Q : Exit → Act → World → Prop} (hgd : o.guard = none) (s x : Operand) (ho : o.op = .call { callee := .builtin .append, args := #[s, x], argTypes := #[63, 63] })
    (B : Nat) (v : Value) (l : List Ev) (hs : a.eval s = v) (hown : w.ownsRow B 55 4 v l.length (eCells l)) (e : Ev) (b : Nat) (hx : a.eval x = .slice (some ⟨b, 0, none⟩) 1 1) (hr : w.rangeAt b 0 (eVals e)) (hl : l.length ≤ 1000) (hB : B ≤ w.heap.size)
    (h : ∀ k cap w', w'.ownsRow B 55 4 (.slice (some ⟨k, 0, none⟩) (l ++ [e]).length cap) (l ++ [e]).length (eCells (l ++ [e])) → w.grownBy w' v.ownBlock → (v.ownBlock = some k ∨ k = w.heap.size) → wpList Tryd.prog ops Q rest (a.put o.dst (.slice (some ⟨k, 0, none⟩) (l ++ [e]).length cap)) w') : wpList Tryd.prog ops Q (o :: rest) a w :=
  wpList_plain hgd fun K hK => wp_appE w s x ho B v l hs hown e b hx hr hl hB (fun k cap w' h1 h2 h3 => hK _ _ (h k cap w' h1 h2 h3))
theorem build_ev1 (w : World) {ops : Array Oper} {rest : List Oper} {o : Oper} {a : Act} {Q : Exit → Act → World → Prop} (hgd : o.guard = none) (x : Operand) (ho : o.op = .buildSlice 63 1 #[(0, x)]) (e : Ev) (h0 : a.eval x = .agg (eVals e).toArray)
    (h : wpList Tryd.prog ops Q rest (a.put o.dst (.slice (some ⟨w.heap.size, 0, none⟩) 1 1)) (w.alloc (.cells (eVals e).toArray 55))) : wpList Tryd.prog ops Q (o :: rest) a w :=
  wpList_plain hgd fun K hK => wp_buildE x ho e h0 (hK _ _ h)
end Go.Proofs.YthfmpebgmojcaaaDoor
/- The reference's Add, by a contract. -/
namespace Go.Proofs.YthfmpebgmojcaaaDoor
open Go.RowKit
set_option linter.unusedVariables false
set_option maxRecDepth 20000
set_option maxHeartbeats 4000000 in
theorem rAdd_err {w : World} {B g : Nat} {v : Value} {c : Ch} (h : RAt w B g v c) (ok : Lens c) (t : Int) (what who : ByteArray) (h1 : what.size ≤ 9223372036854775807) (h2 : who.size ≤ 9223372036854775807) (hlen : c.ev.length ≤ 1000) (he : addE c t what who ≠ 0) :
    Calls Tryd.prog 45 #[.pointer (some ⟨g, 0, none⟩), .int .i64 t, .string what, .string who] w fun x w' => x = .returned (.tuple #[.agg (eVals ev0).toArray, .int .i64 (addE c t what who)]) ∧ Below w.heap.size w w' := by
  have b0 : Below w.heap.size w (w.alloc (.cells #[.int .i64 0, .int .i64 0, .string ⟨#[]⟩, .string ⟨#[]⟩] 55)) := (Below.refl _ w).alloc (Nat.le_refl _) _
  have R0 : Hid ((w.alloc (.cells #[.int .i64 0, .int .i64 0, .string ⟨#[]⟩, .string ⟨#[]⟩] 55)).heap[w.heap.size]? = some (.cells (eVals ev0).toArray 55 (0, 0))) := heap_alloc_new w _
  have H0 := h.below b0
  obtain ⟨a0, cap, rfl⟩ := h.val
  have c2 := H0.c2
  have c99 := H0.c99 ok
  have B0 := hid b0
  unfold addE at he ⊢
  clear h H0 ok b0
  generalize c.ev.length = n at *
  generalize c.la = la at *
  by_cases e1 : t < 0 ∨ 1099511627776 < t
  · rw [if_pos e1]
    clear he
    by_cases e0 : t < 0
    · have d0 : decide (t < 0) = true := by simpa using e0
      go_enter Tryd.func45, Tryd.ntmps45
      go_wp2_with (first
        | (with_reducible show Go.wpList _ _ _ _ _ _; refine wpList_build_none rfl 55 rfl (eVals ev0).toArray built_ev ?_)
        | (with_reducible show Go.wpList _ _ _ _ _ _; refine wpList_store_row rfl 55 _ _ rfl w.heap.size (eVals ev0).toArray rfl rfl 55 (eVals ev0).toArray R0.out (size_evs ev0) (ev_sizes ev0 ev0) (ev_one ev0) ?_))
      all_goals
        refine bodyPost_ret (results_row_tmp rfl _ _ w.heap.size 55 (eVals ev0).toArray (0, 0) _ rfl (setRow_heap _ _ _ _ _ _ R0.out) Tryd.underlying55 rfl size_ev) rfl ?_
        exact ⟨rfl, B0.out.setRow (Nat.le_refl _) _⟩
    · have d0 : decide (t < 0) = false := by simpa using e0
      have e3 : 1099511627776 < t := by omega
      have d1 : decide (1099511627776 < t) = true := by simpa using e3
      go_enter Tryd.func45, Tryd.ntmps45
      go_wp2_with (first
        | (with_reducible show Go.wpList _ _ _ _ _ _; refine wpList_build_none rfl 55 rfl (eVals ev0).toArray built_ev ?_)
        | (with_reducible show Go.wpList _ _ _ _ _ _; refine wpList_store_row rfl 55 _ _ rfl w.heap.size (eVals ev0).toArray rfl rfl 55 (eVals ev0).toArray R0.out (size_evs ev0) (ev_sizes ev0 ev0) (ev_one ev0) ?_))
      all_goals
        refine bodyPost_ret (results_row_tmp rfl _ _ w.heap.size 55 (eVals ev0).toArray (0, 0) _ rfl (setRow_heap _ _ _ _ _ _ R0.out) Tryd.underlying55 rfl size_ev) rfl ?_
        exact ⟨rfl, B0.out.setRow (Nat.le_refl _) _⟩
  · rw [if_neg e1] at he ⊢
    have d0 : decide (t < 0) = false := by simp; omega
    have d1 : decide (1099511627776 < t) = false := by simp; omega
    have n0 : ¬ t < 0 := by omega
    have n1 : ¬ 1099511627776 < t := by omega
    by_cases e2 : 12 < what.size ∨ 30 < who.size
    · rw [if_pos e2]
      clear he
      by_cases e0 : 12 < what.size
      · have z0 : (12 : Int) < (what.size : Int) := by omega
        have z1 : decide ((12 : Int) < (what.size : Int)) = true := by simpa using z0
        go_enter Tryd.func45, Tryd.ntmps45
        go_wp2_with (first
          | (with_reducible show Go.wpList _ _ _ _ _ _; refine wpList_build_none rfl 55 rfl (eVals ev0).toArray built_ev ?_)
          | (with_reducible show Go.wpList _ _ _ _ _ _; refine wpList_store_row rfl 55 _ _ rfl w.heap.size (eVals ev0).toArray rfl rfl 55 (eVals ev0).toArray R0.out (size_evs ev0) (ev_sizes ev0 ev0) (ev_one ev0) ?_))
        all_goals
          refine bodyPost_ret (results_row_tmp rfl _ _ w.heap.size 55 (eVals ev0).toArray (0, 0) _ rfl (setRow_heap _ _ _ _ _ _ R0.out) Tryd.underlying55 rfl size_ev) rfl ?_
          exact ⟨rfl, B0.out.setRow (Nat.le_refl _) _⟩
      · have z0 : ¬ (12 : Int) < (what.size : Int) := by omega
        have z1 : decide ((12 : Int) < (what.size : Int)) = false := by simpa using z0
        have z2 : (30 : Int) < (who.size : Int) := by omega
        have z3 : decide ((30 : Int) < (who.size : Int)) = true := by simpa using z2
        go_enter Tryd.func45, Tryd.ntmps45
        go_wp2_with (first
          | (with_reducible show Go.wpList _ _ _ _ _ _; refine wpList_build_none rfl 55 rfl (eVals ev0).toArray built_ev ?_)
          | (with_reducible show Go.wpList _ _ _ _ _ _; refine wpList_store_row rfl 55 _ _ rfl w.heap.size (eVals ev0).toArray rfl rfl 55 (eVals ev0).toArray R0.out (size_evs ev0) (ev_sizes ev0 ev0) (ev_one ev0) ?_))
        all_goals
          refine bodyPost_ret (results_row_tmp rfl _ _ w.heap.size 55 (eVals ev0).toArray (0, 0) _ rfl (setRow_heap _ _ _ _ _ _ R0.out) Tryd.underlying55 rfl size_ev) rfl ?_
          exact ⟨rfl, B0.out.setRow (Nat.le_refl _) _⟩
    · rw [if_neg e2] at he ⊢
      have z0 : ¬ (12 : Int) < (what.size : Int) := by omega
      have z1 : decide ((12 : Int) < (what.size : Int)) = false := by simpa using z0
      have z2 : ¬ (30 : Int) < (who.size : Int) := by omega
      have z3 : decide ((30 : Int) < (who.size : Int)) = false := by simpa using z2
      clear e2
      by_cases e3 : t < (la : Int)
      · rw [if_pos e3]
        clear he
        go_enter Tryd.func45, Tryd.ntmps45
        go_wp2_with (first
          | (with_reducible show Go.wpList _ _ _ _ _ _; refine wpList_build_none rfl 55 rfl (eVals ev0).toArray built_ev ?_)
          | (with_reducible show Go.wpList _ _ _ _ _ _; refine wpList_store_row rfl 55 _ _ rfl w.heap.size (eVals ev0).toArray rfl rfl 55 (eVals ev0).toArray R0.out (size_evs ev0) (ev_sizes ev0 ev0) (ev_one ev0) ?_))
        all_goals
          refine bodyPost_ret (results_row_tmp rfl _ _ w.heap.size 55 (eVals ev0).toArray (0, 0) _ rfl (setRow_heap _ _ _ _ _ _ R0.out) Tryd.underlying55 rfl size_ev) rfl ?_
          exact ⟨rfl, B0.out.setRow (Nat.le_refl _) _⟩
      · rw [if_neg e3] at he ⊢
        by_cases e4 : 64 ≤ n
        · rw [if_pos e4]
          have d4 : (64 : Int) ≤ (n : Int) := by omega
          clear he
          go_enter Tryd.func45, Tryd.ntmps45
          go_wp2_with (first
            | (with_reducible show Go.wpList _ _ _ _ _ _; refine wpList_build_none rfl 55 rfl (eVals ev0).toArray built_ev ?_)
            | (with_reducible show Go.wpList _ _ _ _ _ _; refine wpList_store_row rfl 55 _ _ rfl w.heap.size (eVals ev0).toArray rfl rfl 55 (eVals ev0).toArray R0.out (size_evs ev0) (ev_sizes ev0 ev0) (ev_one ev0) ?_))
          all_goals
            refine bodyPost_ret (results_row_tmp rfl _ _ w.heap.size 55 (eVals ev0).toArray (0, 0) _ rfl (setRow_heap _ _ _ _ _ _ R0.out) Tryd.underlying55 rfl size_ev) rfl ?_
            exact ⟨rfl, B0.out.setRow (Nat.le_refl _) _⟩
        · rw [if_neg e4] at he
          exact absurd rfl he
end Go.Proofs.YthfmpebgmojcaaaDoor
/- The reference's Add, by a contract. -/
namespace Go.Proofs.YthfmpebgmojcaaaDoor
open Go.RowKit
set_option linter.unusedVariables false
set_option maxRecDepth 20000
def RAddOk (w : World) (B g : Nat) (c : Ch) (t : Int) (what who : ByteArray) (x : Ending) (w' : World) : Prop :=
  ∃ v', x = .returned (.tuple #[.agg (eVals (newE c t what who)).toArray, .int .i64 0]) ∧ RAt w' B g v' (addC c t what who) ∧ Out (fun j => j = g) w w' ∧ ∀ j, v'.ownBlock = some j → w.heap.size ≤ j
theorem own_src {w : World} {B n cap : Nat} {a0 : Option Addr} {l : List Ev} (h : w.ownsRow B 55 4 (.slice a0 n cap) l.length (eCells l)) : (a0 = none ∧ l = [] ∧ cap = 0) ∨ ∃ p, a0 = some p ∧ ∀ j u, (eCells l)[j]? = some u → w.cell? (p.add j) = some u := by
  rcases h.2 with ⟨h0, h1⟩ | ⟨b, cap', cur, hv, _, hg, _, _, _, ht⟩
  · injection h0 with e1 e2 e3
    exact .inl ⟨e1, List.eq_nil_of_length_eq_zero h1, e3⟩
  · cases hv
    refine .inr ⟨_, rfl, fun j u hj => ?_⟩
    have hj' : j < l.length * 4 := by
      have := (List.getElem?_eq_some_iff.1 hj).1
      rwa [eCells_length] at this
    rw [addr_add, cell_of_row _ _ _ _ _ _ hg, ← Array.getElem?_toList, Nat.zero_add]
    rw [← ht, List.getElem?_take_of_lt (by omega)] at hj
    exact hj
set_option maxHeartbeats 4000000 in
theorem rAdd_ok {w : World} {B g : Nat} {v : Value} {c : Ch} (h : RAt w B g v c) (ok : ChOk c) (hc : c.cnt < 1152921504606846976) (hB : B ≤ w.heap.size) (t : Int) (what who : ByteArray) (he : addE c t what who = 0) :
    Calls Tryd.prog 45 #[.pointer (some ⟨g, 0, none⟩), .int .i64 t, .string what, .string who] w (RAddOk w B g c t what who) := by
  obtain ⟨W0, hW0⟩ : ∃ W0, W0 = w.alloc (.cells #[.int .i64 0, .int .i64 0, .string ⟨#[]⟩, .string ⟨#[]⟩] 55) := ⟨_, rfl⟩
  have b0 : Below w.heap.size w W0 := by rw [hW0]; exact (Below.refl _ w).alloc (Nat.le_refl _) _
  have r0 : W0.heap[w.heap.size]? = some (.cells (eVals ev0).toArray 55 (0, 0)) := by rw [hW0]; exact heap_alloc_new w _
  have H0 := h.below b0
  obtain ⟨t1, t2, t3, t4, t5, t6⟩ := addE_zero he
  obtain ⟨tn, rfl⟩ : ∃ tn : Nat, t = (tn : Int) := ⟨t.toNat, by omega⟩
  have HC := hid (rCount_any H0 ok hc)
  have en : Hid (newE c (tn : Int) what who = ⟨c.cnt + 1, tn, what, who⟩) := rfl
  have hac : Hid (addC c (tn : Int) what who = { c with ev := c.ev ++ [newE c (tn : Int) what who], hd := nextH c.hd (newE c (tn : Int) what who), la := tn }) := rfl
  obtain ⟨a0, cap, rfl⟩ := h.val
  have hlts := hid h.lts
  have hgl := hid h.lt
  have H0' := hid H0
  have OK := hid ok
  have HB0 := hid b0
  have HW := hid hW0
  have R0 := hid r0
  have c2 := H0.c2
  have c99 := H0.c99 ok.l
  rw [hW0] at c2 c99
  obtain ⟨m, hm⟩ : ∃ m, m = c.cnt := ⟨_, rfl⟩
  have Hm := hid hm
  rw [← hm] at HC hc
  have hfew := ok.few
  obtain ⟨la, hla⟩ : ∃ la, la = c.la := ⟨_, rfl⟩
  rw [← hla] at c2 t5
  have d0 : decide ((tn : Int) < 0) = false := by simp
  have d1 : decide (1099511627776 < (tn : Int)) = false := by simp; omega
  have n0 : ¬ (tn : Int) < 0 := by omega
  have n1 : ¬ 1099511627776 < (tn : Int) := by omega
  have z0 : ¬ (12 : Int) < (what.size : Int) := by omega
  have z1 : decide ((12 : Int) < (what.size : Int)) = false := by simpa using z0
  have z2 : ¬ (30 : Int) < (who.size : Int) := by omega
  have z3 : decide ((30 : Int) < (who.size : Int)) = false := by simpa using z2
  have e3 : ¬ (tn : Int) < (la : Int) := by omega
  obtain ⟨n, hn⟩ : ∃ n, n = c.ev.length := ⟨_, rfl⟩
  have Hn := hid hn
  rw [← hn] at c99 t6 hfew
  have d4 : ¬ (64 : Int) ≤ (n : Int) := by omega
  have lens := hid ok.l
  have T3 := hid t3
  have T4 := hid t4
  clear h ok hW0 hm he t5 H0 b0 r0 hla hn t3 t4
  obtain ⟨e, hee⟩ : ∃ e, e = newE c (tn : Int) what who := ⟨_, rfl⟩
  have hev : Hid ((#[.int .i64 ((m : Int) + 1), .int .i64 (tn : Int), .string what, .string who] : Array Value) = (eVals e).toArray) := by
    show _ = _
    rw [hee, en.out, ← Hm.out]
    simp [eVals]
  have he1 : Hid (e.num = m + 1) := by show _ = _; rw [hee, en.out, ← Hm.out]
  have he2 : Hid (e.tim = tn) := by show _ = _; rw [hee, en.out]
  have he3 : Hid (e.what = what) := by show _ = _; rw [hee, en.out]
  have he4 : Hid (e.who = who) := by show _ = _; rw [hee, en.out]
  rw [← hee] at hac
  have HEE := hid hee
  obtain ⟨D, hD⟩ : ∃ D, D = c.ev ++ [e] := ⟨_, rfl⟩
  have HD := hid hD
  have hbig : Hid (c.ev.length ≤ 1000) := by show _ ≤ _; have := Hn.out; omega
  clear hee en hD
  go_enter Tryd.func45, Tryd.ntmps45
  go_wp2_with (first
    | (go_at_call 52; rw [show w.alloc (.cells #[.int .i64 0, .int .i64 0, .string ⟨#[]⟩, .string ⟨#[]⟩] 55) = W0 from HW.out.symm]; refine HC.out.mono ?_; rintro x w1 ⟨rfl, hb1⟩; have hb5 : Below w1.heap.size w1 (w1.alloc (.cells #[.int .i64 ((m : Int) + 1), .int .i64 (tn : Int), .string what, .string who] 55)) := (Below.refl _ w1).alloc (Nat.le_refl _) _; have h5 := (H0'.out.below hb1).below hb5; have c5 := h5.c99 lens.out; rw [← Hn.out] at c5; have s5 : Hid ((w1.alloc (.cells #[.int .i64 ((m : Int) + 1), .int .i64 (tn : Int), .string what, .string who] 55)).heap[w1.heap.size]? = some (.cells (eVals e).toArray 55 (0, 0))) := (by show _ = _; rw [← hev.out]; exact heap_alloc_new w1 _); have Hb1 := hid hb1; have Hb5 := hid hb5; have H5 := hid h5; clear hb1 hb5 h5)
    | (at_builtin; refine app_evsG _ rfl (.tmp 57) (.tmp 61) rfl _ _ rfl (World.ownsRow_nil _ _ _ _) a0 n cap c.ev Hn.out rfl (own_src H5.out.row) hbig.out (Nat.le_refl _) ?_; intro v1 W6 hown6 hb6; obtain ⟨a1, c1, rfl⟩ := own_val hown6; have Hown6 := hid hown6; have Hb6 := hid hb6; have s6 := hid ((hb6.block _ (heap_lt s5.out)).trans s5.out); clear hown6 hb6)
    | (with_reducible show Go.wpList _ _ _ _ _ _; refine wpList_load_row rfl 55 (.tmp 10) rfl w1.heap.size rfl _ _ _ _ s6.out Tryd.underlying55 rfl (size_evs e) ?_)
    | (with_reducible show Go.wpList _ _ _ _ _ _; refine build_ev1 _ rfl (.tmp 65) rfl e rfl ?_)
    | (at_builtin; refine app_ev1 _ rfl (.tmp 64) (.tmp 66) rfl _ _ c.ev rfl (Hown6.out.alloc _) e _ rfl (range_new W6 e) hbig.out (Nat.le_trans Hb6.out.size (by simp)) ?_; intro k cp W8 hown8 hg8 hk8; rw [← HD.out]; rw [← HD.out] at hown8; have b8 := (Hb6.out.alloc Hb6.out.size (.cells (eVals e).toArray 55)).grown hg8 (Nat.le_trans Hb6.out.size (by simp)) (fun j ej => (Hown6.out.lt j ej).1); have h8 := H5.out.below b8; have k99 := h8.c99 lens.out; have f99 := h8.fz 99; have B8 := hid b8; have H8 := hid h8; have Hown8 := hid hown8; clear b8 h8 hown8 hg8 hk8))
  have sz1 : w.heap.size + 1 ≤ w1.heap.size := Nat.lt_of_lt_of_le (heap_lt R0.out) Hb1.out.size
  have hg1 := hgl.out
  have hE : w1.heap.size ≠ g := by omega
  have hN : w.heap.size ≠ g := by omega
  have sz5 : w1.heap.size ≤ (w1.alloc (.cells #[.int .i64 ((m : Int) + 1), .int .i64 (tn : Int), .string what, .string who] 55)).heap.size := Hb5.out.size
  have bw5 : Below w.heap.size w (w1.alloc (.cells #[.int .i64 ((m : Int) + 1), .int .i64 (tn : Int), .string what, .string who] 55)) := Below.on' (Below.on' HB0.out Hb1.out) Hb5.out
  have s8 := (B8.out.block _ (heap_lt s5.out)).trans s5.out
  have r5 : (w1.alloc (.cells #[.int .i64 ((m : Int) + 1), .int .i64 (tn : Int), .string what, .string who] 55)).heap[w.heap.size]? = some (.cells (eVals ev0).toArray 55 (0, 0)) := by
    rw [Hb5.out.block _ (by omega), Hb1.out.block _ (heap_lt R0.out)]
    exact R0.out
  have r8 := (B8.out.block _ (heap_lt r5)).trans r5
  have h9 := H8.out.setV lens.out _ D (own_monoB Hown8.out (Nat.le_trans hB bw5.size)) (fun j hj => by have := (Hown8.out.lt j hj).1; omega)
  have hnew : Hid (∀ j, (Value.slice (some ⟨k, 0, none⟩) D.length cp).ownBlock = some j → w1.heap.size < j) := fun j hj => by
    have := (Hown8.out.lt j hj).1
    have h0 := heap_lt s5.out
    omega
  have o9 : Out (fun j => j = g) w (W8.setCell ⟨g, 99, none⟩ (.slice (some ⟨k, 0, none⟩) D.length cp)) := Out.setCell (P := fun j => j = g) (Out.of_below (Below.on' bw5 B8.out)) ⟨g, 99, none⟩ _ rfl
  have s9 : (W8.setCell ⟨g, 99, none⟩ (.slice (some ⟨k, 0, none⟩) D.length cp)).heap[w1.heap.size]? = some (.cells (eVals e).toArray 55 (0, 0)) := (heap_setCell_other _ _ _ _ hE).trans s8
  have r9 : (W8.setCell ⟨g, 99, none⟩ (.slice (some ⟨k, 0, none⟩) D.length cp)).heap[w.heap.size]? = some (.cells (eVals ev0).toArray 55 (0, 0)) := (heap_setCell_other _ _ _ _ hN).trans r8
  obtain ⟨W9, hW9⟩ : ∃ W9, W9 = W8.setCell ⟨g, 99, none⟩ (.slice (some ⟨k, 0, none⟩) D.length cp) := ⟨_, rfl⟩
  rw [← hW9] at h9 o9 s9 r9 ⊢
  obtain ⟨V0, hV0⟩ : ∃ V0, V0 = W9.drew := ⟨_, rfl⟩
  have b9 : Below W9.heap.size W9 V0 := by rw [hV0]; exact (Below.refl _ W9).drew
  have lens9 : Lens { c with ev := D } := ⟨lens.out.lb, lens.out.lan, lens.out.lh⟩
  refine wp_act _ fun A hA => ?_
  have sz : A.tmps.size = 85 := by rw [hA]; rfl
  have e0 : A.eval (.tmp 0) = .pointer (some ⟨g, 0, none⟩) := by rw [hA]; rfl
  have e10 : A.eval (.tmp 10) = .pointer (some ⟨w1.heap.size, 0, none⟩) := by rw [hA]; rfl
  refine wp_split _ (rAdd_region sz e0 e10 hV0 (h9.below b9) lens9 ((b9.block _ (heap_lt s9)).trans s9) (by have := he1.out; omega) (by have := he2.out; omega) (by rw [he3.out]; exact T3.out) (by rw [he4.out]; exact T4.out) (by omega)) ?_
  rintro _ V1 ⟨aC, cC, rfl, h10, s10, o10⟩
  rw [hA]
  simp only [Act.put, List.setIfInBounds_toArray, List.set_cons_succ, List.set_cons_zero]
  clear sz e0 e10 hA A
  have r10 : V1.heap[w.heap.size]? = some (.cells (eVals ev0).toArray 55 (0, 0)) := (o10.block _ (Nat.lt_of_lt_of_le (heap_lt r9) b9.size) (by omega)).trans ((b9.block _ (heap_lt r9)).trans r9)
  have oV : Out (fun j => j = g) w V1 := (o9.on b9).trans o10 (fun _ _ x => x)
  have q2 := h10.c2
  have f2 := h10.fz 2
  have h11 := h10.setLa tn
  have o11 := oV.setCell ⟨g, 2, none⟩ (.int .i64 (tn : Int)) rfl
  have s11 : (V1.setCell ⟨g, 2, none⟩ (.int .i64 (tn : Int))).heap[w1.heap.size]? = some (.cells (eVals e).toArray 55 (0, 0)) := (heap_setCell_other _ _ _ _ hE).trans s10
  have r11 : (V1.setCell ⟨g, 2, none⟩ (.int .i64 (tn : Int))).heap[w.heap.size]? = some (.cells (eVals ev0).toArray 55 (0, 0)) := (heap_setCell_other _ _ _ _ hN).trans r10
  have H11 := hid h11
  have O11 := hid o11
  have S11 := hid s11
  have R11 := hid r11
  clear h10 s10 o10 r10 oV h11 o11 s11 r11 lens9 b9 hV0 h9 o9 s9 r9 hW9 s8 r8 r5 bw5 k99 f99 c5 c99 c2 d0 d1 n0 n1 z0 z1 z2 z3 e3 d4
  clear HC B8 H8 Hown8 Hown6 Hb6 H5 Hb5 s5 s6 H0'
  go_wp2_with (first
    | (with_reducible show Go.wpList _ _ _ _ _ _; refine wpList_load_row rfl 55 (.tmp 10) rfl w1.heap.size rfl _ _ _ _ S11.out Tryd.underlying55 rfl (size_evs e) ?_)
    | (with_reducible show Go.wpList _ _ _ _ _ _; refine wpList_store_row rfl 55 _ _ rfl w.heap.size (eVals e).toArray rfl rfl 55 (eVals ev0).toArray R11.out (size_evs e) (ev_sizes ev0 e) (ev_one e) ?_))
  refine bodyPost_ret (results_row_tmp rfl _ _ w.heap.size 55 (eVals e).toArray (0, 0) _ rfl (setRow_heap _ _ _ _ _ _ R11.out) Tryd.underlying55 rfl size_ev) rfl ?_
  refine ⟨.slice (some ⟨k, 0, none⟩) D.length cp, by rw [← HEE.out]; rfl, ?_, ?_, fun j hj => by have := hnew.out j hj; omega⟩
  · rw [hac.out, ← HD.out]
    exact H11.out.keep (setRow_other _ _ _ _ (by omega)) (fun j hj => setRow_other _ _ _ _ (by have := hnew.out j hj; omega))
  · have o := O11.out
    exact ⟨o.os, o.tape, o.output, by rw [size_setRow]; exact o.size, fun j hj hp => (setRow_other _ _ _ _ (by omega)).trans (o.block j hj hp)⟩
def RAddPost (w : World) (B g : Nat) (v : Value) (c : Ch) (t : Int) (what who : ByteArray) (x : Ending) (w' : World) : Prop :=
  ∃ v', x = .returned (.tuple #[.agg (eVals (addEv c t what who)).toArray, .int .i64 (addE c t what who)]) ∧ RAt w' B g v' (addR c t what who) ∧ Out (fun j => j = g) w w' ∧ Grew w v v'
theorem rAdd_any {w : World} {B g : Nat} {v : Value} {c : Ch} (h : RAt w B g v c) (ok : ChOk c) (hc : c.cnt < 1152921504606846976) (hB : B ≤ w.heap.size) (t : Int) (what who : ByteArray) (h1 : what.size ≤ 9223372036854775807) (h2 : who.size ≤ 9223372036854775807) :
    Calls Tryd.prog 45 #[.pointer (some ⟨g, 0, none⟩), .int .i64 t, .string what, .string who] w (RAddPost w B g v c t what who) := by
  by_cases he : addE c t what who = 0
  · refine (rAdd_ok h ok hc hB t what who he).mono ?_
    rintro x w' ⟨v', rfl, q1, q2, q3⟩
    unfold RAddPost addEv addR
    rw [if_pos he, if_pos he, he]
    exact ⟨v', rfl, q1, q2, fun j hj => .inr (q3 j hj)⟩
  · refine (rAdd_err h ok.l t what who h1 h2 (by have := ok.few; omega) he).mono ?_
    rintro x w' ⟨rfl, hb⟩
    unfold RAddPost addEv addR
    rw [if_neg he, if_neg he]
    exact ⟨v, rfl, h.below hb, Out.of_below hb, fun j hj => .inl hj⟩
end Go.Proofs.YthfmpebgmojcaaaDoor
/- Forks of both chains; the reference's Head, Anchored and Events. -/
namespace Go.Proofs.YthfmpebgmojcaaaDoor
open Go.RowKit
set_option linter.unusedVariables false
set_option maxRecDepth 20000
end Go.Proofs.YthfmpebgmojcaaaDoor
/- The reference's Head, Anchored and Events. (Printed by gen/zhead.py.) -/
namespace Go.Proofs.YthfmpebgmojcaaaDoor
open Go.RowKit
set_option linter.unusedVariables false
set_option maxRecDepth 20000
noncomputable def codeRAnd : Code := ((Tryd.f50.body.bind (regionAt 3)).getD .skip)
set_option maxHeartbeats 2000000 in
theorem rAnchored_region {V0 W5 : World} {B g R : Nat} {v : Value} {c : Ch} {Z : Array Value} {A : Act} (sz : A.tmps.size = 15) (e0 : A.eval (.tmp 0) = .pointer (some ⟨g, 0, none⟩)) (e3 : A.eval (.tmp 3) = .pointer (some ⟨R, 0, none⟩))
    (hV0 : V0 = W5.drew) (H0 : RAt V0 B g v c) (lens : Lens c) (hZ : HV Z zero32) (r0 : V0.heap[R]? = some (.cells Z 69 (0, 0))) :
    codeRAnd.wp Tryd.prog (fun x a V => x = .normal ∧ a = (((((((((A.put (some 7) (.pointer (some ⟨g, 0, none⟩))).put (some 8) (.pointer (some ⟨g, 0, none⟩))).put (some 9) (.pointer (some ⟨g, 1, none⟩))).put (some 10) (.int .i64 (c.an : Int))).put (some 11) (.pointer (some ⟨g, 0, none⟩))).put (some 12) (.pointer (some ⟨g, 0, none⟩))).put (some 13) (.pointer (some ⟨g, 35, none⟩))).put (some 14) (.agg (bvs c.ah))).put (some 2) (.int .i64 (c.an : Int))) ∧ V = V0.setRow R (bvs c.ah)) A W5 := by
  have hm : Tryd.prog.follows .mixedOrders = true := by kernel_rfl
  have hgR : g ≠ R := fun x => by
    rw [← x, H0.obj] at r0
    injection r0 with r0
    injection r0 with _ r0
    exact absurd r0 (by decide)
  unfold codeRAnd
  conv => arg 2; whnf
  refine wp_region_held (S := fun V => V.cell? ⟨g, 1, none⟩ = some (.int .i64 (c.an : Int)) ∧ V.rangeAt g 35 (cellsOf c.ah)) hm ?_
  rw [show ({ W5 with drawn := W5.drawn + 1 } : World) = V0 from hV0.symm]
  have hs0 : V0.cell? ⟨g, 1, none⟩ = some (.int .i64 (c.an : Int)) ∧ V0.rangeAt g 35 (cellsOf c.ah) := ⟨H0.c1, H0.ra lens⟩
  refine tkH (i := 0) (d := 7) (v := .pointer (some ⟨g, 0, none⟩)) rfl rfl (yields_move (by simp [Region.wanted]) (.tmp 0) rfl _ e0) hs0 ?_
  refine tkH (i := 1) (d := 8) (v := .pointer (some ⟨g, 0, none⟩)) rfl rfl (y_nil (by simp [Region.wanted]) (.tmp 7) rfl _ (ev_eq _ _ (by simp [sz]))) hs0 ?_
  refine tkH (i := 2) (d := 9) (v := .pointer (some ⟨g, 1, none⟩)) rfl rfl (y_rf1 (by simp [Region.wanted]) (.tmp 8) rfl g (ev_eq _ _ (by simp [put_sz, sz]))) hs0 ?_
  refine tkH (i := 3) (d := 10) (v := .int .i64 (c.an : Int)) rfl rfl (y_loadI (by simp [Region.wanted]) (.tmp 9) rfl g 1 _ (ev_eq _ _ (by simp [put_sz, sz])) (fun V hV => hV.1)) hs0 ?_
  refine tkH (i := 4) (d := 11) (v := .pointer (some ⟨g, 0, none⟩)) rfl rfl (yields_move (by simp [Region.wanted]) (.tmp 0) rfl _ (evn (evn (evn (evn e0))))) hs0 ?_
  refine tkH (i := 5) (d := 12) (v := .pointer (some ⟨g, 0, none⟩)) rfl rfl (y_nil (by simp [Region.wanted]) (.tmp 11) rfl _ (ev_eq _ _ (by simp [put_sz, sz]))) hs0 ?_
  refine tkH (i := 6) (d := 13) (v := .pointer (some ⟨g, 35, none⟩)) rfl rfl (y_rf4 (by simp [Region.wanted]) (.tmp 12) rfl g (ev_eq _ _ (by simp [put_sz, sz]))) hs0 ?_
  refine tkH (i := 7) (d := 14) (v := .agg (bvs c.ah)) rfl rfl (y_loadH (by simp [Region.wanted]) (.tmp 13) rfl g 35 c.ah lens.lan (ev_eq _ _ (by simp [put_sz, sz])) (fun V hV => hV.2)) hs0 ?_
  refine tkH (i := 8) (d := 2) (v := .int .i64 (c.an : Int)) rfl rfl (y_assign (by simp [Region.wanted]) (.tmp 10) rfl _ (evn (evn (evn (evn (ev_eq _ _ (by simp [put_sz, sz]))))))) hs0 ?_
  obtain ⟨A3, hA3⟩ : ∃ A3, A3 = (((((((((A.put (some 7) (.pointer (some ⟨g, 0, none⟩))).put (some 8) (.pointer (some ⟨g, 0, none⟩))).put (some 9) (.pointer (some ⟨g, 1, none⟩))).put (some 10) (.int .i64 (c.an : Int))).put (some 11) (.pointer (some ⟨g, 0, none⟩))).put (some 12) (.pointer (some ⟨g, 0, none⟩))).put (some 13) (.pointer (some ⟨g, 35, none⟩))).put (some 14) (.agg (bvs c.ah))).put (some 2) (.int .i64 (c.an : Int))) := ⟨_, rfl⟩
  have szA3 : A3.tmps.size = 15 := by rw [hA3]; simp [put_sz, sz]
  have eA33 : A3.eval (.tmp 3) = .pointer (some ⟨R, 0, none⟩) := by rw [hA3]; exact (evn (evn (evn (evn (evn (evn (evn (evn (evn e3)))))))))
  have eA314 : A3.eval (.tmp 14) = .agg (bvs c.ah) := by rw [hA3]; exact (evn (ev_eq _ _ (by simp [put_sz, sz])))
  rw [← hA3]
  refine wpAnyH_all (rs := [9]) (by kernel_rfl) (by simp) fun i1 hm1 => ?_
  obtain rfl : i1 = 9 := by simpa using hm1
  refine wpOp_own rfl rfl fun K1 hK1 => ?_
  refine wp_store_hash (.tmp 3) (.tmp 14) rfl R (bvs c.ah) Z (l := c.ah) (m := zero32) ⟨rfl, lens.lan⟩ hZ eA33 eA314 r0 ?_
  refine hK1 _ _ ⟨⟨(cell_setRow_other _ _ _ _ hgR).trans hs0.1, fun j v hj => (cell_setRow_other _ _ _ _ hgR).trans (hs0.2 j v hj)⟩, wpAnyH_done (by kernel_rfl) ⟨rfl, ?_, rfl⟩ _⟩
  show A3 = _
  rw [hA3]
set_option maxHeartbeats 1000000 in
theorem rAnchored_any {w : World} {B g : Nat} {v : Value} {c : Ch} (h : RAt w B g v c) (ok : Lens c) :
    Calls Tryd.prog 50 #[.pointer (some ⟨g, 0, none⟩)] w fun e w' => e = .returned (.tuple #[.int .i64 (c.an : Int), .agg (bvs c.ah)]) ∧ Below w.heap.size w w' := by
  obtain ⟨Z, hZ⟩ : ∃ Z, Z = bvs (List.replicate 32 0) := ⟨_, rfl⟩
  have zh := (zero_of_info zero_hash).1
  rw [← hZ] at zh
  have hz : Hid (HV Z zero32) := by
    show HV _ _
    rw [hZ]; exact hv_zero
  have zh := hid zh
  have H := hid h
  have OK := hid ok
  clear hZ h ok
  go_enter Tryd.func50, Tryd.ntmps50
  go_wp2_with (with_reducible show Go.wpList _ _ _ _ _ _; refine wpList_alloc_row rfl 69 rfl Z zh.out ?_)
  obtain ⟨V0, hV0⟩ : ∃ V0, V0 = (w.alloc (.cells Z 69)).drew := ⟨_, rfl⟩
  have b0 : Below w.heap.size w V0 := by rw [hV0]; exact ((Below.refl _ w).alloc (Nat.le_refl _) _).drew
  have r0 : V0.heap[w.heap.size]? = some (.cells Z 69 (0, 0)) := by rw [hV0]; exact heap_alloc_new w _
  refine wp_act _ fun A hA => ?_
  have sz : A.tmps.size = 15 := by rw [hA]; rfl
  have e0 : A.eval (.tmp 0) = .pointer (some ⟨g, 0, none⟩) := by rw [hA]; rfl
  have e3 : A.eval (.tmp 3) = .pointer (some ⟨w.heap.size, 0, none⟩) := by rw [hA]; rfl
  refine wp_split _ (rAnchored_region sz e0 e3 hV0 (H.out.below b0) OK.out hz.out r0) ?_
  rintro _ _ ⟨rfl, rfl⟩
  rw [hA]
  simp only [Act.put, List.setIfInBounds_toArray, List.set_cons_succ, List.set_cons_zero]
  clear sz e0 e3 hA A hV0
  have R0 := hid r0
  have B0 := hid b0
  have sh := hid (size_hashs c.ah OK.out.lan)
  clear r0 b0 zh hz OK
  go_wp2
  refine bodyPost_ret (results_tmp_row rfl _ _ w.heap.size 69 (bvs c.ah) (0, 0) _ rfl (setRow_heap _ _ _ _ _ _ R0.out) Tryd.underlying69 rfl sh.out) rfl ?_
  exact ⟨rfl, B0.out.setRow (Nat.le_refl _) _⟩
set_option maxHeartbeats 1000000 in
theorem rHead_any {w : World} {B g : Nat} {v : Value} {c : Ch} (h : RAt w B g v c) (ok : Lens c) :
    Calls Tryd.prog 51 #[.pointer (some ⟨g, 0, none⟩)] w fun e w' => e = .returned (.agg (bvs c.hd)) ∧ Below w.heap.size w w' := by
  obtain ⟨Z, hZ⟩ : ∃ Z, Z = bvs (List.replicate 32 0) := ⟨_, rfl⟩
  have zh := (zero_of_info zero_hash).1
  rw [← hZ] at zh
  have hz : Hid (HV Z zero32) := by
    show HV _ _
    rw [hZ]; exact hv_zero
  have zh := hid zh
  have b0 : Below w.heap.size w (w.alloc (.cells Z 69)) := (Below.refl _ w).alloc (Nat.le_refl _) _
  have rh := hid ((h.below b0).rh ok)
  have R0 : Hid ((w.alloc (.cells Z 69)).heap[w.heap.size]? = some (.cells Z 69 (0, 0))) := heap_alloc_new w _
  have B0 := hid b0
  have sh := hid (size_hashs c.hd ok.lh)
  have sl := hid (size_hashl c.hd ok.lh)
  have zs : Hid (Z.size = (bvs c.hd).size) := hz.out.size.trans (HV.size (l := c.hd) ⟨rfl, ok.lh⟩).symm
  have one := hid (bvs_one c.hd)
  have bv : Hid ((cellsOf c.hd).toArray = bvs c.hd) := rfl
  clear hZ h ok b0 hz
  generalize cellsOf c.hd = L at *
  generalize bvs c.hd = O at *
  go_enter Tryd.func51, Tryd.ntmps51
  go_wp2_with (first
    | (with_reducible show Go.wpList _ _ _ _ _ _; refine wpList_alloc_row rfl 69 rfl Z zh.out ?_)
    | (with_reducible show Go.wpList _ _ _ _ _ _; refine wpList_load_mid rfl 69 _ rfl g 67 rfl L _ rh.out Tryd.underlying69 rfl sl.out ?_; rw [bv.out])
    | (with_reducible show Go.wpList _ _ _ _ _ _; refine wpList_store_row rfl 69 _ _ rfl w.heap.size O rfl rfl 69 Z R0.out sh.out zs.out one.out ?_))
  refine bodyPost_ret (results_cell_row rfl _ _ w.heap.size 69 O (0, 0) _ rfl (setRow_heap _ _ _ _ _ _ R0.out) Tryd.underlying69 rfl sh.out) rfl ?_
  exact ⟨rfl, B0.out.setRow (Nat.le_refl _) _⟩
set_option maxHeartbeats 1000000 in
theorem rEvents_any {w : World} {B g : Nat} {v : Value} {c : Ch} (h : RAt w B g v c) (ok : ChOk c) :
    Calls Tryd.prog 48 #[.pointer (some ⟨g, 0, none⟩)] w (EvPost w c.ev) := by
  obtain ⟨a0, cap, rfl⟩ := h.val
  have c99 := h.c99 ok.l
  have H := hid h
  have hbig : Hid (c.ev.length ≤ 1000) := by show _ ≤ _; have := ok.few; omega
  obtain ⟨n, hn⟩ : ∃ n, n = c.ev.length := ⟨_, rfl⟩
  rw [← hn] at c99
  have Hn := hid hn
  clear h ok hn
  go_enter Tryd.func48, Tryd.ntmps48
  go_wp2_with (at_builtin; refine app_evsG _ rfl (.tmp 6) (.tmp 10) rfl w.heap.size _ rfl (World.ownsRow_nil _ _ _ _) a0 n cap c.ev Hn.out rfl (own_src H.out.row) hbig.out (Nat.le_refl _) ?_; intro v1 W6 hown6 hb6)
  go_ret
  exact evPost_of hown6 hb6
end Go.Proofs.YthfmpebgmojcaaaDoor
