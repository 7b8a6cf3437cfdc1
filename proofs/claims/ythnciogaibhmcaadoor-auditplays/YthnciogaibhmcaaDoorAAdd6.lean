/- Add's hash: the region of 'c.head = hash.Chain(c.head, bytesOf(event))', over a frame that is a letter. -/
import Derived.Test.YthnciogaibhmcaaDoorAAdd5
namespace Go.Proofs.YthnciogaibhmcaaDoor
open Go.RowKit
set_option linter.unusedVariables false
set_option maxRecDepth 20000
theorem hf_bytesOf : ∀ (args : Array Value) (w : World), (callFunc 54 args).run Tryd.prog w = .ok (.enter 54 args) w := fun args w => by simp [go_sem]
theorem hf_chain : ∀ (args : Array Value) (w : World), (callFunc 53 args).run Tryd.prog w = .ok (.enter 53 args) w := fun args w => by simp [go_sem]

set_option maxHeartbeats 2000000 in
theorem add_region6 {V0 W5 : World} {B g E : Nat} {v : Value} {c : Ch} {e : Ev} {A : Act} (sz : A.tmps.size = 53) (e0 : A.eval (.tmp 0) = .pointer (some ⟨g, 0, none⟩)) (e11 : A.eval (.tmp 11) = .pointer (some ⟨E, 0, none⟩))
    (hV0 : V0 = W5.drew) (H0 : ChAt V0 B g v c) (lens : Lens c) (hs0 : V0.heap[E]? = some (.cells (eVals e).toArray 60 (0, 0))) (hn : e.num ≤ 4611686018427387904) (ht : e.tim ≤ 4611686018427387904) (h12 : e.what.size ≤ 12) (h30 : e.who.size ≤ 30) (hT : TabAt V0) (hK : KAt V0) :
    (codeAdd 6).wp Tryd.prog (fun x a V => x = .normal ∧ ∃ aC cC, a = ((((((((((A.put (some 38) (.pointer (some ⟨g, 0, none⟩))).put (some 39) (.pointer (some ⟨g, 0, none⟩))).put (some 40) (.pointer (some ⟨g, 0, none⟩))).put (some 41) (.pointer (some ⟨g, 67, none⟩))).put (some 43) (.agg (eVals e).toArray)).put (some 42) (.agg (bvs c.hd))).put (some 44) (.slice aC (evB e).length cC)).put (some 45) (.agg (bvs (nextH c.hd e)))).put (some 46) (.pointer (some ⟨g, 0, none⟩))).put (some 47) (.pointer (some ⟨g, 67, none⟩))) ∧
      ChAt V B g v { c with hd := nextH c.hd e } ∧ V.heap[E]? = some (.cells (eVals e).toArray 60 (0, 0)) ∧ Out (fun k => k = g) V0 V) A W5 := by
  have hm : Tryd.prog.follows .mixedOrders = true := by kernel_rfl
  have hEg : E ≠ g := fun x => by
    rw [x, H0.obj] at hs0
    injection hs0 with hs0
    injection hs0 with _ hs0
    exact absurd hs0 (by decide)
  unfold codeAdd
  conv => arg 2; whnf
  refine wp_region_held (S := fun V => V.heap[E]? = some (.cells (eVals e).toArray 60 (0, 0))) hm ?_
  rw [show ({ W5 with drawn := W5.drawn + 1 } : World) = V0 from hV0.symm]
  refine wpAnyH_take (i := 0) (v := .pointer (some ⟨g, 0, none⟩)) rfl (by kernel_rfl) (by kernel_rfl) (by kernel_rfl) (fun _ _ _ h => nomatch h.1) (yields_move (by simp [Region.wanted]) (.tmp 0) rfl _ e0) hs0 ?_
  show wpAnyH _ _ _ _ _ _ _ (A.put (some 38) (.pointer (some ⟨g, 0, none⟩))) _
  refine wpAnyH_take (i := 1) (v := .pointer (some ⟨g, 0, none⟩)) rfl (by kernel_rfl) (by kernel_rfl) (by kernel_rfl) (fun _ _ _ h => nomatch h.1) (yields_move (by simp [Region.wanted]) (.tmp 0) rfl _ ((ev_ne _ _ (by decide)).trans e0)) hs0 ?_
  show wpAnyH _ _ _ _ _ _ _ ((A.put (some 38) (.pointer (some ⟨g, 0, none⟩))).put (some 39) (.pointer (some ⟨g, 0, none⟩))) _
  refine wpAnyH_take (i := 2) (v := .pointer (some ⟨g, 0, none⟩)) rfl (by kernel_rfl) (by kernel_rfl) (by kernel_rfl) (fun _ _ _ h => nomatch h.1) (y_nil (by simp [Region.wanted]) (.tmp 39) rfl _ (ev_eq _ _ (by simp [put_sz, sz]))) hs0 ?_
  show wpAnyH _ _ _ _ _ _ _ (((A.put (some 38) (.pointer (some ⟨g, 0, none⟩))).put (some 39) (.pointer (some ⟨g, 0, none⟩))).put (some 40) (.pointer (some ⟨g, 0, none⟩))) _
  refine wpAnyH_take (i := 3) (v := .pointer (some ⟨g, 67, none⟩)) rfl (by kernel_rfl) (by kernel_rfl) (by kernel_rfl) (fun _ _ _ h => nomatch h.1) (y_chain3 (by simp [Region.wanted]) (.tmp 40) rfl g (ev_eq _ _ (by simp [put_sz, sz]))) hs0 ?_
  show wpAnyH _ _ _ _ _ _ _ ((((A.put (some 38) (.pointer (some ⟨g, 0, none⟩))).put (some 39) (.pointer (some ⟨g, 0, none⟩))).put (some 40) (.pointer (some ⟨g, 0, none⟩))).put (some 41) (.pointer (some ⟨g, 67, none⟩))) _
  refine wpAnyH_take (i := 5) (v := .agg (eVals e).toArray) rfl (by kernel_rfl) (by kernel_rfl) (by kernel_rfl) (fun _ _ _ h => nomatch h.1) (y_loadE (by simp [Region.wanted]) (.tmp 11) rfl E 0 e ((ev_ne _ _ (by decide)).trans ((ev_ne _ _ (by decide)).trans ((ev_ne _ _ (by decide)).trans ((ev_ne _ _ (by decide)).trans e11)))) (fun V hV => range_mid (A := []) (C := []) hV 0 rfl)) hs0 ?_
  show wpAnyH _ _ _ _ _ _ _ (((((A.put (some 38) (.pointer (some ⟨g, 0, none⟩))).put (some 39) (.pointer (some ⟨g, 0, none⟩))).put (some 40) (.pointer (some ⟨g, 0, none⟩))).put (some 41) (.pointer (some ⟨g, 67, none⟩))).put (some 43) (.agg (eVals e).toArray)) _
  refine wpAnyH_all (rs := [4, 6]) (by kernel_rfl) (by simp) fun i1 hm1 => ?_
  have hn1 : i1 = 4 ∨ i1 = 6 := by simpa using hm1
  clear hm1
  rcases hn1 with rfl | rfl
  · refine YieldsIf.wpOp rfl (y_loadH (S := fun V => V.rangeAt g 67 (cellsOf c.hd)) (by simp [Region.wanted]) (.tmp 41) rfl g 67 c.hd lens.lh ((ev_ne _ _ (by decide)).trans (ev_eq _ _ (by simp [put_sz, sz]))) (fun V hV => hV)) (H0.rh lens) ⟨hs0, ?_⟩
    show wpAnyH _ _ _ _ _ _ _ ((((((A.put (some 38) (.pointer (some ⟨g, 0, none⟩))).put (some 39) (.pointer (some ⟨g, 0, none⟩))).put (some 40) (.pointer (some ⟨g, 0, none⟩))).put (some 41) (.pointer (some ⟨g, 67, none⟩))).put (some 43) (.agg (eVals e).toArray)).put (some 42) (.agg (bvs c.hd))) _
    refine wpAnyH_all (rs := [6]) (by kernel_rfl) (by simp) fun i2 hm2 => ?_
    obtain rfl : i2 = 6 := by simpa using hm2
    refine wpOp_own rfl rfl fun K2 hK2 => ?_
    refine wp_calls1 54 hf_bytesOf (.tmp 43) _ rfl (.agg (eVals e).toArray) ((ev_ne _ _ (by decide)).trans (ev_eq _ _ (by simp [put_sz, sz]))) ?_
    refine (bytesOf_any V0 e hn ht h12 h30 hT).mono ?_
    rintro _ V1 ⟨aC, cC, rfl, hby, hb1, hcC⟩
    have hs1 := (hb1.block E (heap_lt hs0)).trans hs0
    have H1 := H0.below hb1
    refine ⟨_, rfl, hK2 _ _ ⟨hs1, ?_⟩⟩
    clear hK2 K2 hm2
    show wpAnyH _ _ _ _ _ _ _ (((((((A.put (some 38) (.pointer (some ⟨g, 0, none⟩))).put (some 39) (.pointer (some ⟨g, 0, none⟩))).put (some 40) (.pointer (some ⟨g, 0, none⟩))).put (some 41) (.pointer (some ⟨g, 67, none⟩))).put (some 43) (.agg (eVals e).toArray)).put (some 42) (.agg (bvs c.hd))).put (some 44) (.slice aC (evB e).length cC)) _
    obtain ⟨A3, hA3⟩ : ∃ A3, A3 = (((((((A.put (some 38) (.pointer (some ⟨g, 0, none⟩))).put (some 39) (.pointer (some ⟨g, 0, none⟩))).put (some 40) (.pointer (some ⟨g, 0, none⟩))).put (some 41) (.pointer (some ⟨g, 67, none⟩))).put (some 43) (.agg (eVals e).toArray)).put (some 42) (.agg (bvs c.hd))).put (some 44) (.slice aC (evB e).length cC)) := ⟨_, rfl⟩
    have szA3 : A3.tmps.size = 53 := by rw [hA3]; simp [put_sz, sz]
    have eA338 : A3.eval (.tmp 38) = .pointer (some ⟨g, 0, none⟩) := by rw [hA3]; exact ((ev_ne _ _ (by decide)).trans ((ev_ne _ _ (by decide)).trans ((ev_ne _ _ (by decide)).trans ((ev_ne _ _ (by decide)).trans ((ev_ne _ _ (by decide)).trans ((ev_ne _ _ (by decide)).trans (ev_eq _ _ (by simp [sz]))))))))
    have eA342 : A3.eval (.tmp 42) = .agg (bvs c.hd) := by rw [hA3]; exact ((ev_ne _ _ (by decide)).trans (ev_eq _ _ (by simp [put_sz, sz])))
    have eA344 : A3.eval (.tmp 44) = .slice aC (evB e).length cC := by rw [hA3]; exact (ev_eq _ _ (by simp [put_sz, sz]))
    rw [← hA3]
    refine wpAnyH_all (rs := [7]) (by kernel_rfl) (by simp) fun i3 hm3 => ?_
    obtain rfl : i3 = 7 := by simpa using hm3
    refine wpOp_own rfl rfl fun K3 hK3 => ?_
    refine wp_calls2 53 hf_chain (.tmp 42) (.tmp 44) _ rfl (.agg (bvs c.hd)) (.slice aC (evB e).length cC) eA342 eA344 ?_
    refine (chain_any (w := V1) (h := c.hd) (H := bvs c.hd) ⟨rfl, lens.lh⟩ (evB e) aC (evB e).length cC rfl hby (by have := evB_bound e; omega) hcC (hK.below hb1)).mono ?_
    rintro _ V2 ⟨O, rfl, hO, hb2⟩
    obtain rfl : O = bvs (nextH c.hd e) := hO.out.eq
    have hs2 := (hb2.block E (heap_lt hs1)).trans hs1
    have H2 := H1.below hb2
    refine ⟨_, rfl, hK3 _ _ ⟨hs2, ?_⟩⟩
    clear hK3 K3 hm3
    show wpAnyH _ _ _ _ _ _ _ (A3.put (some 45) (.agg (bvs (nextH c.hd e)))) _
    refine wpAnyH_take (i := 8) (v := .pointer (some ⟨g, 0, none⟩)) rfl (by kernel_rfl) (by kernel_rfl) (by kernel_rfl) (fun _ _ _ h => nomatch h.1) (y_nil (by simp [Region.wanted]) (.tmp 38) rfl _ ((ev_ne _ _ (by decide)).trans eA338)) hs2 ?_
    show wpAnyH _ _ _ _ _ _ _ ((A3.put (some 45) (.agg (bvs (nextH c.hd e)))).put (some 46) (.pointer (some ⟨g, 0, none⟩))) _
    refine wpAnyH_take (i := 9) (v := .pointer (some ⟨g, 67, none⟩)) rfl (by kernel_rfl) (by kernel_rfl) (by kernel_rfl) (fun _ _ _ h => nomatch h.1) (y_chain3 (by simp [Region.wanted]) (.tmp 46) rfl g (ev_eq _ _ (by simp [put_sz, szA3]))) hs2 ?_
    show wpAnyH _ _ _ _ _ _ _ (((A3.put (some 45) (.agg (bvs (nextH c.hd e)))).put (some 46) (.pointer (some ⟨g, 0, none⟩))).put (some 47) (.pointer (some ⟨g, 67, none⟩))) _
    refine wpAnyH_all (rs := [10]) (by kernel_rfl) (by simp) fun i4 hm4 => ?_
    obtain rfl : i4 = 10 := by simpa using hm4
    refine wpOp_own rfl rfl fun K4 hK4 => ?_
    refine wp_store_mid 49 (.tmp 47) (.tmp 45) rfl g 67 (bvs (nextH c.hd e)) (ev_eq _ _ (by simp [put_sz, szA3])) ((ev_ne _ _ (by decide)).trans ((ev_ne _ _ (by decide)).trans (ev_eq _ _ (by simp [szA3])))) (by rw [bvs_size, nextH_length]; exact H2.there lens 67 32 (by omega)) (by rw [bvs_size, nextH_length]; exact size_hash) (bvs_one _) ?_
    rw [show (bvs (nextH c.hd e)).toList = cellsOf (nextH c.hd e) from rfl]
    have hs3 : (V2.setCells g 67 (cellsOf (nextH c.hd e))).heap[E]? = some (.cells (eVals e).toArray 60 (0, 0)) := (other_setCells g E hEg _ _ _).trans hs2
    refine hK4 _ _ ⟨hs3, wpAnyH_done (by kernel_rfl) ⟨rfl, aC, cC, ?_, H2.setHd lens _ (nextH_length _ _), hs3, Out.setCells (P := fun x => x = g) g rfl _ _ _ ((Out.of_below (P := fun x => x = g) hb1).on hb2)⟩ _⟩
    show (((A3.put (some 45) (.agg (bvs (nextH c.hd e)))).put (some 46) (.pointer (some ⟨g, 0, none⟩))).put (some 47) (.pointer (some ⟨g, 67, none⟩))) = _
    rw [hA3]
  · refine wpOp_own rfl rfl fun K2 hK2 => ?_
    refine wp_calls1 54 hf_bytesOf (.tmp 43) _ rfl (.agg (eVals e).toArray) (ev_eq _ _ (by simp [put_sz, sz])) ?_
    refine (bytesOf_any V0 e hn ht h12 h30 hT).mono ?_
    rintro _ V1 ⟨aC, cC, rfl, hby, hb1, hcC⟩
    have hs1 := (hb1.block E (heap_lt hs0)).trans hs0
    have H1 := H0.below hb1
    refine ⟨_, rfl, hK2 _ _ ⟨hs1, ?_⟩⟩
    clear hK2 K2
    show wpAnyH _ _ _ _ _ _ _ ((((((A.put (some 38) (.pointer (some ⟨g, 0, none⟩))).put (some 39) (.pointer (some ⟨g, 0, none⟩))).put (some 40) (.pointer (some ⟨g, 0, none⟩))).put (some 41) (.pointer (some ⟨g, 67, none⟩))).put (some 43) (.agg (eVals e).toArray)).put (some 44) (.slice aC (evB e).length cC)) _
    refine wpAnyH_all (rs := [4]) (by kernel_rfl) (by simp) fun i3 hm3 => ?_
    obtain rfl : i3 = 4 := by simpa using hm3
    refine YieldsIf.wpOp rfl (y_loadH (S := fun V => V.rangeAt g 67 (cellsOf c.hd)) (by simp [Region.wanted]) (.tmp 41) rfl g 67 c.hd lens.lh ((ev_ne _ _ (by decide)).trans ((ev_ne _ _ (by decide)).trans (ev_eq _ _ (by simp [put_sz, sz])))) (fun V hV => hV)) (H1.rh lens) ⟨hs1, ?_⟩
    show wpAnyH _ _ _ _ _ _ _ (((((((A.put (some 38) (.pointer (some ⟨g, 0, none⟩))).put (some 39) (.pointer (some ⟨g, 0, none⟩))).put (some 40) (.pointer (some ⟨g, 0, none⟩))).put (some 41) (.pointer (some ⟨g, 67, none⟩))).put (some 43) (.agg (eVals e).toArray)).put (some 44) (.slice aC (evB e).length cC)).put (some 42) (.agg (bvs c.hd))) _
    obtain ⟨A3, hA3⟩ : ∃ A3, A3 = (((((((A.put (some 38) (.pointer (some ⟨g, 0, none⟩))).put (some 39) (.pointer (some ⟨g, 0, none⟩))).put (some 40) (.pointer (some ⟨g, 0, none⟩))).put (some 41) (.pointer (some ⟨g, 67, none⟩))).put (some 43) (.agg (eVals e).toArray)).put (some 44) (.slice aC (evB e).length cC)).put (some 42) (.agg (bvs c.hd))) := ⟨_, rfl⟩
    have szA3 : A3.tmps.size = 53 := by rw [hA3]; simp [put_sz, sz]
    have eA338 : A3.eval (.tmp 38) = .pointer (some ⟨g, 0, none⟩) := by rw [hA3]; exact ((ev_ne _ _ (by decide)).trans ((ev_ne _ _ (by decide)).trans ((ev_ne _ _ (by decide)).trans ((ev_ne _ _ (by decide)).trans ((ev_ne _ _ (by decide)).trans ((ev_ne _ _ (by decide)).trans (ev_eq _ _ (by simp [sz]))))))))
    have eA342 : A3.eval (.tmp 42) = .agg (bvs c.hd) := by rw [hA3]; exact (ev_eq _ _ (by simp [put_sz, sz]))
    have eA344 : A3.eval (.tmp 44) = .slice aC (evB e).length cC := by rw [hA3]; exact ((ev_ne _ _ (by decide)).trans (ev_eq _ _ (by simp [put_sz, sz])))
    rw [← hA3]
    refine wpAnyH_all (rs := [7]) (by kernel_rfl) (by simp) fun i4 hm4 => ?_
    obtain rfl : i4 = 7 := by simpa using hm4
    refine wpOp_own rfl rfl fun K4 hK4 => ?_
    refine wp_calls2 53 hf_chain (.tmp 42) (.tmp 44) _ rfl (.agg (bvs c.hd)) (.slice aC (evB e).length cC) eA342 eA344 ?_
    refine (chain_any (w := V1) (h := c.hd) (H := bvs c.hd) ⟨rfl, lens.lh⟩ (evB e) aC (evB e).length cC rfl hby (by have := evB_bound e; omega) hcC (hK.below hb1)).mono ?_
    rintro _ V2 ⟨O, rfl, hO, hb2⟩
    obtain rfl : O = bvs (nextH c.hd e) := hO.out.eq
    have hs2 := (hb2.block E (heap_lt hs1)).trans hs1
    have H2 := H1.below hb2
    refine ⟨_, rfl, hK4 _ _ ⟨hs2, ?_⟩⟩
    clear hK4 K4 hm4
    show wpAnyH _ _ _ _ _ _ _ (A3.put (some 45) (.agg (bvs (nextH c.hd e)))) _
    refine wpAnyH_take (i := 8) (v := .pointer (some ⟨g, 0, none⟩)) rfl (by kernel_rfl) (by kernel_rfl) (by kernel_rfl) (fun _ _ _ h => nomatch h.1) (y_nil (by simp [Region.wanted]) (.tmp 38) rfl _ ((ev_ne _ _ (by decide)).trans eA338)) hs2 ?_
    show wpAnyH _ _ _ _ _ _ _ ((A3.put (some 45) (.agg (bvs (nextH c.hd e)))).put (some 46) (.pointer (some ⟨g, 0, none⟩))) _
    refine wpAnyH_take (i := 9) (v := .pointer (some ⟨g, 67, none⟩)) rfl (by kernel_rfl) (by kernel_rfl) (by kernel_rfl) (fun _ _ _ h => nomatch h.1) (y_chain3 (by simp [Region.wanted]) (.tmp 46) rfl g (ev_eq _ _ (by simp [put_sz, szA3]))) hs2 ?_
    show wpAnyH _ _ _ _ _ _ _ (((A3.put (some 45) (.agg (bvs (nextH c.hd e)))).put (some 46) (.pointer (some ⟨g, 0, none⟩))).put (some 47) (.pointer (some ⟨g, 67, none⟩))) _
    refine wpAnyH_all (rs := [10]) (by kernel_rfl) (by simp) fun i5 hm5 => ?_
    obtain rfl : i5 = 10 := by simpa using hm5
    refine wpOp_own rfl rfl fun K5 hK5 => ?_
    refine wp_store_mid 49 (.tmp 47) (.tmp 45) rfl g 67 (bvs (nextH c.hd e)) (ev_eq _ _ (by simp [put_sz, szA3])) ((ev_ne _ _ (by decide)).trans ((ev_ne _ _ (by decide)).trans (ev_eq _ _ (by simp [szA3])))) (by rw [bvs_size, nextH_length]; exact H2.there lens 67 32 (by omega)) (by rw [bvs_size, nextH_length]; exact size_hash) (bvs_one _) ?_
    rw [show (bvs (nextH c.hd e)).toList = cellsOf (nextH c.hd e) from rfl]
    have hs3 : (V2.setCells g 67 (cellsOf (nextH c.hd e))).heap[E]? = some (.cells (eVals e).toArray 60 (0, 0)) := (other_setCells g E hEg _ _ _).trans hs2
    refine hK5 _ _ ⟨hs3, wpAnyH_done (by kernel_rfl) ⟨rfl, aC, cC, ?_, H2.setHd lens _ (nextH_length _ _), hs3, Out.setCells (P := fun x => x = g) g rfl _ _ _ ((Out.of_below (P := fun x => x = g) hb1).on hb2)⟩ _⟩
    show (((A3.put (some 45) (.agg (bvs (nextH c.hd e)))).put (some 46) (.pointer (some ⟨g, 0, none⟩))).put (some 47) (.pointer (some ⟨g, 67, none⟩))) = _
    rw [hA3, put_swap (d := 44) (e := 42) _ (by decide)]
end Go.Proofs.YthnciogaibhmcaaDoor
