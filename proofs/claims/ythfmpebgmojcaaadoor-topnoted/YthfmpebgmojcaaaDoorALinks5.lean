/- The next link: the region of 'at = link{event.Number, hash.Chain(at.hash, bytesOf(event))}' of audit.links, over a frame that is a letter. -/
import Derived.Test.YthfmpebgmojcaaaDoorAAnc
namespace Go.Proofs.YthfmpebgmojcaaaDoor
open Go.RowKit Go.Shelf
set_option linter.unusedVariables false
set_option maxRecDepth 20000
theorem link_hash {w : World} {g n : Nat} {h : List UInt8} {t : TypeId} {fr : Nat × Nat} (hg : w.heap[g]? = some (.cells (lnkC n h).toArray t fr)) : w.rangeAt g 1 (cellsOf h) := range_mid (A := [.int .i64 (n : Int)]) (B := cellsOf h) (C := []) (by simpa [lnkC] using hg) 1 rfl
noncomputable def codeLk (n : Nat) : Code := ((Tryd.f79.body.bind (regionAt n)).getD .skip)

set_option maxHeartbeats 2000000 in
theorem links_region5 {ro : Option Nat} {nn : Nat} {V0 W5 : World} {Ab E m : Nat} {h : List UInt8} {e : Ev} {A : Act} (sz : A.tmps.size = 36) (e3 : A.eval (.tmp 3) = .pointer (some ⟨Ab, 0, none⟩)) (e5 : A.eval (.tmp 5) = .pointer (some ⟨E, 0, none⟩))
    (hV0 : V0 = W5.drew) (ha0 : V0.heap[Ab]? = some (.cells (lnkC m h).toArray 85 (0, 0))) (hh : h.length = 32) (hs0 : V0.heap[E]? = some (.cells (eVals e).toArray 55 (0, 0))) (hn : e.num ≤ 4611686018427387904) (ht : e.tim ≤ 4611686018427387904) (h12 : e.what.size ≤ 12) (h30 : e.who.size ≤ 30) (hT : TabAt V0) (hK : KAt V0) :
    (codeLk 5).wpIn (WideAt ro) nn Tryd.prog (fun x a V => x = .normal ∧ ∃ aC cC, a = ((((((((A.put (some 23) (.pointer (some ⟨E, 0, none⟩))).put (some 24) (.int .i64 (e.num : Int))).put (some 25) (.pointer (some ⟨Ab, 1, none⟩))).put (some 27) (.agg (eVals e).toArray)).put (some 26) (.agg (bvs h))).put (some 28) (.slice aC (evB e).length cC)).put (some 29) (.agg (bvs (nextH h e)))).put (some 30) (.agg (lnkC e.num (nextH h e)).toArray)) ∧
      V.heap[Ab]? = some (.cells (lnkC e.num (nextH h e)).toArray 85 (0, 0)) ∧ Out (fun k => k = Ab) V0 V) A W5 := by
  have hm : Tryd.prog.follows .mixedOrders = true := by kernel_rfl
  have hEA : E ≠ Ab := fun x => by
    rw [x, ha0] at hs0
    injection hs0 with hs0
    injection hs0 with _ hs0
    exact absurd hs0 (by decide)
  unfold codeLk
  conv => arg 4; whnf
  refine wpIn_region_heldAt (S := fun V => V.heap[E]? = some (.cells (eVals e).toArray 55 (0, 0))) hm (by kernel_rfl) ?_
  rw [show ({ W5 with drawn := W5.drawn + 1 } : World) = V0 from hV0.symm]
  refine wpAnyH_take (i := 0) (v := .pointer (some ⟨E, 0, none⟩)) rfl (by kernel_rfl) (by kernel_rfl) (by kernel_rfl) (fun _ _ _ h => nomatch h.1) (y_ev 0 (by decide) (by simp [Region.wanted]) (.tmp 5) rfl E e5) hs0 ?_
  show wpAnyH _ _ _ _ _ _ _ (A.put (some 23) (.pointer (some ⟨E, 0, none⟩))) _
  refine wpAnyH_take (i := 1) (v := .int .i64 (e.num : Int)) rfl (by kernel_rfl) (by kernel_rfl) (by kernel_rfl) (fun _ _ _ h => nomatch h.1) (y_loadI (by simp [Region.wanted]) (.tmp 23) rfl E 0 _ (ev_eq _ _ (by simp [sz])) (fun V hV => range_whole hV 0 _ rfl)) hs0 ?_
  show wpAnyH _ _ _ _ _ _ _ ((A.put (some 23) (.pointer (some ⟨E, 0, none⟩))).put (some 24) (.int .i64 (e.num : Int))) _
  refine wpAnyH_take (i := 2) (v := .pointer (some ⟨Ab, 1, none⟩)) rfl (by kernel_rfl) (by kernel_rfl) (by kernel_rfl) (fun _ _ _ h => nomatch h.1) (y_link1 (by simp [Region.wanted]) (.tmp 3) rfl Ab 0 ((ev_ne _ _ (by decide)).trans ((ev_ne _ _ (by decide)).trans e3))) hs0 ?_
  show wpAnyH _ _ _ _ _ _ _ (((A.put (some 23) (.pointer (some ⟨E, 0, none⟩))).put (some 24) (.int .i64 (e.num : Int))).put (some 25) (.pointer (some ⟨Ab, 1, none⟩))) _
  refine wpAnyH_take (i := 4) (v := .agg (eVals e).toArray) rfl (by kernel_rfl) (by kernel_rfl) (by kernel_rfl) (fun _ _ _ h => nomatch h.1) (y_loadE (by simp [Region.wanted]) (.tmp 5) rfl E 0 e ((ev_ne _ _ (by decide)).trans ((ev_ne _ _ (by decide)).trans ((ev_ne _ _ (by decide)).trans e5))) (fun V hV => range_whole hV)) hs0 ?_
  show wpAnyH _ _ _ _ _ _ _ ((((A.put (some 23) (.pointer (some ⟨E, 0, none⟩))).put (some 24) (.int .i64 (e.num : Int))).put (some 25) (.pointer (some ⟨Ab, 1, none⟩))).put (some 27) (.agg (eVals e).toArray)) _
  refine wpAnyH_all (rs := [3, 5]) (by kernel_rfl) (by simp) fun i1 hm1 => ?_
  have hn1 : i1 = 3 ∨ i1 = 5 := by simpa using hm1
  clear hm1
  rcases hn1 with rfl | rfl
  · refine YieldsIf.wpOp rfl (y_loadH (S := fun V => V.rangeAt Ab 1 (cellsOf h)) (by simp [Region.wanted]) (.tmp 25) rfl Ab 1 h hh ((ev_ne _ _ (by decide)).trans (ev_eq _ _ (by simp [put_sz, sz]))) (fun V hV => hV)) (link_hash ha0) ⟨hs0, ?_⟩
    show wpAnyH _ _ _ _ _ _ _ (((((A.put (some 23) (.pointer (some ⟨E, 0, none⟩))).put (some 24) (.int .i64 (e.num : Int))).put (some 25) (.pointer (some ⟨Ab, 1, none⟩))).put (some 27) (.agg (eVals e).toArray)).put (some 26) (.agg (bvs h))) _
    refine wpAnyH_all (rs := [5]) (by kernel_rfl) (by simp) fun i2 hm2 => ?_
    obtain rfl : i2 = 5 := by simpa using hm2
    refine wpOp_own rfl rfl fun K2 hK2 => ?_
    refine wp_calls1 61 hf_bytesOf (.tmp 27) _ rfl (.agg (eVals e).toArray) ((ev_ne _ _ (by decide)).trans (ev_eq _ _ (by simp [put_sz, sz]))) ?_
    refine (bytesOf_any V0 e hn ht h12 h30 hT).mono ?_
    rintro _ V1 ⟨aC, cC, rfl, hby, hb1, hcC⟩
    have hs1 := (hb1.block E (heap_lt hs0)).trans hs0
    have ha1 := (hb1.block Ab (heap_lt ha0)).trans ha0
    refine ⟨_, rfl, hK2 _ _ ⟨hs1, ?_⟩⟩
    clear hK2 K2 hm2
    show wpAnyH _ _ _ _ _ _ _ ((((((A.put (some 23) (.pointer (some ⟨E, 0, none⟩))).put (some 24) (.int .i64 (e.num : Int))).put (some 25) (.pointer (some ⟨Ab, 1, none⟩))).put (some 27) (.agg (eVals e).toArray)).put (some 26) (.agg (bvs h))).put (some 28) (.slice aC (evB e).length cC)) _
    obtain ⟨A3, hA3⟩ : ∃ A3, A3 = ((((((A.put (some 23) (.pointer (some ⟨E, 0, none⟩))).put (some 24) (.int .i64 (e.num : Int))).put (some 25) (.pointer (some ⟨Ab, 1, none⟩))).put (some 27) (.agg (eVals e).toArray)).put (some 26) (.agg (bvs h))).put (some 28) (.slice aC (evB e).length cC)) := ⟨_, rfl⟩
    have szA3 : A3.tmps.size = 36 := by rw [hA3]; simp [put_sz, sz]
    have eA33 : A3.eval (.tmp 3) = .pointer (some ⟨Ab, 0, none⟩) := by rw [hA3]; exact ((ev_ne _ _ (by decide)).trans ((ev_ne _ _ (by decide)).trans ((ev_ne _ _ (by decide)).trans ((ev_ne _ _ (by decide)).trans ((ev_ne _ _ (by decide)).trans ((ev_ne _ _ (by decide)).trans e3))))))
    have eA324 : A3.eval (.tmp 24) = .int .i64 (e.num : Int) := by rw [hA3]; exact ((ev_ne _ _ (by decide)).trans ((ev_ne _ _ (by decide)).trans ((ev_ne _ _ (by decide)).trans ((ev_ne _ _ (by decide)).trans (ev_eq _ _ (by simp [put_sz, sz]))))))
    have eA326 : A3.eval (.tmp 26) = .agg (bvs h) := by rw [hA3]; exact ((ev_ne _ _ (by decide)).trans (ev_eq _ _ (by simp [put_sz, sz])))
    have eA328 : A3.eval (.tmp 28) = .slice aC (evB e).length cC := by rw [hA3]; exact (ev_eq _ _ (by simp [put_sz, sz]))
    rw [← hA3]
    refine wpAnyH_all (rs := [6]) (by kernel_rfl) (by simp) fun i3 hm3 => ?_
    obtain rfl : i3 = 6 := by simpa using hm3
    refine wpOp_own rfl rfl fun K3 hK3 => ?_
    refine wp_calls2 60 hf_chain (.tmp 26) (.tmp 28) _ rfl (.agg (bvs h)) (.slice aC (evB e).length cC) eA326 eA328 ?_
    refine (chain_any (w := V1) (h := h) (H := bvs h) ⟨rfl, hh⟩ (evB e) aC (evB e).length cC rfl hby (by have := evB_bound e; omega) hcC (hK.below hb1)).mono ?_
    rintro _ V2 ⟨O, rfl, hO, hb2⟩
    obtain rfl : O = bvs (nextH h e) := hO.out.eq
    have hs2 := (hb2.block E (heap_lt hs1)).trans hs1
    have ha2 := (hb2.block Ab (heap_lt ha1)).trans ha1
    refine ⟨_, rfl, hK3 _ _ ⟨hs2, ?_⟩⟩
    clear hK3 K3 hm3
    show wpAnyH _ _ _ _ _ _ _ (A3.put (some 29) (.agg (bvs (nextH h e)))) _
    refine wpAnyH_take (i := 7) (v := .agg (lnkC e.num (nextH h e)).toArray) rfl (by kernel_rfl) (by kernel_rfl) (by kernel_rfl) (fun _ _ _ h => nomatch h.1) (y_buildL (by simp [Region.wanted]) (.tmp 24) (.tmp 29) rfl e.num (nextH h e) (nextH_length _ _) ((ev_ne _ _ (by decide)).trans eA324) (ev_eq _ _ (by simp [szA3]))) hs2 ?_
    show wpAnyH _ _ _ _ _ _ _ ((A3.put (some 29) (.agg (bvs (nextH h e)))).put (some 30) (.agg (lnkC e.num (nextH h e)).toArray)) _
    refine wpAnyH_all (rs := [8]) (by kernel_rfl) (by simp) fun i4 hm4 => ?_
    obtain rfl : i4 = 8 := by simpa using hm4
    refine wpOp_own rfl rfl fun K4 hK4 => ?_
    refine wp_store_row 85 (.tmp 3) (.tmp 30) rfl Ab (lnkC e.num (nextH h e)).toArray ((ev_ne _ _ (by decide)).trans ((ev_ne _ _ (by decide)).trans eA33)) (ev_eq _ _ (by simp [put_sz, szA3])) 85 (lnkC m h).toArray ha2 (by rw [List.size_toArray, lnkC_length, nextH_length]; exact size_link) (by rw [List.size_toArray, List.size_toArray, lnkC_length, lnkC_length, nextH_length, hh]) (all_oneCell_toArray (lnkC_one _ _)) ?_
    have o2 : Out (fun k => k = Ab) V0 V2 := (Out.of_below hb1).on hb2
    refine hK4 _ _ ⟨(setRow_other _ _ _ _ hEA).trans hs2, wpAnyH_done (by kernel_rfl) ⟨rfl, aC, cC, ?_, setRow_heap _ _ _ _ _ _ ha2, ⟨o2.os, o2.tape, o2.output, by rw [size_setRow]; exact o2.size, fun j hj hp => (setRow_other _ _ _ _ hp).trans (o2.block j hj hp)⟩⟩ _⟩
    show ((A3.put (some 29) (.agg (bvs (nextH h e)))).put (some 30) (.agg (lnkC e.num (nextH h e)).toArray)) = _
    rw [hA3]
  · refine wpOp_own rfl rfl fun K2 hK2 => ?_
    refine wp_calls1 61 hf_bytesOf (.tmp 27) _ rfl (.agg (eVals e).toArray) (ev_eq _ _ (by simp [put_sz, sz])) ?_
    refine (bytesOf_any V0 e hn ht h12 h30 hT).mono ?_
    rintro _ V1 ⟨aC, cC, rfl, hby, hb1, hcC⟩
    have hs1 := (hb1.block E (heap_lt hs0)).trans hs0
    have ha1 := (hb1.block Ab (heap_lt ha0)).trans ha0
    refine ⟨_, rfl, hK2 _ _ ⟨hs1, ?_⟩⟩
    clear hK2 K2
    show wpAnyH _ _ _ _ _ _ _ (((((A.put (some 23) (.pointer (some ⟨E, 0, none⟩))).put (some 24) (.int .i64 (e.num : Int))).put (some 25) (.pointer (some ⟨Ab, 1, none⟩))).put (some 27) (.agg (eVals e).toArray)).put (some 28) (.slice aC (evB e).length cC)) _
    refine wpAnyH_all (rs := [3]) (by kernel_rfl) (by simp) fun i3 hm3 => ?_
    obtain rfl : i3 = 3 := by simpa using hm3
    refine YieldsIf.wpOp rfl (y_loadH (S := fun V => V.rangeAt Ab 1 (cellsOf h)) (by simp [Region.wanted]) (.tmp 25) rfl Ab 1 h hh ((ev_ne _ _ (by decide)).trans ((ev_ne _ _ (by decide)).trans (ev_eq _ _ (by simp [put_sz, sz])))) (fun V hV => hV)) (link_hash ha1) ⟨hs1, ?_⟩
    show wpAnyH _ _ _ _ _ _ _ ((((((A.put (some 23) (.pointer (some ⟨E, 0, none⟩))).put (some 24) (.int .i64 (e.num : Int))).put (some 25) (.pointer (some ⟨Ab, 1, none⟩))).put (some 27) (.agg (eVals e).toArray)).put (some 28) (.slice aC (evB e).length cC)).put (some 26) (.agg (bvs h))) _
    obtain ⟨A3, hA3⟩ : ∃ A3, A3 = ((((((A.put (some 23) (.pointer (some ⟨E, 0, none⟩))).put (some 24) (.int .i64 (e.num : Int))).put (some 25) (.pointer (some ⟨Ab, 1, none⟩))).put (some 27) (.agg (eVals e).toArray)).put (some 28) (.slice aC (evB e).length cC)).put (some 26) (.agg (bvs h))) := ⟨_, rfl⟩
    have szA3 : A3.tmps.size = 36 := by rw [hA3]; simp [put_sz, sz]
    have eA33 : A3.eval (.tmp 3) = .pointer (some ⟨Ab, 0, none⟩) := by rw [hA3]; exact ((ev_ne _ _ (by decide)).trans ((ev_ne _ _ (by decide)).trans ((ev_ne _ _ (by decide)).trans ((ev_ne _ _ (by decide)).trans ((ev_ne _ _ (by decide)).trans ((ev_ne _ _ (by decide)).trans e3))))))
    have eA324 : A3.eval (.tmp 24) = .int .i64 (e.num : Int) := by rw [hA3]; exact ((ev_ne _ _ (by decide)).trans ((ev_ne _ _ (by decide)).trans ((ev_ne _ _ (by decide)).trans ((ev_ne _ _ (by decide)).trans (ev_eq _ _ (by simp [put_sz, sz]))))))
    have eA326 : A3.eval (.tmp 26) = .agg (bvs h) := by rw [hA3]; exact (ev_eq _ _ (by simp [put_sz, sz]))
    have eA328 : A3.eval (.tmp 28) = .slice aC (evB e).length cC := by rw [hA3]; exact ((ev_ne _ _ (by decide)).trans (ev_eq _ _ (by simp [put_sz, sz])))
    rw [← hA3]
    refine wpAnyH_all (rs := [6]) (by kernel_rfl) (by simp) fun i4 hm4 => ?_
    obtain rfl : i4 = 6 := by simpa using hm4
    refine wpOp_own rfl rfl fun K4 hK4 => ?_
    refine wp_calls2 60 hf_chain (.tmp 26) (.tmp 28) _ rfl (.agg (bvs h)) (.slice aC (evB e).length cC) eA326 eA328 ?_
    refine (chain_any (w := V1) (h := h) (H := bvs h) ⟨rfl, hh⟩ (evB e) aC (evB e).length cC rfl hby (by have := evB_bound e; omega) hcC (hK.below hb1)).mono ?_
    rintro _ V2 ⟨O, rfl, hO, hb2⟩
    obtain rfl : O = bvs (nextH h e) := hO.out.eq
    have hs2 := (hb2.block E (heap_lt hs1)).trans hs1
    have ha2 := (hb2.block Ab (heap_lt ha1)).trans ha1
    refine ⟨_, rfl, hK4 _ _ ⟨hs2, ?_⟩⟩
    clear hK4 K4 hm4
    show wpAnyH _ _ _ _ _ _ _ (A3.put (some 29) (.agg (bvs (nextH h e)))) _
    refine wpAnyH_take (i := 7) (v := .agg (lnkC e.num (nextH h e)).toArray) rfl (by kernel_rfl) (by kernel_rfl) (by kernel_rfl) (fun _ _ _ h => nomatch h.1) (y_buildL (by simp [Region.wanted]) (.tmp 24) (.tmp 29) rfl e.num (nextH h e) (nextH_length _ _) ((ev_ne _ _ (by decide)).trans eA324) (ev_eq _ _ (by simp [szA3]))) hs2 ?_
    show wpAnyH _ _ _ _ _ _ _ ((A3.put (some 29) (.agg (bvs (nextH h e)))).put (some 30) (.agg (lnkC e.num (nextH h e)).toArray)) _
    refine wpAnyH_all (rs := [8]) (by kernel_rfl) (by simp) fun i5 hm5 => ?_
    obtain rfl : i5 = 8 := by simpa using hm5
    refine wpOp_own rfl rfl fun K5 hK5 => ?_
    refine wp_store_row 85 (.tmp 3) (.tmp 30) rfl Ab (lnkC e.num (nextH h e)).toArray ((ev_ne _ _ (by decide)).trans ((ev_ne _ _ (by decide)).trans eA33)) (ev_eq _ _ (by simp [put_sz, szA3])) 85 (lnkC m h).toArray ha2 (by rw [List.size_toArray, lnkC_length, nextH_length]; exact size_link) (by rw [List.size_toArray, List.size_toArray, lnkC_length, lnkC_length, nextH_length, hh]) (all_oneCell_toArray (lnkC_one _ _)) ?_
    have o2 : Out (fun k => k = Ab) V0 V2 := (Out.of_below hb1).on hb2
    refine hK5 _ _ ⟨(setRow_other _ _ _ _ hEA).trans hs2, wpAnyH_done (by kernel_rfl) ⟨rfl, aC, cC, ?_, setRow_heap _ _ _ _ _ _ ha2, ⟨o2.os, o2.tape, o2.output, by rw [size_setRow]; exact o2.size, fun j hj hp => (setRow_other _ _ _ _ hp).trans (o2.block j hj hp)⟩⟩ _⟩
    show ((A3.put (some 29) (.agg (bvs (nextH h e)))).put (some 30) (.agg (lnkC e.num (nextH h e)).toArray)) = _
    rw [hA3, put_swap (d := 28) (e := 26) _ (by decide)]
end Go.Proofs.YthfmpebgmojcaaaDoor
