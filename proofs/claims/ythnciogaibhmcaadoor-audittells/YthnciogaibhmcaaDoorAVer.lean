/- YthnciogaibhmcaaDoorALinks5 + YthnciogaibhmcaaDoorARange + YthnciogaibhmcaaDoorALinks + YthnciogaibhmcaaDoorALinkAt + YthnciogaibhmcaaDoorAVer6 + YthnciogaibhmcaaDoorAVer -/
import Derived.Test.YthnciogaibhmcaaDoorAAnc
import Derived.Test.YthnciogaibhmcaaDoorACh
import Derived.Test.YthnciogaibhmcaaDoorEBridge
/- The next link: the region of 'at = link{event.Number, hash.Chain(at.hash, bytesOf(event))}' of audit.links, over a frame that is a letter. -/
namespace Go.Proofs.YthnciogaibhmcaaDoor
open Go.RowKit Go.Shelf
set_option linter.unusedVariables false
set_option maxRecDepth 20000
theorem link_hash {w : World} {g n : Nat} {h : List UInt8} {t : TypeId} {fr : Nat × Nat} (hg : w.heap[g]? = some (.cells (lnkC n h).toArray t fr)) : w.rangeAt g 1 (cellsOf h) := range_mid (A := [.int .i64 (n : Int)]) (B := cellsOf h) (C := []) (by simpa [lnkC] using hg) 1 rfl
noncomputable def codeLk (n : Nat) : Code := ((Tryd.f63.body.bind (regionAt n)).getD .skip)

set_option maxHeartbeats 2000000 in
theorem links_region5 {ro : Option Nat} {nn : Nat} {V0 W5 : World} {Ab E m : Nat} {h : List UInt8} {e : Ev} {A : Act} (sz : A.tmps.size = 36) (e3 : A.eval (.tmp 3) = .pointer (some ⟨Ab, 0, none⟩)) (e5 : A.eval (.tmp 5) = .pointer (some ⟨E, 0, none⟩))
    (hV0 : V0 = W5.drew) (ha0 : V0.heap[Ab]? = some (.cells (lnkC m h).toArray 54 (0, 0))) (hh : h.length = 32) (hs0 : V0.heap[E]? = some (.cells (eVals e).toArray 60 (0, 0))) (hn : e.num ≤ 4611686018427387904) (ht : e.tim ≤ 4611686018427387904) (h12 : e.what.size ≤ 12) (h30 : e.who.size ≤ 30) (hT : TabAt V0) (hK : KAt V0) :
    (codeLk 5).wpIn (WideAt ro) nn Tryd.prog (fun x a V => x = .normal ∧ ∃ aC cC, a = ((((((((A.put (some 23) (.pointer (some ⟨E, 0, none⟩))).put (some 24) (.int .i64 (e.num : Int))).put (some 25) (.pointer (some ⟨Ab, 1, none⟩))).put (some 27) (.agg (eVals e).toArray)).put (some 26) (.agg (bvs h))).put (some 28) (.slice aC (evB e).length cC)).put (some 29) (.agg (bvs (nextH h e)))).put (some 30) (.agg (lnkC e.num (nextH h e)).toArray)) ∧
      V.heap[Ab]? = some (.cells (lnkC e.num (nextH h e)).toArray 54 (0, 0)) ∧ Out (fun k => k = Ab) V0 V) A W5 := by
  have hm : Tryd.prog.follows .mixedOrders = true := by kernel_rfl
  have hEA : E ≠ Ab := fun x => by
    rw [x, ha0] at hs0
    injection hs0 with hs0
    injection hs0 with _ hs0
    exact absurd hs0 (by decide)
  unfold codeLk
  conv => arg 4; whnf
  refine wpIn_region_heldAt (S := fun V => V.heap[E]? = some (.cells (eVals e).toArray 60 (0, 0))) hm (by kernel_rfl) ?_
  rw [show ({ W5 with drawn := W5.drawn + 1 } : World) = V0 from hV0.symm]
  refine wpAnyH_take (i := 0) (v := .pointer (some ⟨E, 0, none⟩)) rfl (by kernel_rfl) (by kernel_rfl) (by kernel_rfl) (fun _ _ _ h => nomatch h.1) (y_ev 0 (by decide) (by simp [Region.wanted]) (.tmp 5) rfl E e5) hs0 ?_
  show wpAnyH _ _ _ _ _ _ _ (A.put (some 23) (.pointer (some ⟨E, 0, none⟩))) _
  refine wpAnyH_take (i := 1) (v := .int .i64 (e.num : Int)) rfl (by kernel_rfl) (by kernel_rfl) (by kernel_rfl) (fun _ _ _ h => nomatch h.1) (y_loadI (by simp [Region.wanted]) (.tmp 23) rfl E 0 _ (ev_eq _ _ (by simp [sz])) (fun V hV => range_whole hV 0 _ rfl)) hs0 ?_
  show wpAnyH _ _ _ _ _ _ _ ((A.put (some 23) (.pointer (some ⟨E, 0, none⟩))).put (some 24) (.int .i64 (e.num : Int))) _
  refine wpAnyH_take (i := 2) (v := .pointer (some ⟨Ab, 1, none⟩)) rfl (by kernel_rfl) (by kernel_rfl) (by kernel_rfl) (fun _ _ _ h => nomatch h.1) (y_link1 (by simp [Region.wanted]) (.tmp 3) rfl Ab 0 ((ev_ne _ _ (by decide)).trans ((ev_ne _ _ (by decide)).trans e3))) hs0 ?_
  show wpAnyH _ _ _ _ _ _ _ (((A.put (some 23) (.pointer (some ⟨E, 0, none⟩))).put (some 24) (.int .i64 (e.num : Int))).put (some 25) (.pointer (some ⟨Ab, 1, none⟩))) _
  refine wpAnyH_take (i := 4) (v := .agg (eVals e).toArray) rfl (by kernel_rfl) (by kernel_rfl) (by kernel_rfl) (fun _ _ _ h => nomatch h.1) (y_loadE (by simp [Region.wanted]) (.tmp 5) rfl E 0 e ((ev_ne _ _ (by decide)).trans ((ev_ne _ _ (by decide)).trans ((ev_ne _ _ (by decide)).trans e5))) (fun V hV => range_whole hV)) hs0 ?_
  show wpAnyH _ _ _ _ _ _ _ ((((A.put (some 23) (.pointer (some ⟨E, 0, none⟩))).put (some 24) (.int .i64 (e.num : Int))).put (some 25) (.pointer (some ⟨Ab, 1, none⟩))).put (some 27) (.agg (eVals e).toArray)) _
  refine wpAnyH_all (rs := [3, 5]) (by kernel_rfl) (by simp) fun i1 hm1 => ?_
  have hn1 : i1 = 3 ∨ i1 = 5 := by simpa using hm1
  clear hm1
  rcases hn1 with rfl | rfl
  · refine YieldsIf.wpOp rfl (y_loadH (S := fun V => V.rangeAt Ab 1 (cellsOf h)) (by simp [Region.wanted]) (.tmp 25) rfl Ab 1 h hh ((ev_ne _ _ (by decide)).trans (ev_eq _ _ (by simp [put_sz, sz]))) (fun V hV => hV)) (link_hash ha0) ⟨hs0, ?_⟩
    show wpAnyH _ _ _ _ _ _ _ (((((A.put (some 23) (.pointer (some ⟨E, 0, none⟩))).put (some 24) (.int .i64 (e.num : Int))).put (some 25) (.pointer (some ⟨Ab, 1, none⟩))).put (some 27) (.agg (eVals e).toArray)).put (some 26) (.agg (bvs h))) _
    refine wpAnyH_all (rs := [5]) (by kernel_rfl) (by simp) fun i2 hm2 => ?_
    obtain rfl : i2 = 5 := by simpa using hm2
    refine wpOp_own rfl rfl fun K2 hK2 => ?_
    refine wp_calls1 54 hf_bytesOf (.tmp 27) _ rfl (.agg (eVals e).toArray) ((ev_ne _ _ (by decide)).trans (ev_eq _ _ (by simp [put_sz, sz]))) ?_
    refine (bytesOf_any V0 e hn ht h12 h30 hT).mono ?_
    rintro _ V1 ⟨aC, cC, rfl, hby, hb1, hcC⟩
    have hs1 := (hb1.block E (heap_lt hs0)).trans hs0
    have ha1 := (hb1.block Ab (heap_lt ha0)).trans ha0
    refine ⟨_, rfl, hK2 _ _ ⟨hs1, ?_⟩⟩
    clear hK2 K2 hm2
    show wpAnyH _ _ _ _ _ _ _ ((((((A.put (some 23) (.pointer (some ⟨E, 0, none⟩))).put (some 24) (.int .i64 (e.num : Int))).put (some 25) (.pointer (some ⟨Ab, 1, none⟩))).put (some 27) (.agg (eVals e).toArray)).put (some 26) (.agg (bvs h))).put (some 28) (.slice aC (evB e).length cC)) _
    obtain ⟨A3, hA3⟩ : ∃ A3, A3 = ((((((A.put (some 23) (.pointer (some ⟨E, 0, none⟩))).put (some 24) (.int .i64 (e.num : Int))).put (some 25) (.pointer (some ⟨Ab, 1, none⟩))).put (some 27) (.agg (eVals e).toArray)).put (some 26) (.agg (bvs h))).put (some 28) (.slice aC (evB e).length cC)) := ⟨_, rfl⟩
    have szA3 : A3.tmps.size = 36 := by rw [hA3]; simp [put_sz, sz]
    have eA33 : A3.eval (.tmp 3) = .pointer (some ⟨Ab, 0, none⟩) := by rw [hA3]; exact ((ev_ne _ _ (by decide)).trans ((ev_ne _ _ (by decide)).trans ((ev_ne _ _ (by decide)).trans ((ev_ne _ _ (by decide)).trans ((ev_ne _ _ (by decide)).trans ((ev_ne _ _ (by decide)).trans e3))))))
    have eA324 : A3.eval (.tmp 24) = .int .i64 (e.num : Int) := by rw [hA3]; exact ((ev_ne _ _ (by decide)).trans ((ev_ne _ _ (by decide)).trans ((ev_ne _ _ (by decide)).trans ((ev_ne _ _ (by decide)).trans (ev_eq _ _ (by simp [put_sz, sz]))))))
    have eA326 : A3.eval (.tmp 26) = .agg (bvs h) := by rw [hA3]; exact ((ev_ne _ _ (by decide)).trans (ev_eq _ _ (by simp [put_sz, sz])))
    have eA328 : A3.eval (.tmp 28) = .slice aC (evB e).length cC := by rw [hA3]; exact (ev_eq _ _ (by simp [put_sz, sz]))
    rw [← hA3]
    refine wpAnyH_all (rs := [6]) (by kernel_rfl) (by simp) fun i3 hm3 => ?_
    obtain rfl : i3 = 6 := by simpa using hm3
    refine wpOp_own rfl rfl fun K3 hK3 => ?_
    refine wp_calls2 53 hf_chain (.tmp 26) (.tmp 28) _ rfl (.agg (bvs h)) (.slice aC (evB e).length cC) eA326 eA328 ?_
    refine (chain_any (w := V1) (h := h) (H := bvs h) ⟨rfl, hh⟩ (evB e) aC (evB e).length cC rfl hby (by have := evB_bound e; omega) hcC (hK.below hb1)).mono ?_
    rintro _ V2 ⟨O, rfl, hO, hb2⟩
    obtain rfl : O = bvs (nextH h e) := hO.out.eq
    have hs2 := (hb2.block E (heap_lt hs1)).trans hs1
    have ha2 := (hb2.block Ab (heap_lt ha1)).trans ha1
    refine ⟨_, rfl, hK3 _ _ ⟨hs2, ?_⟩⟩
    clear hK3 K3 hm3
    show wpAnyH _ _ _ _ _ _ _ (A3.put (some 29) (.agg (bvs (nextH h e)))) _
    refine wpAnyH_take (i := 7) (v := .agg (lnkC e.num (nextH h e)).toArray) rfl (by kernel_rfl) (by kernel_rfl) (by kernel_rfl) (fun _ _ _ h => nomatch h.1) (y_buildL (by simp [Region.wanted]) (.tmp 24) (.tmp 29) rfl e.num (nextH h e) (nextH_length _ _) ((ev_ne _ _ (by decide)).trans eA324) (ev_eq _ _ (by simp [szA3]))) hs2 ?_
    show wpAnyH _ _ _ _ _ _ _ ((A3.put (some 29) (.agg (bvs (nextH h e)))).put (some 30) (.agg (lnkC e.num (nextH h e)).toArray)) _
    refine wpAnyH_all (rs := [8]) (by kernel_rfl) (by simp) fun i4 hm4 => ?_
    obtain rfl : i4 = 8 := by simpa using hm4
    refine wpOp_own rfl rfl fun K4 hK4 => ?_
    refine wp_store_row 54 (.tmp 3) (.tmp 30) rfl Ab (lnkC e.num (nextH h e)).toArray ((ev_ne _ _ (by decide)).trans ((ev_ne _ _ (by decide)).trans eA33)) (ev_eq _ _ (by simp [put_sz, szA3])) 54 (lnkC m h).toArray ha2 (by rw [List.size_toArray, lnkC_length, nextH_length]; exact size_link) (by rw [List.size_toArray, List.size_toArray, lnkC_length, lnkC_length, nextH_length, hh]) (all_oneCell_toArray (lnkC_one _ _)) ?_
    have o2 : Out (fun k => k = Ab) V0 V2 := (Out.of_below hb1).on hb2
    refine hK4 _ _ ⟨(setRow_other _ _ _ _ hEA).trans hs2, wpAnyH_done (by kernel_rfl) ⟨rfl, aC, cC, ?_, setRow_heap _ _ _ _ _ _ ha2, ⟨o2.os, o2.tape, o2.output, by rw [size_setRow]; exact o2.size, fun j hj hp => (setRow_other _ _ _ _ hp).trans (o2.block j hj hp)⟩⟩ _⟩
    show ((A3.put (some 29) (.agg (bvs (nextH h e)))).put (some 30) (.agg (lnkC e.num (nextH h e)).toArray)) = _
    rw [hA3]
  · refine wpOp_own rfl rfl fun K2 hK2 => ?_
    refine wp_calls1 54 hf_bytesOf (.tmp 27) _ rfl (.agg (eVals e).toArray) (ev_eq _ _ (by simp [put_sz, sz])) ?_
    refine (bytesOf_any V0 e hn ht h12 h30 hT).mono ?_
    rintro _ V1 ⟨aC, cC, rfl, hby, hb1, hcC⟩
    have hs1 := (hb1.block E (heap_lt hs0)).trans hs0
    have ha1 := (hb1.block Ab (heap_lt ha0)).trans ha0
    refine ⟨_, rfl, hK2 _ _ ⟨hs1, ?_⟩⟩
    clear hK2 K2
    show wpAnyH _ _ _ _ _ _ _ (((((A.put (some 23) (.pointer (some ⟨E, 0, none⟩))).put (some 24) (.int .i64 (e.num : Int))).put (some 25) (.pointer (some ⟨Ab, 1, none⟩))).put (some 27) (.agg (eVals e).toArray)).put (some 28) (.slice aC (evB e).length cC)) _
    refine wpAnyH_all (rs := [3]) (by kernel_rfl) (by simp) fun i3 hm3 => ?_
    obtain rfl : i3 = 3 := by simpa using hm3
    refine YieldsIf.wpOp rfl (y_loadH (S := fun V => V.rangeAt Ab 1 (cellsOf h)) (by simp [Region.wanted]) (.tmp 25) rfl Ab 1 h hh ((ev_ne _ _ (by decide)).trans ((ev_ne _ _ (by decide)).trans (ev_eq _ _ (by simp [put_sz, sz])))) (fun V hV => hV)) (link_hash ha1) ⟨hs1, ?_⟩
    show wpAnyH _ _ _ _ _ _ _ ((((((A.put (some 23) (.pointer (some ⟨E, 0, none⟩))).put (some 24) (.int .i64 (e.num : Int))).put (some 25) (.pointer (some ⟨Ab, 1, none⟩))).put (some 27) (.agg (eVals e).toArray)).put (some 28) (.slice aC (evB e).length cC)).put (some 26) (.agg (bvs h))) _
    obtain ⟨A3, hA3⟩ : ∃ A3, A3 = ((((((A.put (some 23) (.pointer (some ⟨E, 0, none⟩))).put (some 24) (.int .i64 (e.num : Int))).put (some 25) (.pointer (some ⟨Ab, 1, none⟩))).put (some 27) (.agg (eVals e).toArray)).put (some 28) (.slice aC (evB e).length cC)).put (some 26) (.agg (bvs h))) := ⟨_, rfl⟩
    have szA3 : A3.tmps.size = 36 := by rw [hA3]; simp [put_sz, sz]
    have eA33 : A3.eval (.tmp 3) = .pointer (some ⟨Ab, 0, none⟩) := by rw [hA3]; exact ((ev_ne _ _ (by decide)).trans ((ev_ne _ _ (by decide)).trans ((ev_ne _ _ (by decide)).trans ((ev_ne _ _ (by decide)).trans ((ev_ne _ _ (by decide)).trans ((ev_ne _ _ (by decide)).trans e3))))))
    have eA324 : A3.eval (.tmp 24) = .int .i64 (e.num : Int) := by rw [hA3]; exact ((ev_ne _ _ (by decide)).trans ((ev_ne _ _ (by decide)).trans ((ev_ne _ _ (by decide)).trans ((ev_ne _ _ (by decide)).trans (ev_eq _ _ (by simp [put_sz, sz]))))))
    have eA326 : A3.eval (.tmp 26) = .agg (bvs h) := by rw [hA3]; exact (ev_eq _ _ (by simp [put_sz, sz]))
    have eA328 : A3.eval (.tmp 28) = .slice aC (evB e).length cC := by rw [hA3]; exact ((ev_ne _ _ (by decide)).trans (ev_eq _ _ (by simp [put_sz, sz])))
    rw [← hA3]
    refine wpAnyH_all (rs := [6]) (by kernel_rfl) (by simp) fun i4 hm4 => ?_
    obtain rfl : i4 = 6 := by simpa using hm4
    refine wpOp_own rfl rfl fun K4 hK4 => ?_
    refine wp_calls2 53 hf_chain (.tmp 26) (.tmp 28) _ rfl (.agg (bvs h)) (.slice aC (evB e).length cC) eA326 eA328 ?_
    refine (chain_any (w := V1) (h := h) (H := bvs h) ⟨rfl, hh⟩ (evB e) aC (evB e).length cC rfl hby (by have := evB_bound e; omega) hcC (hK.below hb1)).mono ?_
    rintro _ V2 ⟨O, rfl, hO, hb2⟩
    obtain rfl : O = bvs (nextH h e) := hO.out.eq
    have hs2 := (hb2.block E (heap_lt hs1)).trans hs1
    have ha2 := (hb2.block Ab (heap_lt ha1)).trans ha1
    refine ⟨_, rfl, hK4 _ _ ⟨hs2, ?_⟩⟩
    clear hK4 K4 hm4
    show wpAnyH _ _ _ _ _ _ _ (A3.put (some 29) (.agg (bvs (nextH h e)))) _
    refine wpAnyH_take (i := 7) (v := .agg (lnkC e.num (nextH h e)).toArray) rfl (by kernel_rfl) (by kernel_rfl) (by kernel_rfl) (fun _ _ _ h => nomatch h.1) (y_buildL (by simp [Region.wanted]) (.tmp 24) (.tmp 29) rfl e.num (nextH h e) (nextH_length _ _) ((ev_ne _ _ (by decide)).trans eA324) (ev_eq _ _ (by simp [szA3]))) hs2 ?_
    show wpAnyH _ _ _ _ _ _ _ ((A3.put (some 29) (.agg (bvs (nextH h e)))).put (some 30) (.agg (lnkC e.num (nextH h e)).toArray)) _
    refine wpAnyH_all (rs := [8]) (by kernel_rfl) (by simp) fun i5 hm5 => ?_
    obtain rfl : i5 = 8 := by simpa using hm5
    refine wpOp_own rfl rfl fun K5 hK5 => ?_
    refine wp_store_row 54 (.tmp 3) (.tmp 30) rfl Ab (lnkC e.num (nextH h e)).toArray ((ev_ne _ _ (by decide)).trans ((ev_ne _ _ (by decide)).trans eA33)) (ev_eq _ _ (by simp [put_sz, szA3])) 54 (lnkC m h).toArray ha2 (by rw [List.size_toArray, lnkC_length, nextH_length]; exact size_link) (by rw [List.size_toArray, List.size_toArray, lnkC_length, lnkC_length, nextH_length, hh]) (all_oneCell_toArray (lnkC_one _ _)) ?_
    have o2 : Out (fun k => k = Ab) V0 V2 := (Out.of_below hb1).on hb2
    refine hK5 _ _ ⟨(setRow_other _ _ _ _ hEA).trans hs2, wpAnyH_done (by kernel_rfl) ⟨rfl, aC, cC, ?_, setRow_heap _ _ _ _ _ _ ha2, ⟨o2.os, o2.tape, o2.output, by rw [size_setRow]; exact o2.size, fun j hj hp => (setRow_other _ _ _ _ hp).trans (o2.block j hj hp)⟩⟩ _⟩
    show ((A3.put (some 29) (.agg (bvs (nextH h e)))).put (some 30) (.agg (lnkC e.num (nextH h e)).toArray)) = _
    rw [hA3, put_swap (d := 28) (e := 26) _ (by decide)]
end Go.Proofs.YthnciogaibhmcaaDoor

/- A loop over a function that keeps variables of its own in memory: what is asked of such a function, and the loop's law. -/
namespace Go.Proofs.YthnciogaibhmcaaDoor
open Go.RowKit Go.Shelf
set_option linter.unusedVariables false

/-- what lies in the blocks from lo on, below hi, may have become another; all else stays -/
abbrev Chg (lo hi : Nat) (W W' : World) : Prop := Out (fun k => lo ≤ k ∧ k < hi) W W'
/-- it speaks of what lies below B alone -/
def Beyond {β : Type} (B : Nat) (J : β → World → Prop) : Prop := ∀ s W W', J s W → Below B W W' → J s W'
theorem below_putObj {B : Nat} (W : World) (l : Nat) (o : Obj) (h : B ≤ l) : Below B W (W.putObj l o) := ⟨rfl, rfl, rfl, Nat.le_of_eq World.putObj_size.symm, fun k hk => World.putObj_heap_other (by omega)⟩
theorem Chg.below {lo hi : Nat} {W W' : World} (h : Chg lo hi W W') (hw : lo ≤ W.heap.size) : Below lo W W' := Out.below h hw (fun k hk => hk.1)

theorem Out.setRow {P : Nat → Prop} {w w' : World} (h : Out P w w') (g : Nat) (hg : P g) (cs : Array Value) : Out P w (w'.setRow g cs) :=
  ⟨h.os, h.tape, h.output, by rw [size_setRow]; exact h.size, fun k hk hp => (setRow_other _ _ _ _ (fun x => hp (by rw [x]; exact hg))).trans (h.block k hk hp)⟩
variable {α : Type} {F : Fence} {n : Nat} {P : Program}
/-- the function hands out the elements one by one, and keeps apart what it writes from what lay there -/
def SeqB (F : Fence) (n : Nat) (P : Program) (g : Nat) (lb : Array Value) (encs : α → Array Value) (lo hi : Nat) (S Sp : List α → Prop) (N : Nat) (w : World) : Prop :=
  ∀ (l : Nat) (J Jx : List α → World → Prop) (W : World), Below w.heap.size w W → Beyond W.heap.size J →
    (∀ pre x W1, J pre W1 → W.heap.size ≤ W1.heap.size → pre.length < N → YieldAt F (n - 1) P l (encs x) W1 fun e W' => (e = .returned (.bool true) ∧ J (pre ++ [x]) W' ∧ Chg lo hi W1 W') ∨ (e = .returned (.bool false) ∧ Jx (pre ++ [x]) W')) →
    J [] W → CallsIn F n P g (#[.func (.yield l) #[] #[]] ++ lb) W fun e W' => (∃ v, e = .returned v) ∧ ((∃ xs, S xs ∧ J xs W') ∨ (∃ pre, Sp pre ∧ Jx pre W'))
/-- how the body of a round may end -/
def RoundEnd (lo hi : Nat) (I : List α → World → Prop) (Ix : Code → List α → World → Prop) (xs : List α) (W : World) : Exit → Act → World → Prop
  | .normal, _, W' => Chg lo hi W W' ∧ I xs W'
  | .ret, _, W' => Chg lo hi W W' ∧ Ix .ret xs W'
  | .exit id, _, W' => Chg lo hi W W' ∧ Ix (.exit id) xs W'
  | .goto t, _, W' => Chg lo hi W W' ∧ Ix (.goto t) xs W'
  | .panic _, _, _ => False
  | .outgrown, _, _ => False
/-- a loop's record, and the block behind which its deferred calls would lie -/
structure Book (d : Nat) (r : Loop) (W : World) : Prop where
  rcd : W.heap[d + 1]? = some (.loop r)
  defs : W.heap[d]? = some (.deferred (some []))
theorem Book.keep {d : Nat} {r : Loop} {W W' : World} (h : Book d r W) (h1 : W'.heap[d + 1]? = W.heap[d + 1]?) (h2 : W'.heap[d]? = W.heap[d]?) : Book d r W' := ⟨h1.trans h.rcd, h2.trans h.defs⟩
theorem Book.put {d : Nat} {r : Loop} {W : World} (h : Book d r W) (r' : Loop) : Book d r' (W.putObj (d + 1) (.loop r')) :=
  ⟨World.putObj_heap_same (heap_lt h.rcd), (World.putObj_heap_other (by omega)).trans h.defs⟩
/-- one round: what its body leaves behind is what yield hands on -/
theorem round_ends {d lo hi : Nat} {r : Loop} {I : List α → World → Prop} {Ix : Code → List α → World → Prop} {xs : List α} {W0 W W1 : World} (hr : r.state = .ready) (hp : r.pending = none) (hhi : hi ≤ d)
    (hI : Beyond d I) (hIx : ∀ c, Beyond d (Ix c)) (hB : Book d r W) (hW : Chg lo hi W0 W) (hW1 : W1 = W.putObj (d + 1) (.loop { r with state := .busy })) (e : Exit) (a : Act) (W' : World) (h : RoundEnd lo hi I Ix xs W1 e a W') :
    roundPost P (d + 1) (fun e V => (e = .returned (.bool true) ∧ (I xs V ∧ Book d r V) ∧ Chg lo hi W0 V) ∨ (e = .returned (.bool false) ∧ ∃ c, Ix c xs V ∧ Book d { r with state := .done, pending := some c } V)) e a W' := by
  have hB1 : Book d { r with state := .busy } W1 := by rw [hW1]; exact hB.put _
  have s1 : W1.heap.size = W.heap.size := by rw [hW1]; simp
  have l1 : d + 1 < W1.heap.size := heap_lt hB1.rcd
  have fin : ∀ W', Chg lo hi W1 W' → Book d { r with state := .busy } W' := fun W' hc => hB1.keep (hc.block _ l1 (by omega)) (hc.block _ (by omega) (by omega))
  have left : ∀ (c : Code) (W' : World), Chg lo hi W1 W' → Ix c xs W' → ∃ v V, (Instr.endRound (d + 1) (some c)).run P W' = .ok v V ∧ ((Ending.returned v = .returned (.bool true) ∧ (I xs V ∧ Book d r V) ∧ Chg lo hi W0 V) ∨ (Ending.returned v = .returned (.bool false) ∧ ∃ c, Ix c xs V ∧ Book d { r with state := .done, pending := some c } V)) := fun c W' hc hi' =>
    ⟨_, _, run_endRound (some c) (fin W' hc).rcd, .inr ⟨rfl, c, hIx c xs _ _ hi' (below_putObj _ _ _ (by omega)), (fin W' hc).put _⟩⟩
  cases e with
  | normal =>
    obtain ⟨hc, hi'⟩ := h
    have hb := fin W' hc
    have hrr : ({ ({ r with state := .busy } : Loop) with state := .ready, pending := none } : Loop) = r := by
      cases r
      simp only at hr hp
      subst hr
      subst hp
      rfl
    refine ⟨_, _, run_endRound none hb.rcd, .inl ⟨rfl, ⟨hI xs _ _ hi' (below_putObj _ _ _ (by omega)), ?_⟩, ?_⟩⟩
    · have := hb.put r
      simp only [Option.isNone_none, if_true]
      rw [hrr]
      exact this
    · simp only [Option.isNone_none, if_true]
      rw [hrr]
      have s0 := hW.size
      have s2 := hc.size
      refine ⟨hc.os.trans ?_, hc.tape.trans ?_, hc.output.trans ?_, by simp; omega, fun k hk hn => ?_⟩
      · rw [hW1]; exact hW.os
      · rw [hW1]; exact hW.tape
      · rw [hW1]; exact hW.output
      · by_cases hkd : k = d + 1
        · subst hkd
          rw [World.putObj_heap_same (heap_lt hb.rcd), ← hW.block _ hk hn]
          exact hB.rcd.symm
        · rw [World.putObj_heap_other hkd, hc.block k (by omega) hn, hW1, World.putObj_heap_other hkd]
          exact hW.block k hk hn
  | ret => exact left _ _ h.1 h.2
  | exit id => exact left _ _ h.1 h.2
  | goto t => exact left _ _ h.1 h.2
  | panic c => exact h.elim
  | outgrown => exact h.elim

/-- the loop -/
theorem range_B {g : Operand} {ps : Array Tmp} {assign body : Code} {Q : Exit → Act → World → Prop} {a : Act} {w : World} (hro : F.round = none) (h1 : 1 ≤ n) {gf : Nat} {lb : Array Value} (hg : a.eval g = .func (.func gf) #[] lb) (hFg : F.fn gf) (eg : ∀ args w, (callFunc gf args).run P w = .ok (.enter gf args) w)
    {encs : α → Array Value} {lo hi : Nat} {S Sp : List α → Prop} {N : Nat} (hseq : SeqB F (n - 1) P gf lb encs lo hi S Sp N w) (hhi : hi ≤ w.heap.size) (hps : ∀ x, (encs x).size = ps.size)
    (I : List α → World → Prop) (Ix : Code → List α → World → Prop) (hI : Beyond w.heap.size I) (hIx : ∀ c, Beyond w.heap.size (Ix c)) (h0 : I [] w)
    (hround : ∀ (l : Nat) (pre : List α) (x : α) (W : World), w.heap.size + 1 < W.heap.size → I pre W → pre.length < N →
      assign.wpIn (F.inRound l) (n - 1 - 1) P (Exit.then (fun a1 W1 => Chg lo hi W W1 ∧ ∀ o, body.wpIn (F.inRound l) (n - 1 - 1) P (RoundEnd lo hi I Ix (pre ++ [x]) (W1.putObj (w.heap.size + 1) o)) a1 (W1.putObj (w.heap.size + 1) o)) (fun _ _ _ => False)) { tmps := (ps.zip (encs x)).foldl (fun t (p, v) => t.setIfInBounds p v) a.tmps, defers := [] } W)
    (hdone : ∀ (xs : List α) (W : World), S xs → I xs W → W.heap[w.heap.size]? = some (.deferred (some [])) → Q .normal { a with defers := { target := .collected w.heap.size, args := #[] } :: a.defers } W)
    (hstop : ∀ (c : Code) (pre : List α) (W : World), Sp pre → Ix c pre W → W.heap[w.heap.size]? = some (.deferred (some [])) → c.wpIn F n P Q { a with defers := { target := .collected w.heap.size, args := #[] } :: a.defers } W) :
    (Code.rangeFunc g ps assign body).wpIn F n P Q a w := by
  refine wpIn_rangeFunc fun fn hfn => ?_
  rw [hro]
  obtain ⟨r, hr⟩ : ∃ r : Loop, r = { state := .ready, pending := none, fn, tmps := a.tmps, params := ps, assign, body, defers := w.heap.size } := ⟨_, rfl⟩
  obtain ⟨d, hd⟩ : ∃ d, d = w.heap.size := ⟨_, rfl⟩
  obtain ⟨V, hV⟩ : ∃ V, V = (w.alloc (.deferred (some []))).alloc (.loop r) := ⟨_, rfl⟩
  have bV : Below w.heap.size w V := by rw [hV]; exact ((Below.refl _ w).alloc (Nat.le_refl _) _).alloc (by simp) _
  have sV : V.heap.size = d + 2 := by rw [hV, hd]; simp
  have kV : Book d r V := by
    refine ⟨?_, ?_⟩
    · rw [hV, hd]
      have := World.alloc_heap_new (w.alloc (.deferred (some []))) (.loop r)
      rwa [World.size_alloc] at this
    · rw [hV, hd]
      exact (Below.heap_alloc _ _ _ (by simp)).trans (World.alloc_heap_new w _)
  rw [← hd] at hI hIx hhi hround hdone hstop bV
  refine ⟨d + 1, [{ target := .collected d, args := #[] }], V, { target := .fn (.func gf) lb, args := #[.func (.yield (d + 1)) #[] #[]] }, V, gf, #[.func (.yield (d + 1)) #[] #[]] ++ lb, V, ?_, ?_, ?_, ?_, fun _ => h1, ?_⟩
  · rw [hV, hr, hd]
    exact run_enterLoop_outer _ _ _ _ _
  · simp only [resolve, hg]
    simp [go_sem]
  · intro f' hf'
    simp [Target.leads] at hf'
    subst hf'
    exact hFg
  · simp [invoke, go_sem, eg]
  · have keepB : ∀ {r' : Loop} {A B : World}, Book d r' A → Below V.heap.size A B → Book d r' B := fun h hb => h.keep (hb.block _ (by omega)) (hb.block _ (by omega))
    refine (hseq (d + 1) (fun pre W => I pre W ∧ Book d r W) (fun pre W => ∃ c, Ix c pre W ∧ Book d { r with state := .done, pending := some c } W) V (by rw [← hd]; exact bV)
      (fun s A B hs hb => ⟨hI s A B hs.1 (hb.mono (by omega)), keepB hs.2 hb⟩) ?_ ⟨hI _ _ _ h0 bV, kV⟩).mono ?_
    · rintro pre x W ⟨hi', hb⟩ hsz hlen
      have hy := run_yield (P := P) (args := encs x) hb.rcd (by rw [hr]; exact hps x)
      rw [hr] at hy
      refine ⟨fn, _, assign, body, hy, roundIn_of_wpIn hfn (wpIn_mono (hround (d + 1) pre x W (by omega) hi' hlen) ?_)⟩
      clear hy
      rintro e a1 W1 hp
      cases e with
      | normal =>
        obtain ⟨hc, hbody⟩ := hp
        have l1 : d + 1 < W.heap.size := by omega
        have hb1 : Book d r W1 := hb.keep (hc.block _ l1 (by omega)) (hc.block _ (by omega) (by omega))
        have hbegin := run_beginRound (P := P) hb1.rcd (by rw [hr])
        refine ⟨_, hbegin, ?_⟩
        exact wpIn_mono (hbody _) (fun e a W' h => round_ends (by rw [hr]) (by rw [hr]) hhi hI hIx hb1 hc rfl e a W' h)
      | ret => exact hp.elim
      | exit id => exact hp.elim
      | goto t => exact hp.elim
      | panic c => exact hp.elim
      | outgrown => exact hp.elim
    · rintro e W2 ⟨⟨v, rfl⟩, (⟨xs, hS, hi', hb⟩ | ⟨pre, hSp, c, hi', hb⟩)⟩
      · exact ⟨none, _, by have := run_endLoop (P := P) hb.rcd (by rw [hr]; simp); rw [hr] at this; exact this, hdone xs _ hS (hI _ _ _ hi' (below_putObj _ _ _ (by omega))) ((World.putObj_heap_other (by omega)).trans hb.defs)⟩
      · exact ⟨some c, _, by have := run_endLoop (P := P) hb.rcd (by simp); rw [hr] at this; exact this, hstop c pre _ hSp (hIx c _ _ _ hi' (below_putObj _ _ _ (by omega))) ((World.putObj_heap_other (by omega)).trans hb.defs)⟩
end Go.Proofs.YthnciogaibhmcaaDoor

/- The links of a chain, handed out one by one: audit.links. -/
namespace Go.Proofs.YthnciogaibhmcaaDoor
open Go.RowKit Go.Shelf
set_option linter.unusedVariables false
set_option maxRecDepth 20000
attribute [local go_sem] Oper.semAt_some

/-- loading and storing a link, kept whole in the walk -/
def loadL (x : Value) : Sem Value := Instr.loadAt 54 x
theorem loadL_fold (x : Value) : Instr.loadAt 54 x = loadL x := rfl
def storeL (x v : Value) : Sem Unit := Instr.storeAt 54 x v
theorem storeL_fold (x v : Value) : Instr.storeAt 54 x v = storeL x v := rfl
theorem loadL_run {w : World} {g o n : Nat} {h : List UInt8} (hr : w.rangeAt g o (lnkC n h)) (hl : h.length = 32) : (loadL (.pointer (some ⟨g, o, none⟩))).run Tryd.prog w = .ok (.agg (lnkC n h).toArray) w :=
  run_loadAt_mid w g o 54 (lnkC n h) _ hr Tryd.underlying54 rfl (by rw [lnkC_length, hl]; exact size_link)
theorem storeL_run {w : World} {g o n : Nat} {h : List UInt8} (ht : w.there g o 33) (hl : h.length = 32) : (storeL (.pointer (some ⟨g, o, none⟩)) (.agg (lnkC n h).toArray)).run Tryd.prog w = .ok () (w.setCells g o (lnkC n h)) := by
  have := run_storeAt_mid (P := Tryd.prog) w g o 54 (lnkC n h).toArray (by rw [List.size_toArray, lnkC_length, hl]; exact ht) (by rw [List.size_toArray, lnkC_length, hl]; exact size_link) (all_oneCell_toArray (lnkC_one _ _))
  exact this
theorem storeL_new (w : World) (n : Nat) (h : List UInt8) (hl : h.length = 32) : (storeL (.pointer (some ⟨w.heap.size, 0, none⟩)) (.agg (lnkC n h).toArray)).run Tryd.prog (w.alloc (.cells #[.int .i64 0, .int .u8 0, .int .u8 0, .int .u8 0, .int .u8 0, .int .u8 0, .int .u8 0, .int .u8 0, .int .u8 0, .int .u8 0, .int .u8 0, .int .u8 0, .int .u8 0, .int .u8 0, .int .u8 0, .int .u8 0, .int .u8 0, .int .u8 0, .int .u8 0, .int .u8 0, .int .u8 0, .int .u8 0, .int .u8 0, .int .u8 0, .int .u8 0, .int .u8 0, .int .u8 0, .int .u8 0, .int .u8 0, .int .u8 0, .int .u8 0, .int .u8 0, .int .u8 0] 54)) = .ok () (w.alloc (.cells (lnkC n h).toArray 54)) :=
  run_storeAt_new w 54 _ (lnkC n h).toArray (by rw [List.size_toArray, lnkC_length, hl]; exact size_link) (Eq.trans (b := 33) rfl (by rw [List.size_toArray, lnkC_length, hl])) (all_oneCell_toArray (lnkC_one _ _))
attribute [local go_sem ↓] loadL_fold storeL_fold

/-- a link -/
structure Lnk where
  n : Nat
  h : List UInt8
  len : h.length = 32
def lnkV (x : Lnk) : Array Value := #[.agg (lnkC x.n x.h).toArray]
/-- the k-th link of a chain, and all -/
def lk (c : Ch) (ok : ChOk c) (k : Nat) : Lnk := ⟨c.bn + k, c.at k, Ch.at_length ok k⟩
def lks (c : Ch) (ok : ChOk c) (k : Nat) : List Lnk := (List.range k).map (lk c ok)
theorem lks_succ (c : Ch) (ok : ChOk c) (k : Nat) : lks c ok (k + 1) = lks c ok k ++ [lk c ok k] := by simp [lks, List.range_succ]
theorem lks_length (c : Ch) (ok : ChOk c) (k : Nat) : (lks c ok k).length = k := by simp [lks]
theorem wpIn_act {F : Fence} {n : Nat} {P : Program} {c : Code} {Q : Exit → Act → World → Prop} (a : Act) {w : World} (h : ∀ A, A = a → c.wpIn F n P Q A w) : c.wpIn F n P Q a w := h a rfl
theorem Ch.at_succ (c : Ch) (k : Nat) (h : k < c.ev.length) : c.at (k + 1) = nextH (c.at k) c.ev[k] := endH_take _ _ _ h
theorem ChAt.row_at {w : World} {B g : Nat} {a0 : Option Addr} {cap : Nat} {c : Ch} (h : ChAt w B g (.slice a0 c.ev.length cap) c) (k : Nat) (hk : k < c.ev.length) : ∃ b, a0 = some ⟨b, 0, none⟩ ∧ w.rangeAt b (k * 4) (eVals c.ev[k]) := by
  rcases h.row.2 with ⟨_, h0⟩ | ⟨b, cap', cur, hv, _, hg, _, _, _, ht⟩
  · omega
  · cases hv
    refine ⟨b, rfl, fun j u hj => ?_⟩
    have hj4 : j < 4 := (List.getElem?_eq_some_iff.1 hj).1
    rw [cell_of_row _ _ _ _ _ _ hg, ← Array.getElem?_toList]
    have h1 : (cur.toList.take (c.ev.length * 4))[k * 4 + j]? = some u := by rw [ht, eCells_get _ _ hk _ hj4]; exact hj
    rw [List.getElem?_take_of_lt (by omega)] at h1
    exact h1
/-- what the loop over the events keeps -/
structure LInv (J : List Lnk → World → Prop) (B g Ab : Nat) (v : Value) (c : Ch) (ok : ChOk c) (k : Nat) (wr : World) : Prop where
  j : J (lks c ok (k + 1)) wr
  ch : ChAt wr B g v c
  cur : wr.heap[Ab]? = some (.cells (lnkC (c.bn + k) (c.at k)).toArray 54 (0, 0))
  tb : Tabs wr B
/-- a round of a loop keeps it -/
theorem LInv.next {J : List Lnk → World → Prop} {B g Ab lo hi k : Nat} {v : Value} {c : Ch} {ok : ChOk c} {W W' : World} (hch : ChAt W B g v c) (hcur : W.heap[Ab]? = some (.cells (lnkC (c.bn + k) (c.at k)).toArray 54 (0, 0))) (htb : Tabs W B)
    (hk : Chg lo hi W W') (hj : J (lks c ok (k + 1)) W') (hB : B ≤ lo) (hlo : lo ≤ W.heap.size) (hg : g < lo) (hv : ∀ k, v.ownBlock = some k → k < lo) (hA : hi ≤ Ab) : LInv J B g Ab v c ok k W' :=
  ⟨hj, hch.out hk (by omega) (fun j hj => by have := hv j hj; omega), (hk.block Ab (heap_lt hcur) (by omega)).trans hcur, htb.keep ((Chg.below hk hlo).mono hB)⟩

/-- how the function ends -/
def LPost (J Jx : List Lnk → World → Prop) (c : Ch) (ok : ChOk c) (e : Ending) (W' : World) : Prop := (∃ v, e = .returned v) ∧ ((∃ xs, xs = lks c ok (c.ev.length + 1) ∧ J xs W') ∨ (∃ pre, (∃ k, k ≤ c.ev.length ∧ pre = lks c ok (k + 1)) ∧ Jx pre W'))

set_option maxHeartbeats 4000000 in
theorem links1_in (n l Bk B g lo hi : Nat) (v : Value) (c : Ch) (ok : ChOk c) (hc : c.cnt < 1152921504606846976) (J Jx : List Lnk → World → Prop) (W : World) (hlo : lo ≤ hi) (hhi : hi ≤ W.heap.size)
    (hJ : Beyond W.heap.size J) (hY : ∀ pre x W1, J pre W1 → W.heap.size ≤ W1.heap.size → pre.length < 66 → YieldAt Fence.wide (n - 1) Tryd.prog l (lnkV x) W1 fun e W' => (e = .returned (.bool true) ∧ J (pre ++ [x]) W' ∧ Chg lo hi W1 W') ∨ (e = .returned (.bool false) ∧ Jx (pre ++ [x]) W'))
    (H : ChAt W B g v c) (hg : g < lo) (hv : ∀ k, v.ownBlock = some k → k < lo) (hT : Tabs W B) (hB : B ≤ lo) (hBk : W.cell? ⟨Bk, 0, none⟩ = some (.pointer (some ⟨g, 0, none⟩))) (hBl : Bk < lo ∨ hi ≤ Bk) (h0 : J [] W) :
    CallsIn Fence.wide n Tryd.prog 63 #[.func (.yield l) #[] #[], .pointer (some ⟨Bk, 0, none⟩)] W (LPost J Jx c ok) := by
  have HY := hid hY
  have HJ := hid hJ
  have H0 := hid h0
  have hL0 := loadL_run H.rb ok.lb
  have hS0 := storeL_new W c.bn c.bh ok.lb
  obtain ⟨Wa, hWa⟩ : ∃ Wa, Wa = W.alloc (.cells (lnkC c.bn c.bh).toArray 54) := ⟨_, rfl⟩
  have bWa : Below W.heap.size W Wa := by rw [hWa]; exact (Below.refl _ W).alloc (Nat.le_refl _) _
  have aWa : Wa.heap[W.heap.size]? = some (.cells (lnkC c.bn c.bh).toArray 54 (0, 0)) := by rw [hWa]; exact heap_alloc_new W _
  have hL1 := loadL_run (range_whole aWa) ok.lb
  rw [← hWa] at hS0
  have kBk : Bk < W.heap.size := World.block_lt_of_cell? _ _ hBk
  obtain ⟨Ab, hAb⟩ : ∃ Ab, Ab = W.heap.size := ⟨_, rfl⟩
  have hJa : J [] Wa := HJ.out _ _ _ H0.out bWa
  obtain ⟨fn, tmps, assign, body, hy, hR⟩ := HY.out [] (lk c ok 0) Wa hJa (by rw [← hAb]; have := bWa.size; omega) (by simp)
  have hlv : lnkV (lk c ok 0) = #[.agg (lnkC c.bn c.bh).toArray] := by
    show #[Value.agg (lnkC (c.bn + 0) (c.at 0)).toArray] = _
    rw [Ch.at_zero]
    rfl
  rw [hlv] at hy
  have HR := hid hR
  have HH := hid H
  have HTb := hid hT
  have BWa := hid bWa
  have AWa := hid aWa
  have HBk := hid hBk
  have hgl : g < W.heap.size := H.lt
  have HAb := hid hAb
  clear hY hJ h0 hR H hT bWa aWa hJa hlv hWa hAb
  refine callsIn_of_wp Tryd.func63 rfl trivial ?_ rfl
  simp only [Tryd.ntmps63, List.size_toArray, List.length_cons, List.length_nil, Nat.reduceAdd, Nat.reduceSub, Array.replicate_succ, Array.replicate_zero, List.push_toArray, List.append_toArray, List.nil_append, List.cons_append]
  gi_wp2_with fail
  refine ⟨nodepth, HR.out.mono ?_⟩
  rintro e W3 (⟨rfl, hJ3, hk3⟩ | ⟨rfl, hJx3⟩)
  · have ch1 := HH.out.below BWa.out
    have li : LInv J B g Ab v c ok 0 W3 := by
      refine LInv.next (lo := lo) (hi := hi) ch1 ?_ ((HTb.out).below (by omega) BWa.out) hk3 ?_ hB (by have := BWa.out.size; omega) hg hv (by have := HAb.out; omega)
      · rw [Ch.at_zero, HAb.out]; exact AWa.out
      · rw [lks_succ]; exact hJ3
    have s3 : W.heap.size < W3.heap.size := Nat.lt_of_lt_of_le (heap_lt AWa.out) hk3.size
    have bk3 : W3.cell? ⟨Bk, 0, none⟩ = some (.pointer (some ⟨g, 0, none⟩)) := by
      have h1 : W3.heap[Bk]? = W.heap[Bk]? := (hk3.block Bk (by have := BWa.out.size; omega) (by omega)).trans (BWa.out.block Bk kBk)
      have : W3.cell? ⟨Bk, 0, none⟩ = W.cell? ⟨Bk, 0, none⟩ := by simp only [World.cell?, h1]
      rw [this]
      exact HBk.out
    obtain ⟨a0, cap, rfl⟩ := HH.out.val
    have c66 := li.ch.c66 ok.l
    obtain ⟨N, hN⟩ : ∃ N, N = c.ev.length := ⟨_, rfl⟩
    have hN64 : N ≤ 64 := by rw [hN]; exact ok.few
    rw [← hN] at c66
    have HN := hid hN
    have LI := hid li
    have J3 := hid hJ3
    clear hJ3 li hN ch1 hk3 HR hy hL0 hS0 hL1 HTb HH BWa AWa
    gi_wp2
    clear c66 bk3
    gi_loopw [19] (fun v19 wr => ∃ k : Nat, v19 = .int .i64 (k : Int) ∧ k ≤ N ∧ LInv J B g Ab (.slice a0 c.ev.length cap) c ok k wr ∧ W.heap.size < wr.heap.size) (fun v19 _ => N - (intOf v19).toNat)
    case atStart => exact ⟨0, rfl, Nat.zero_le _, LI.out, s3⟩
    case round =>
      obtain ⟨k, rfl, hkN, hli, hsz⟩ := hrel
      have LK := hid hli
      clear hli LI
      by_cases hlt : k < N
      · have d1 : (k : Int) < (N : Int) := by omega
        have d0 : (0 : Int) ≤ (k : Int) := by omega
        have hkl : k < c.ev.length := by rw [← HN.out]; exact hlt
        obtain ⟨b, hb, rb⟩ := LK.out.ch.row_at k hkl
        obtain ⟨e, he⟩ : ∃ e, e = c.ev[k] := ⟨_, rfl⟩
        rw [← he] at rb
        have q0 : wr.cell? ⟨b, k * 4, none⟩ = some (.int .i64 (e.num : Int)) := rb 0 _ rfl
        have q1 : wr.cell? ⟨b, k * 4 + 1, none⟩ = some (.int .i64 (e.tim : Int)) := rb 1 _ rfl
        have q2 : wr.cell? ⟨b, k * 4 + 2, none⟩ = some (.string e.what) := rb 2 _ rfl
        have q3 : wr.cell? ⟨b, k * 4 + 3, none⟩ = some (.string e.who) := rb 3 _ rfl
        have hem : e ∈ c.ev := by rw [he]; exact List.getElem_mem _
        have hnum : e.num = c.bn + (k + 1) := by rw [he, ok.num k hkl]; omega
        have hti : e.tim ≤ 4611686018427387904 := by have := ok.tim e hem; have := ok.las; omega
        have hsi := ok.siz e hem
        have hat := Ch.at_succ c k hkl
        rw [← he] at hat
        have HE := hid he
        have Hnum := hid hnum
        have Hat := hid hat
        have Hsi := hid hsi
        have Hti := hid hti
        have Hem := hid hem
        obtain rfl : a0 = some ⟨b, 0, none⟩ := hb
        clear he hnum hat hsi hti hem rb
        gi_wp2_with fail
        rw [show (#[.int .i64 (e.num : Int), .int .i64 (e.tim : Int), .string e.what, .string e.who] : Array Value) = (eVals e).toArray from rfl]
        obtain ⟨W5, hW5⟩ : ∃ W5, W5 = wr.alloc (.cells (eVals e).toArray 60) := ⟨_, rfl⟩
        obtain ⟨V0, hV0⟩ : ∃ V0, V0 = W5.drew := ⟨_, rfl⟩
        rw [← hW5]
        have b5 : Below wr.heap.size wr V0 := by rw [hV0, hW5]; exact ((Below.refl _ wr).alloc (Nat.le_refl _) _).drew
        have s5 : V0.heap[wr.heap.size]? = some (.cells (eVals e).toArray 60 (0, 0)) := by rw [hV0, hW5]; exact heap_alloc_new wr _
        have hAw : Ab < wr.heap.size := heap_lt LK.out.cur
        have T5 : Tabs V0 B := LK.out.tb.below (by omega) b5
        have hc' := hc
        unfold Ch.cnt at hc'
        have hnu : e.num ≤ 4611686018427387904 := by rw [Hnum.out]; omega
        refine wpIn_act _ fun A hA => ?_
        have sz : A.tmps.size = 36 := by rw [hA]; rfl
        have e3 : A.eval (.tmp 3) = .pointer (some ⟨Ab, 0, none⟩) := by rw [hA, HAb.out]; rfl
        have e5 : A.eval (.tmp 5) = .pointer (some ⟨wr.heap.size, 0, none⟩) := by rw [hA]; rfl
        refine wpIn_split _ (links_region5 (ro := none) sz e3 e5 hV0 ((b5.block Ab hAw).trans LK.out.cur) (Ch.at_length ok k) s5 hnu Hti.out Hsi.out.1 Hsi.out.2 T5.tab T5.kat) ?_
        rintro _ V5 ⟨aC, cC, rfl, ha5, o5⟩
        rw [hA]
        simp only [Act.put, List.setIfInBounds_toArray, List.set_cons_succ, List.set_cons_zero]
        rw [Hnum.out, ← Hat.out] at ha5
        have hl5 : (c.at (k + 1)).length = 32 := Ch.at_length ok (k + 1)
        have hL5 := loadL_run (range_whole ha5) hl5
        have hbV : Below W.heap.size wr V5 := (b5.mono (by omega)).trans (o5.below (by have := b5.size; omega) (fun j hj => by have := HAb.out; omega))
        have hJ5 := HJ.out _ _ _ LK.out.j hbV
        obtain ⟨fn, tmps, assign, body, hy, hR⟩ := HY.out _ (lk c ok (k + 1)) V5 hJ5 (by have := hbV.size; omega) (by rw [lks_length]; omega)
        have hlv : lnkV (lk c ok (k + 1)) = #[.agg (lnkC (c.bn + (k + 1)) (c.at (k + 1))).toArray] := rfl
        rw [hlv] at hy
        have ch5 : ChAt V5 B g (.slice (some ⟨b, 0, none⟩) c.ev.length cap) c := (LK.out.ch.below b5).out o5 (by have := HAb.out; omega) (fun j hj => by have := hv j hj; have := HAb.out; omega)
        have t5 : Tabs V5 B := T5.keep ((o5.below (by have := b5.size; omega) (fun j hj => by have := HAb.out; omega)).mono (show B ≤ W.heap.size by omega))
        have HR := hid hR
        have HA5 := hid ha5
        have CH5 := hid ch5
        have TB5 := hid t5
        have Hsz5 := hid hbV.size
        have HAb2 := HAb.out
        subst HAb2
        clear hR hlv sz e3 e5 hA A ha5 ch5 t5 hbV hJ5 o5 T5 b5 s5 hV0 hW5 q0 q1 q2 q3
        gi_wp2_with fail
        refine ⟨nodepth, HR.out.mono ?_⟩
        rintro x W6 (⟨rfl, hJ6, hk6⟩ | ⟨rfl, hJx6⟩)
        · have li6 : LInv J B g W.heap.size (.slice (some ⟨b, 0, none⟩) c.ev.length cap) c ok (k + 1) W6 := LInv.next CH5.out HA5.out TB5.out hk6 (by rw [lks_succ]; exact hJ6) hB (by have := Hsz5.out; omega) hg hv (by omega)
          have LI6 := hid li6
          have s6 := hk6.size
          have s7 := Hsz5.out
          clear hJ6 hk6 li6 HR hy hL5
          gi_wp2
          go_roundw
          case rel => exact ⟨k + 1, by go_num, by omega, LI6.out, by omega⟩
          case measure => simp [intOf]; omega
        · have HX := hid hJx6
          clear hJx6 HR hy hL5
          gi_wp2
          refine bodyPost_ret (results_none rfl _ _ _) rfl ?_
          exact ⟨⟨_, rfl⟩, .inr ⟨_, ⟨k + 1, by rw [← HN.out]; omega, (lks_succ c ok (k + 1)).symm⟩, HX.out⟩⟩
      · have d1 : ¬ (k : Int) < (N : Int) := by omega
        have hkk : k = N := by omega
        gi_wp2
        go_end0
        exact ⟨⟨_, rfl⟩, .inl ⟨_, rfl, by rw [← HN.out, ← hkk]; exact LK.out.j⟩⟩
  · have HX := hid hJx3
    clear hJx3 HR hy hL0 hS0 hL1
    gi_wp2
    refine bodyPost_ret (results_none rfl _ _ _) rfl ?_
    exact ⟨⟨_, rfl⟩, .inr ⟨_, ⟨0, Nat.zero_le _, by rw [lks_succ]; rfl⟩, HX.out⟩⟩
theorem links_seq (n Bk B g lo hi : Nat) (v : Value) (c : Ch) (ok : ChOk c) (hc : c.cnt < 1152921504606846976) (w : World) (hlo : lo ≤ hi) (hhi : hi ≤ w.heap.size) (H : ChAt w B g v c) (hg : g < lo) (hv : ∀ k, v.ownBlock = some k → k < lo) (hT : Tabs w B) (hB : B ≤ lo)
    (hBk : w.cell? ⟨Bk, 0, none⟩ = some (.pointer (some ⟨g, 0, none⟩))) (hBl : Bk < lo ∨ hi ≤ Bk) :
    SeqB Fence.wide n Tryd.prog 63 #[.pointer (some ⟨Bk, 0, none⟩)] lnkV lo hi (fun xs => xs = lks c ok (c.ev.length + 1)) (fun pre => ∃ k, k ≤ c.ev.length ∧ pre = lks c ok (k + 1)) 66 w :=
  fun l J Jx W hW hJ hY h0 => links1_in n l Bk B g lo hi v c ok hc J Jx W hlo (Nat.le_trans hhi hW.size) hJ hY (H.below hW) hg hv (hT.below (by omega) hW) hB ((hW.cell (p := ⟨Bk, 0, none⟩) (World.block_lt_of_cell? _ _ hBk)).trans hBk) hBl h0

set_option maxHeartbeats 400000 in
theorem links_any (w : World) (p : Option Addr) : Calls Tryd.prog 47 #[.pointer p] w fun e w' => e = .returned (.func (.func 63) #[] #[.pointer (some ⟨w.heap.size, 0, none⟩)]) ∧ w' = w.alloc (.cells #[.pointer p] 23) := by
  go_enter Tryd.func47, Tryd.ntmps47
  go_wp2
  go_ret
  exact ⟨rfl, rfl⟩
end Go.Proofs.YthnciogaibhmcaaDoor

/- The link of a number: audit.linkAt. -/
namespace Go.Proofs.YthnciogaibhmcaaDoor
open Go.RowKit Go.Shelf
set_option linter.unusedVariables false
set_option maxRecDepth 20000
attribute [local go_sem] Oper.semAt_some
attribute [local go_sem ↓] loadL_fold storeL_fold

abbrev zlnk : Array Value := #[.int .i64 0, .int .u8 0, .int .u8 0, .int .u8 0, .int .u8 0, .int .u8 0, .int .u8 0, .int .u8 0, .int .u8 0, .int .u8 0, .int .u8 0, .int .u8 0, .int .u8 0, .int .u8 0, .int .u8 0, .int .u8 0, .int .u8 0, .int .u8 0, .int .u8 0, .int .u8 0, .int .u8 0, .int .u8 0, .int .u8 0, .int .u8 0, .int .u8 0, .int .u8 0, .int .u8 0, .int .u8 0, .int .u8 0, .int .u8 0, .int .u8 0, .int .u8 0, .int .u8 0]
theorem zlnk_eq : zlnk = (lnkC 0 zero32).toArray := rfl
theorem storeL_row {w : World} {g n : Nat} {h : List UInt8} {old : Array Value} (hl : h.length = 32) (hg : w.heap[g]? = some (.cells old 54 (0, 0))) (ho : old.size = 33) : (storeL (.pointer (some ⟨g, 0, none⟩)) (.agg (lnkC n h).toArray)).run Tryd.prog w = .ok () (w.setRow g (lnkC n h).toArray) := by
  unfold storeL
  simp only [Instr.storeAt, Instr.sureAddr, Sem.run_bind, Sem.run_pure, Result.andThen]
  exact run_storeVar_row w g 54 54 old (lnkC n h).toArray hg (by rw [List.size_toArray, lnkC_length, hl]; exact size_link) (ho.trans (by rw [List.size_toArray, lnkC_length, hl])) (all_oneCell_toArray (lnkC_one _ _))
theorem lnkC_sz (n : Nat) (h : List UInt8) (hl : h.length = 32) : (lnkC n h).toArray.size = 33 := by rw [List.size_toArray, lnkC_length, hl]
/-- what the loop keeps: the number asked for, the result's cells, the link that came last -/
structure TAt (h : Nat) (w : World) (N : Nat) (pre : List Lnk) (W : World) : Prop where
  box : Boxed W h 3 (.int .i64 (N : Int))
  res : W.heap[h + 1]? = some (.cells zlnk 54 (0, 0))
  cur : ∃ m l, l.length = 32 ∧ W.heap[h + 2]? = some (.cells (lnkC m l).toArray 54 (0, 0))
  bel : Below h w W
  non : ∀ x ∈ pre, x.n ≠ N
structure TEnd (h : Nat) (w : World) (N : Nat) (c : Code) (pre : List Lnk) (W : World) : Prop where
  ex : c = .exit 0
  res : W.heap[h + 1]? = some (.cells zlnk 54 (0, 0))
  cur : ∃ x, pre.getLast? = some x ∧ x.n = N ∧ W.heap[h + 2]? = some (.cells (lnkC x.n x.h).toArray 54 (0, 0))
  bel : Below h w W
theorem tAt_beyond (h : Nat) (w : World) (N D : Nat) (hD : h + 3 ≤ D) (hw : h = w.heap.size) : Beyond D (fun pre W => TAt h w N pre W) := fun s W W' hs hb => by
  obtain ⟨m, l, hl, hc⟩ := hs.cur
  exact ⟨(hb.block h (by omega)).trans hs.box, (hb.block _ (by omega)).trans hs.res, ⟨m, l, hl, (hb.block _ (by omega)).trans hc⟩, hs.bel.trans (hb.mono (by omega)), hs.non⟩
theorem tEnd_beyond (h : Nat) (w : World) (N D : Nat) (hD : h + 3 ≤ D) (hw : h = w.heap.size) (c : Code) : Beyond D (fun pre W => TEnd h w N c pre W) := fun s W W' hs hb => by
  obtain ⟨x, h1, h2, hc⟩ := hs.cur
  exact ⟨hs.ex, (hb.block _ (by omega)).trans hs.res, ⟨x, h1, h2, (hb.block _ (by omega)).trans hc⟩, hs.bel.trans (hb.mono (by omega))⟩

set_option maxHeartbeats 4000000 in
theorem linkAt_any {w : World} {B g : Nat} {v : Value} {c : Ch} (H : ChAt w B g v c) (ok : ChOk c) (hc : c.cnt < 1152921504606846976) (hT : Tabs w B) (hB : B ≤ w.heap.size) (k : Nat) (hk : k ≤ c.ev.length) :
    Calls Tryd.prog 55 #[.pointer (some ⟨g, 0, none⟩), .int .i64 ((c.bn + k : Nat) : Int)] w fun e w' => e = .returned (.agg (lnkC (c.bn + k) (c.at k)).toArray) ∧ Below w.heap.size w w' := by
  obtain ⟨N, hN⟩ : ∃ N, N = c.bn + k := ⟨_, rfl⟩
  rw [← hN]
  have HN := hid hN
  have HH := hid H
  have OK := hid ok
  have HT := hid hT
  clear hN H hT
  refine (callsIn_wide (n := 3)).1 ?_
  refine callsIn_of_wp_marks Tryd.func55 rfl trivial ?_ rfl
  simp only [Tryd.ntmps55, List.size_toArray, List.length_cons, List.length_nil, Nat.reduceAdd, Nat.reduceSub, Array.replicate_succ, Array.replicate_zero, List.push_toArray, List.append_toArray, List.nil_append, List.cons_append]
  gi_wp2_with fail
  refine ⟨trivial, (callsIn_wide.2 (links_any _ _)).mono ?_⟩
  rintro _ w' ⟨rfl, rfl⟩
  gi_wp2_with fail
  obtain ⟨h, hh⟩ : ∃ h, h = w.heap.size := ⟨_, rfl⟩
  obtain ⟨w1, hw1⟩ : ∃ w1, w1 = w.alloc (.cells #[.int .i64 (N : Int)] 3) := ⟨_, rfl⟩
  obtain ⟨w2, hw2⟩ : ∃ w2, w2 = w1.alloc (.cells zlnk 54) := ⟨_, rfl⟩
  obtain ⟨w3, hw3⟩ : ∃ w3, w3 = w2.alloc (.cells zlnk 54) := ⟨_, rfl⟩
  obtain ⟨W0, hW0⟩ : ∃ W0, W0 = w3.alloc (.cells #[.pointer (some ⟨g, 0, none⟩)] 23) := ⟨_, rfl⟩
  have z1 : w1.heap.size = h + 1 := by rw [hw1, hh]; simp
  have z2 : w2.heap.size = h + 2 := by rw [hw2, World.size_alloc, z1]
  have z3 : w3.heap.size = h + 3 := by rw [hw3, World.size_alloc, z2]
  have z0 : W0.heap.size = h + 4 := by rw [hW0, World.size_alloc, z3]
  have o1 : w1.heap[h]? = some (.cells #[.int .i64 (N : Int)] 3 (0, 0)) := by rw [hw1, hh]; exact heap_alloc_new w _
  have o2 : w2.heap[h + 1]? = some (.cells zlnk 54 (0, 0)) := by rw [hw2, ← z1]; exact heap_alloc_new w1 _
  have o3 : w3.heap[h + 2]? = some (.cells zlnk 54 (0, 0)) := by rw [hw3, ← z2]; exact heap_alloc_new w2 _
  have b1 : Below h w w1 := by rw [hw1, hh]; exact (Below.refl _ w).alloc (Nat.le_refl _) _
  have b2 : Below (h + 1) w1 w2 := by rw [hw2, ← z1]; exact (Below.refl _ w1).alloc (Nat.le_refl _) _
  have b3 : Below (h + 2) w2 w3 := by rw [hw3, ← z2]; exact (Below.refl _ w2).alloc (Nat.le_refl _) _
  have b4 : Below (h + 3) w3 W0 := by rw [hW0, ← z3]; exact (Below.refl _ w3).alloc (Nat.le_refl _) _
  have b0 : Below h w W0 := ((b1.trans (b2.mono (by omega))).trans (b3.mono (by omega))).trans (b4.mono (by omega))
  have cBk : W0.cell? ⟨h + 3, 0, none⟩ = some (.pointer (some ⟨g, 0, none⟩)) := by
    have := (Boxed.new w3 23 (.pointer (some ⟨g, 0, none⟩))).cell
    rw [z3, ← hW0] at this
    exact this
  have p0 : TAt h w N [] W0 := by
    refine ⟨?_, ?_, ⟨0, zero32, by decide, ?_⟩, b0, fun x hx => by cases hx⟩
    · exact ((b4.block h (by omega)).trans ((b3.block h (by omega)).trans (b2.block h (by omega)))).trans o1
    · exact ((b4.block _ (by omega)).trans (b3.block _ (by omega))).trans o2
    · rw [← zlnk_eq]; exact (b4.block _ (by omega)).trans o3
  have HC0 : ChAt W0 B g v c := HH.out.below (by rw [← hh]; exact b0)
  have HT0 : Tabs W0 B := HT.out.below hB (by rw [← hh]; exact b0)
  have hgl := HH.out.lt
  have hvl := HH.out.lts
  have hseq := links_seq (3 - 1) (h + 3) B g h (h + 3) v c ok hc W0 (by omega) (by omega) HC0 (by omega) (fun k hk => by have := (hvl k hk).2; omega) HT0 (by omega) cBk (.inr (Nat.le_refl _))
  rw [show (w.heap.size : Nat) = h from hh.symm]
  rw [show ((((w.alloc (.cells #[.int .i64 (N : Int)] 3)).alloc (.cells zlnk 54)).alloc (.cells zlnk 54)).alloc (.cells #[.pointer (some ⟨g, 0, none⟩)] 23)) = W0 by rw [hW0, hw3, hw2, hw1]]
  have P0 := hid p0
  have Hh := hid hh
  have Z0 := hid z0
  clear p0 hw1 hw2 hw3 hW0 z1 z2 z3 o1 o2 o3 b1 b2 b3 b4 b0 cBk HC0 HT0 HH HT hgl hvl hh z0
  rw [show h + 1 + 1 = h + 2 from rfl, show h + 2 + 1 = h + 3 from rfl]
  refine range_B rfl (by omega) (gf := 63) (lb := #[.pointer (some ⟨h + 3, 0, none⟩)]) rfl trivial (enters_of Tryd.func63 (by kernel_rfl) rfl) hseq (by have := Z0.out; omega) (fun _ => rfl)
    (fun pre W => TAt h w N pre W) (fun c pre W => TEnd h w N c pre W) (tAt_beyond h w N _ (by have := Z0.out; omega) Hh.out) (fun c => tEnd_beyond h w N _ (by have := Z0.out; omega) Hh.out c) P0.out ?round ?done ?stop
  case round =>
    intro l pre x W hsz hI hlen
    obtain ⟨m, l0, hl0, hcur⟩ := hI.cur
    have hS := storeL_row (n := x.n) x.len hcur (lnkC_sz m l0 hl0)
    have HI := hid hI
    have Hcur := hid hcur
    clear hI hcur
    rw [show lnkV x = #[.agg (lnkC x.n x.h).toArray] from rfl]
    have c1 : Chg h (h + 3) W (W.setRow (h + 2) (lnkC x.n x.h).toArray) := (Out.refl _ W).setRow _ (by omega) _
    have r1 := setRow_heap W (h + 2) _ (lnkC x.n x.h).toArray _ _ Hcur.out
    gi_wp2
    refine ⟨c1, fun o => ?_⟩
    obtain ⟨V, hV⟩ : ∃ V, V = (W.setRow (h + 2) (lnkC x.n x.h).toArray).putObj (W0.heap.size + 1) o := ⟨_, rfl⟩
    have bV : Below (h + 3) (W.setRow (h + 2) (lnkC x.n x.h).toArray) V := by rw [hV]; exact below_putObj _ _ _ (by have := Z0.out; omega)
    rw [← hV]
    have x2 := (bV.block (h + 2) (by omega)).trans r1
    have x0 : V.heap[h]? = some (.cells #[.int .i64 (N : Int)] 3 (0, 0)) := (bV.block h (by omega)).trans ((setRow_other _ _ _ _ (by omega)).trans HI.out.box)
    have x1 : V.heap[h + 1]? = some (.cells zlnk 54 (0, 0)) := (bV.block _ (by omega)).trans ((setRow_other _ _ _ _ (by omega)).trans HI.out.res)
    have bw : Below h w V := HI.out.bel.trans ((c1.below (by have := Z0.out; omega)).trans (bV.mono (by omega)))
    have k2 : V.cell? ⟨h + 2, 0, none⟩ = some (.int .i64 (x.n : Int)) := range_whole x2 0 _ rfl
    have k0 : V.cell? ⟨h, 0, none⟩ = some (.int .i64 (N : Int)) := cell_of_row _ _ 0 _ _ _ x0
    have X0 := hid x0
    have X1 := hid x1
    have X2 := hid x2
    have BW := hid bw
    clear hS x0 x1 x2 bw bV hV r1 c1
    by_cases hx : x.n = N
    · have q : ((x.n : Int) == (N : Int)) = true := by rw [beq_iff_eq]; omega
      have Hx := hid hx
      clear hx
      gi_wp2
      exact ⟨Out.refl _ V, rfl, X1.out, ⟨x, by simp, Hx.out, X2.out⟩, BW.out⟩
    · have q : ((x.n : Int) == (N : Int)) = false := by rw [beq_eq_false_iff_ne]; omega
      have Hx := hid hx
      clear hx
      gi_wp2
      exact ⟨Out.refl _ V, X0.out, X1.out, ⟨x.n, x.h, x.len, X2.out⟩, BW.out, fun y hy => by
        rcases List.mem_append.1 hy with hy | hy
        · exact HI.out.non y hy
        · simp at hy; rw [hy]; exact Hx.out⟩
  case done =>
    rintro xs W hxs hI hK
    exfalso
    refine hI.non (lk c ok k) ?_ (by rw [HN.out]; rfl)
    rw [hxs]
    exact List.mem_map.2 ⟨k, List.mem_range.2 (by omega), rfl⟩
  case stop =>
    rintro cc pre W ⟨j, hj, hpre⟩ hE hK
    obtain ⟨x, hx1, hx2, hx3⟩ := hE.cur
    have hxk : x = lk c ok j := by
      rw [hpre, lks_succ, List.getLast?_concat] at hx1
      exact (Option.some.inj hx1).symm
    have hjk : j = k := by
      have h1 : x.n = c.bn + j := by rw [hxk]; rfl
      have := HN.out
      omega
    obtain rfl := hE.ex
    have hxx : (lnkC x.n x.h) = lnkC N (c.at k) := by rw [hx2, hxk, hjk]; rfl
    rw [hxx] at hx3
    have hat : (c.at k).length = 32 := Ch.at_length ok k
    have hL := loadL_run (range_whole hx3) hat
    have hS := storeL_row (n := N) hat hE.res (by rfl)
    have r1 := setRow_heap W (h + 1) _ (lnkC N (c.at k)).toArray _ _ hE.res
    have hK2 : (W.setRow (h + 1) (lnkC N (c.at k)).toArray).heap[W0.heap.size]? = some (.deferred (some [])) := (setRow_other _ _ _ _ (by have := Z0.out; omega)).trans hK
    have r2 : ((W.setRow (h + 1) (lnkC N (c.at k)).toArray).putObj W0.heap.size (.deferred none)).heap[h + 1]? = some (.cells (lnkC N (c.at k)).toArray 54 (0, 0)) := (World.putObj_heap_other (by have := Z0.out; omega)).trans r1
    have bE : Below h w ((W.setRow (h + 1) (lnkC N (c.at k)).toArray).putObj W0.heap.size (.deferred none)) := (hE.bel.trans (((Below.refl h W).setRow (by omega) _).trans (below_putObj _ _ _ (by have := Z0.out; omega))))
    have bE := bE.mono (Nat.le_of_eq Hh.out.symm)
    have HK := hid hK2
    have R2 := hid r2
    have BE := hid bE
    have sl : Hid ((Tryd.prog.info? 54).map (·.size) = some (lnkC N (c.at k)).toArray.size) := by show _ = _; rw [lnkC_sz _ _ hat]; exact size_link
    clear hK hK2 r1 r2 bE hE hx3 hxx hx1 hx2 hxk hpre
    gi_wp2
    refine ⟨by simp, .inl ⟨_, _, rfl, run_takeDeferred HK.out, ?_⟩⟩
    exact ⟨_, results_cell_row rfl _ _ (h + 1) 54 (lnkC N (c.at k)).toArray (0, 0) _ rfl R2.out Tryd.underlying54 rfl sl.out, rfl, BE.out⟩
end Go.Proofs.YthnciogaibhmcaaDoor

/- Verify's regions, over a frame that is a letter. -/
namespace Go.Proofs.YthnciogaibhmcaaDoor
open Go.RowKit Go.Shelf
set_option linter.unusedVariables false
set_option maxRecDepth 20000
theorem wanted_g {ops : Array Oper} {op : Oper} {a : Act} {i d : Nat} {b : Bool} (hg : op.guard = some (i, true)) (hd : (ops[i]?).bind (·.dst) = some d) (hsz : d < a.tmps.size) (he : a.eval (.tmp d) = .bool b) : Region.wanted op (yielded ops a.tmps) = b := by
  have h1 : a.tmps[d]? = some (.bool b) := by
    have : a.tmps.getD d undef = .bool b := he
    simp [hsz] at this
    rw [Array.getElem?_eq_getElem hsz, this]
  unfold Region.wanted yielded
  simp only [hg, hd, Option.bind_some, h1]
  cases b <;> rfl
section
variable {ops : Array Oper} {S : World → Prop} {op : Oper} {a : Act}
theorem y_skip (hw : Region.wanted op (yielded ops a.tmps) = false) : YieldsIf Tryd.prog ops S op undef a := .inr ⟨hw, rfl⟩
theorem y_eqlB (hw : Region.wanted op (yielded ops a.tmps) = true) (x y : Operand) (ho : op.op = .binOp .eql 3 x y 3) (p q : Int) (b : Bool) (hb : (p == q) = b) (hx : a.eval x = .int .i64 p) (hy : a.eval y = .int .i64 q) : YieldsIf Tryd.prog ops S op (.bool b) a := by
  rw [← hb]
  exact y_eqlI hw x y ho p q hx hy
theorem y_pickT (hw : Region.wanted op (yielded ops a.tmps) = true) (x y z : Operand) (ho : op.op = .pick x y z) (u : Value) (hx : a.eval x = .bool true) (hy : a.eval y = u) : YieldsIf Tryd.prog ops S op u a := by
  have := y_pick (S := S) hw x y z ho true u _ hx hy rfl
  exact this
theorem y_pickF (hw : Region.wanted op (yielded ops a.tmps) = true) (x y z : Operand) (ho : op.op = .pick x y z) (v : Value) (hx : a.eval x = .bool false) (hz : a.eval z = v) : YieldsIf Tryd.prog ops S op v a := by
  have := y_pick (S := S) hw x y z ho false _ v hx rfl hz
  exact this
end
/-- a region out of a function with a loop over a function -/
def regionIn (n : Nat) : Code → Option Code
  | .region i ops b => if i = n then some (.region i ops b) else none
  | .seq a b => match regionIn n a with
    | some c => some c
    | none => regionIn n b
  | .block _ c => regionIn n c
  | .scope c => regionIn n c
  | .loop c => regionIn n c
  | .rangeFunc _ _ a b => match regionIn n a with
    | some c => some c
    | none => regionIn n b
  | .cond _ a b => match regionIn n a with
    | some c => some c
    | none => regionIn n b
  | _ => none
noncomputable def codeVer (n : Nat) : Code := ((Tryd.f17.body.bind (regionIn n)).getD .skip)
set_option maxHeartbeats 2000000 in
theorem verify_yes {ro : Option Nat} {nn : Nat} {V0 W5 : World} {B g h Lb : Nat} {v : Value} {c : Ch} {x : Lnk} {A : Act} (sz : A.tmps.size = 36) (e1 : A.eval (.tmp 1) = .pointer (some ⟨h, 0, none⟩)) (e4 : A.eval (.tmp 4) = .pointer (some ⟨Lb, 0, none⟩))
    (hV0 : V0 = W5.drew) (ok : Lens c) (hs0 : V0.heap[Lb]? = some (.cells (lnkC x.n x.h).toArray 54 (0, 0)) ∧ V0.cell? ⟨h, 0, none⟩ = some (.pointer (some ⟨g, 0, none⟩)) ∧ ChAt V0 B g v c) (hx : ((x.n : Int) == (c.an : Int)) = true) :
    (codeVer 6).wpIn (WideAt ro) nn Tryd.prog (fun e a V => e = .normal ∧ a = ((((((((((((((((((A.put (some 10) (.pointer (some ⟨Lb, 0, none⟩))).put (some 11) (.int .i64 (x.n : Int))).put (some 12) (.pointer (some ⟨g, 0, none⟩))).put (some 13) (.pointer (some ⟨g, 0, none⟩))).put (some 14) (.pointer (some ⟨g, 33, none⟩))).put (some 15) (.pointer (some ⟨g, 33, none⟩))).put (some 16) (.int .i64 (c.an : Int))).put (some 17) (.bool true)).put (some 18) (.bool true)).put (some 19) (.pointer (some ⟨Lb, 1, none⟩))).put (some 20) (.agg (bvs x.h))).put (some 21) (.pointer (some ⟨g, 0, none⟩))).put (some 22) (.pointer (some ⟨g, 0, none⟩))).put (some 23) (.pointer (some ⟨g, 33, none⟩))).put (some 24) (.pointer (some ⟨g, 34, none⟩))).put (some 25) (.agg (bvs c.ah))).put (some 26) (.bool (!(x.h == c.ah)))).put (some 27) (.bool (!(x.h == c.ah)))) ∧ V = V0) A W5 := by
  have hm : Tryd.prog.follows .mixedOrders = true := by kernel_rfl
  unfold codeVer
  conv => arg 4; whnf
  refine wpIn_region_heldAt (S := fun V => V.heap[Lb]? = some (.cells (lnkC x.n x.h).toArray 54 (0, 0)) ∧ V.cell? ⟨h, 0, none⟩ = some (.pointer (some ⟨g, 0, none⟩)) ∧ ChAt V B g v c) hm (by kernel_rfl) ?_
  rw [show ({ W5 with drawn := W5.drawn + 1 } : World) = V0 from hV0.symm]
  refine wpAnyH_take (i := 0) (v := .pointer (some ⟨Lb, 0, none⟩)) rfl (by kernel_rfl) (by kernel_rfl) (by kernel_rfl) (fun _ _ _ h => nomatch h.1) (y_link0 (by simp [Region.wanted]) (.tmp 4) rfl Lb 0 e4) hs0 ?_
  show wpAnyH _ _ _ _ _ _ _ (A.put (some 10) (.pointer (some ⟨Lb, 0, none⟩))) _
  refine wpAnyH_take (i := 1) (v := .int .i64 (x.n : Int)) rfl (by kernel_rfl) (by kernel_rfl) (by kernel_rfl) (fun _ _ _ h => nomatch h.1) (y_loadI (by simp [Region.wanted]) (.tmp 10) rfl Lb 0 _ (ev_eq _ _ (by simp [sz])) (fun V hV => range_whole hV.1 0 _ rfl)) hs0 ?_
  show wpAnyH _ _ _ _ _ _ _ ((A.put (some 10) (.pointer (some ⟨Lb, 0, none⟩))).put (some 11) (.int .i64 (x.n : Int))) _
  refine wpAnyH_take (i := 2) (v := .pointer (some ⟨g, 0, none⟩)) rfl (by kernel_rfl) (by kernel_rfl) (by kernel_rfl) (fun _ _ _ h => nomatch h.1) (y_loadP (by simp [Region.wanted]) (.tmp 1) rfl h 0 _ ((ev_ne _ _ (by decide)).trans ((ev_ne _ _ (by decide)).trans e1)) (fun V hV => hV.2.1)) hs0 ?_
  show wpAnyH _ _ _ _ _ _ _ (((A.put (some 10) (.pointer (some ⟨Lb, 0, none⟩))).put (some 11) (.int .i64 (x.n : Int))).put (some 12) (.pointer (some ⟨g, 0, none⟩))) _
  refine wpAnyH_take (i := 3) (v := .pointer (some ⟨g, 0, none⟩)) rfl (by kernel_rfl) (by kernel_rfl) (by kernel_rfl) (fun _ _ _ h => nomatch h.1) (y_nil (by simp [Region.wanted]) (.tmp 12) rfl _ (ev_eq _ _ (by simp [put_sz, sz]))) hs0 ?_
  show wpAnyH _ _ _ _ _ _ _ ((((A.put (some 10) (.pointer (some ⟨Lb, 0, none⟩))).put (some 11) (.int .i64 (x.n : Int))).put (some 12) (.pointer (some ⟨g, 0, none⟩))).put (some 13) (.pointer (some ⟨g, 0, none⟩))) _
  refine wpAnyH_take (i := 4) (v := .pointer (some ⟨g, 33, none⟩)) rfl (by kernel_rfl) (by kernel_rfl) (by kernel_rfl) (fun _ _ _ h => nomatch h.1) (y_chain1 (by simp [Region.wanted]) (.tmp 13) rfl g (ev_eq _ _ (by simp [put_sz, sz]))) hs0 ?_
  show wpAnyH _ _ _ _ _ _ _ (((((A.put (some 10) (.pointer (some ⟨Lb, 0, none⟩))).put (some 11) (.int .i64 (x.n : Int))).put (some 12) (.pointer (some ⟨g, 0, none⟩))).put (some 13) (.pointer (some ⟨g, 0, none⟩))).put (some 14) (.pointer (some ⟨g, 33, none⟩))) _
  refine wpAnyH_take (i := 5) (v := .pointer (some ⟨g, 33, none⟩)) rfl (by kernel_rfl) (by kernel_rfl) (by kernel_rfl) (fun _ _ _ h => nomatch h.1) (y_link0 (by simp [Region.wanted]) (.tmp 14) rfl g 33 (ev_eq _ _ (by simp [put_sz, sz]))) hs0 ?_
  show wpAnyH _ _ _ _ _ _ _ ((((((A.put (some 10) (.pointer (some ⟨Lb, 0, none⟩))).put (some 11) (.int .i64 (x.n : Int))).put (some 12) (.pointer (some ⟨g, 0, none⟩))).put (some 13) (.pointer (some ⟨g, 0, none⟩))).put (some 14) (.pointer (some ⟨g, 33, none⟩))).put (some 15) (.pointer (some ⟨g, 33, none⟩))) _
  refine wpAnyH_take (i := 6) (v := .int .i64 (c.an : Int)) rfl (by kernel_rfl) (by kernel_rfl) (by kernel_rfl) (fun _ _ _ h => nomatch h.1) (y_loadI (by simp [Region.wanted]) (.tmp 15) rfl g 33 _ (ev_eq _ _ (by simp [put_sz, sz])) (fun V hV => hV.2.2.c33 ok)) hs0 ?_
  show wpAnyH _ _ _ _ _ _ _ (((((((A.put (some 10) (.pointer (some ⟨Lb, 0, none⟩))).put (some 11) (.int .i64 (x.n : Int))).put (some 12) (.pointer (some ⟨g, 0, none⟩))).put (some 13) (.pointer (some ⟨g, 0, none⟩))).put (some 14) (.pointer (some ⟨g, 33, none⟩))).put (some 15) (.pointer (some ⟨g, 33, none⟩))).put (some 16) (.int .i64 (c.an : Int))) _
  refine wpAnyH_take (i := 7) (v := .bool true) rfl (by kernel_rfl) (by kernel_rfl) (by kernel_rfl) (fun _ _ _ h => nomatch h.1) (y_eqlB (by simp [Region.wanted]) (.tmp 11) (.tmp 16) rfl (x.n : Int) (c.an : Int) true hx ((ev_ne _ _ (by decide)).trans ((ev_ne _ _ (by decide)).trans ((ev_ne _ _ (by decide)).trans ((ev_ne _ _ (by decide)).trans ((ev_ne _ _ (by decide)).trans (ev_eq _ _ (by simp [put_sz, sz]))))))) (ev_eq _ _ (by simp [put_sz, sz]))) hs0 ?_
  show wpAnyH _ _ _ _ _ _ _ ((((((((A.put (some 10) (.pointer (some ⟨Lb, 0, none⟩))).put (some 11) (.int .i64 (x.n : Int))).put (some 12) (.pointer (some ⟨g, 0, none⟩))).put (some 13) (.pointer (some ⟨g, 0, none⟩))).put (some 14) (.pointer (some ⟨g, 33, none⟩))).put (some 15) (.pointer (some ⟨g, 33, none⟩))).put (some 16) (.int .i64 (c.an : Int))).put (some 17) (.bool true)) _
  refine wpAnyH_take (i := 8) (v := .bool true) rfl (by kernel_rfl) (by kernel_rfl) (by kernel_rfl) (fun _ _ _ h => nomatch h.1) (yields_move (by simp [Region.wanted]) (.tmp 17) rfl _ (ev_eq _ _ (by simp [put_sz, sz]))) hs0 ?_
  show wpAnyH _ _ _ _ _ _ _ (((((((((A.put (some 10) (.pointer (some ⟨Lb, 0, none⟩))).put (some 11) (.int .i64 (x.n : Int))).put (some 12) (.pointer (some ⟨g, 0, none⟩))).put (some 13) (.pointer (some ⟨g, 0, none⟩))).put (some 14) (.pointer (some ⟨g, 33, none⟩))).put (some 15) (.pointer (some ⟨g, 33, none⟩))).put (some 16) (.int .i64 (c.an : Int))).put (some 17) (.bool true)).put (some 18) (.bool true)) _
  refine wpAnyH_take (i := 9) (v := .pointer (some ⟨Lb, 1, none⟩)) rfl (by kernel_rfl) (by kernel_rfl) (by kernel_rfl) (fun _ _ _ h => nomatch h.1) (y_link1 (wanted_g (i := 8) (d := 18) rfl rfl (by simp [put_sz, sz]) (ev_eq _ _ (by simp [put_sz, sz]))) (.tmp 4) rfl Lb 0 ((ev_ne _ _ (by decide)).trans ((ev_ne _ _ (by decide)).trans ((ev_ne _ _ (by decide)).trans ((ev_ne _ _ (by decide)).trans ((ev_ne _ _ (by decide)).trans ((ev_ne _ _ (by decide)).trans ((ev_ne _ _ (by decide)).trans ((ev_ne _ _ (by decide)).trans ((ev_ne _ _ (by decide)).trans e4)))))))))) hs0 ?_
  show wpAnyH _ _ _ _ _ _ _ ((((((((((A.put (some 10) (.pointer (some ⟨Lb, 0, none⟩))).put (some 11) (.int .i64 (x.n : Int))).put (some 12) (.pointer (some ⟨g, 0, none⟩))).put (some 13) (.pointer (some ⟨g, 0, none⟩))).put (some 14) (.pointer (some ⟨g, 33, none⟩))).put (some 15) (.pointer (some ⟨g, 33, none⟩))).put (some 16) (.int .i64 (c.an : Int))).put (some 17) (.bool true)).put (some 18) (.bool true)).put (some 19) (.pointer (some ⟨Lb, 1, none⟩))) _
  refine wpAnyH_take (i := 10) (v := .agg (bvs x.h)) rfl (by kernel_rfl) (by kernel_rfl) (by kernel_rfl) (fun _ _ _ h => nomatch h.1) (y_loadH (wanted_g (i := 8) (d := 18) rfl rfl (by simp [put_sz, sz]) ((ev_ne _ _ (by decide)).trans (ev_eq _ _ (by simp [put_sz, sz])))) (.tmp 19) rfl Lb 1 x.h x.len (ev_eq _ _ (by simp [put_sz, sz])) (fun V hV => link_hash hV.1)) hs0 ?_
  show wpAnyH _ _ _ _ _ _ _ (((((((((((A.put (some 10) (.pointer (some ⟨Lb, 0, none⟩))).put (some 11) (.int .i64 (x.n : Int))).put (some 12) (.pointer (some ⟨g, 0, none⟩))).put (some 13) (.pointer (some ⟨g, 0, none⟩))).put (some 14) (.pointer (some ⟨g, 33, none⟩))).put (some 15) (.pointer (some ⟨g, 33, none⟩))).put (some 16) (.int .i64 (c.an : Int))).put (some 17) (.bool true)).put (some 18) (.bool true)).put (some 19) (.pointer (some ⟨Lb, 1, none⟩))).put (some 20) (.agg (bvs x.h))) _
  refine wpAnyH_take (i := 11) (v := .pointer (some ⟨g, 0, none⟩)) rfl (by kernel_rfl) (by kernel_rfl) (by kernel_rfl) (fun _ _ _ h => nomatch h.1) (y_loadP (wanted_g (i := 8) (d := 18) rfl rfl (by simp [put_sz, sz]) ((ev_ne _ _ (by decide)).trans ((ev_ne _ _ (by decide)).trans (ev_eq _ _ (by simp [put_sz, sz]))))) (.tmp 1) rfl h 0 _ ((ev_ne _ _ (by decide)).trans ((ev_ne _ _ (by decide)).trans ((ev_ne _ _ (by decide)).trans ((ev_ne _ _ (by decide)).trans ((ev_ne _ _ (by decide)).trans ((ev_ne _ _ (by decide)).trans ((ev_ne _ _ (by decide)).trans ((ev_ne _ _ (by decide)).trans ((ev_ne _ _ (by decide)).trans ((ev_ne _ _ (by decide)).trans ((ev_ne _ _ (by decide)).trans e1))))))))))) (fun V hV => hV.2.1)) hs0 ?_
  show wpAnyH _ _ _ _ _ _ _ ((((((((((((A.put (some 10) (.pointer (some ⟨Lb, 0, none⟩))).put (some 11) (.int .i64 (x.n : Int))).put (some 12) (.pointer (some ⟨g, 0, none⟩))).put (some 13) (.pointer (some ⟨g, 0, none⟩))).put (some 14) (.pointer (some ⟨g, 33, none⟩))).put (some 15) (.pointer (some ⟨g, 33, none⟩))).put (some 16) (.int .i64 (c.an : Int))).put (some 17) (.bool true)).put (some 18) (.bool true)).put (some 19) (.pointer (some ⟨Lb, 1, none⟩))).put (some 20) (.agg (bvs x.h))).put (some 21) (.pointer (some ⟨g, 0, none⟩))) _
  refine wpAnyH_take (i := 12) (v := .pointer (some ⟨g, 0, none⟩)) rfl (by kernel_rfl) (by kernel_rfl) (by kernel_rfl) (fun _ _ _ h => nomatch h.1) (y_nil (wanted_g (i := 8) (d := 18) rfl rfl (by simp [put_sz, sz]) ((ev_ne _ _ (by decide)).trans ((ev_ne _ _ (by decide)).trans ((ev_ne _ _ (by decide)).trans (ev_eq _ _ (by simp [put_sz, sz])))))) (.tmp 21) rfl _ (ev_eq _ _ (by simp [put_sz, sz]))) hs0 ?_
  show wpAnyH _ _ _ _ _ _ _ (((((((((((((A.put (some 10) (.pointer (some ⟨Lb, 0, none⟩))).put (some 11) (.int .i64 (x.n : Int))).put (some 12) (.pointer (some ⟨g, 0, none⟩))).put (some 13) (.pointer (some ⟨g, 0, none⟩))).put (some 14) (.pointer (some ⟨g, 33, none⟩))).put (some 15) (.pointer (some ⟨g, 33, none⟩))).put (some 16) (.int .i64 (c.an : Int))).put (some 17) (.bool true)).put (some 18) (.bool true)).put (some 19) (.pointer (some ⟨Lb, 1, none⟩))).put (some 20) (.agg (bvs x.h))).put (some 21) (.pointer (some ⟨g, 0, none⟩))).put (some 22) (.pointer (some ⟨g, 0, none⟩))) _
  refine wpAnyH_take (i := 13) (v := .pointer (some ⟨g, 33, none⟩)) rfl (by kernel_rfl) (by kernel_rfl) (by kernel_rfl) (fun _ _ _ h => nomatch h.1) (y_chain1 (wanted_g (i := 8) (d := 18) rfl rfl (by simp [put_sz, sz]) ((ev_ne _ _ (by decide)).trans ((ev_ne _ _ (by decide)).trans ((ev_ne _ _ (by decide)).trans ((ev_ne _ _ (by decide)).trans (ev_eq _ _ (by simp [put_sz, sz]))))))) (.tmp 22) rfl g (ev_eq _ _ (by simp [put_sz, sz]))) hs0 ?_
  show wpAnyH _ _ _ _ _ _ _ ((((((((((((((A.put (some 10) (.pointer (some ⟨Lb, 0, none⟩))).put (some 11) (.int .i64 (x.n : Int))).put (some 12) (.pointer (some ⟨g, 0, none⟩))).put (some 13) (.pointer (some ⟨g, 0, none⟩))).put (some 14) (.pointer (some ⟨g, 33, none⟩))).put (some 15) (.pointer (some ⟨g, 33, none⟩))).put (some 16) (.int .i64 (c.an : Int))).put (some 17) (.bool true)).put (some 18) (.bool true)).put (some 19) (.pointer (some ⟨Lb, 1, none⟩))).put (some 20) (.agg (bvs x.h))).put (some 21) (.pointer (some ⟨g, 0, none⟩))).put (some 22) (.pointer (some ⟨g, 0, none⟩))).put (some 23) (.pointer (some ⟨g, 33, none⟩))) _
  refine wpAnyH_take (i := 14) (v := .pointer (some ⟨g, 34, none⟩)) rfl (by kernel_rfl) (by kernel_rfl) (by kernel_rfl) (fun _ _ _ h => nomatch h.1) (y_link1 (wanted_g (i := 8) (d := 18) rfl rfl (by simp [put_sz, sz]) ((ev_ne _ _ (by decide)).trans ((ev_ne _ _ (by decide)).trans ((ev_ne _ _ (by decide)).trans ((ev_ne _ _ (by decide)).trans ((ev_ne _ _ (by decide)).trans (ev_eq _ _ (by simp [put_sz, sz])))))))) (.tmp 23) rfl g 33 (ev_eq _ _ (by simp [put_sz, sz]))) hs0 ?_
  show wpAnyH _ _ _ _ _ _ _ (((((((((((((((A.put (some 10) (.pointer (some ⟨Lb, 0, none⟩))).put (some 11) (.int .i64 (x.n : Int))).put (some 12) (.pointer (some ⟨g, 0, none⟩))).put (some 13) (.pointer (some ⟨g, 0, none⟩))).put (some 14) (.pointer (some ⟨g, 33, none⟩))).put (some 15) (.pointer (some ⟨g, 33, none⟩))).put (some 16) (.int .i64 (c.an : Int))).put (some 17) (.bool true)).put (some 18) (.bool true)).put (some 19) (.pointer (some ⟨Lb, 1, none⟩))).put (some 20) (.agg (bvs x.h))).put (some 21) (.pointer (some ⟨g, 0, none⟩))).put (some 22) (.pointer (some ⟨g, 0, none⟩))).put (some 23) (.pointer (some ⟨g, 33, none⟩))).put (some 24) (.pointer (some ⟨g, 34, none⟩))) _
  refine wpAnyH_take (i := 15) (v := .agg (bvs c.ah)) rfl (by kernel_rfl) (by kernel_rfl) (by kernel_rfl) (fun _ _ _ h => nomatch h.1) (y_loadH (wanted_g (i := 8) (d := 18) rfl rfl (by simp [put_sz, sz]) ((ev_ne _ _ (by decide)).trans ((ev_ne _ _ (by decide)).trans ((ev_ne _ _ (by decide)).trans ((ev_ne _ _ (by decide)).trans ((ev_ne _ _ (by decide)).trans ((ev_ne _ _ (by decide)).trans (ev_eq _ _ (by simp [put_sz, sz]))))))))) (.tmp 24) rfl g 34 c.ah ok.lan (ev_eq _ _ (by simp [put_sz, sz])) (fun V hV => hV.2.2.ra ok)) hs0 ?_
  show wpAnyH _ _ _ _ _ _ _ ((((((((((((((((A.put (some 10) (.pointer (some ⟨Lb, 0, none⟩))).put (some 11) (.int .i64 (x.n : Int))).put (some 12) (.pointer (some ⟨g, 0, none⟩))).put (some 13) (.pointer (some ⟨g, 0, none⟩))).put (some 14) (.pointer (some ⟨g, 33, none⟩))).put (some 15) (.pointer (some ⟨g, 33, none⟩))).put (some 16) (.int .i64 (c.an : Int))).put (some 17) (.bool true)).put (some 18) (.bool true)).put (some 19) (.pointer (some ⟨Lb, 1, none⟩))).put (some 20) (.agg (bvs x.h))).put (some 21) (.pointer (some ⟨g, 0, none⟩))).put (some 22) (.pointer (some ⟨g, 0, none⟩))).put (some 23) (.pointer (some ⟨g, 33, none⟩))).put (some 24) (.pointer (some ⟨g, 34, none⟩))).put (some 25) (.agg (bvs c.ah))) _
  refine wpAnyH_take (i := 16) (v := .bool (!(x.h == c.ah))) rfl (by kernel_rfl) (by kernel_rfl) (by kernel_rfl) (fun _ _ _ h => nomatch h.1) (y_neqH (wanted_g (i := 8) (d := 18) rfl rfl (by simp [put_sz, sz]) ((ev_ne _ _ (by decide)).trans ((ev_ne _ _ (by decide)).trans ((ev_ne _ _ (by decide)).trans ((ev_ne _ _ (by decide)).trans ((ev_ne _ _ (by decide)).trans ((ev_ne _ _ (by decide)).trans ((ev_ne _ _ (by decide)).trans (ev_eq _ _ (by simp [put_sz, sz])))))))))) (.tmp 20) (.tmp 25) rfl x.h c.ah x.len ok.lan ((ev_ne _ _ (by decide)).trans ((ev_ne _ _ (by decide)).trans ((ev_ne _ _ (by decide)).trans ((ev_ne _ _ (by decide)).trans ((ev_ne _ _ (by decide)).trans (ev_eq _ _ (by simp [put_sz, sz]))))))) (ev_eq _ _ (by simp [put_sz, sz]))) hs0 ?_
  show wpAnyH _ _ _ _ _ _ _ (((((((((((((((((A.put (some 10) (.pointer (some ⟨Lb, 0, none⟩))).put (some 11) (.int .i64 (x.n : Int))).put (some 12) (.pointer (some ⟨g, 0, none⟩))).put (some 13) (.pointer (some ⟨g, 0, none⟩))).put (some 14) (.pointer (some ⟨g, 33, none⟩))).put (some 15) (.pointer (some ⟨g, 33, none⟩))).put (some 16) (.int .i64 (c.an : Int))).put (some 17) (.bool true)).put (some 18) (.bool true)).put (some 19) (.pointer (some ⟨Lb, 1, none⟩))).put (some 20) (.agg (bvs x.h))).put (some 21) (.pointer (some ⟨g, 0, none⟩))).put (some 22) (.pointer (some ⟨g, 0, none⟩))).put (some 23) (.pointer (some ⟨g, 33, none⟩))).put (some 24) (.pointer (some ⟨g, 34, none⟩))).put (some 25) (.agg (bvs c.ah))).put (some 26) (.bool (!(x.h == c.ah)))) _
  refine wpAnyH_take (i := 17) (v := .bool (!(x.h == c.ah))) rfl (by kernel_rfl) (by kernel_rfl) (by kernel_rfl) (fun _ _ _ h => nomatch h.1) (y_pickT (by simp [Region.wanted]) (.tmp 18) (.tmp 26) (.const (.bool false)) rfl _ ((ev_ne _ _ (by decide)).trans ((ev_ne _ _ (by decide)).trans ((ev_ne _ _ (by decide)).trans ((ev_ne _ _ (by decide)).trans ((ev_ne _ _ (by decide)).trans ((ev_ne _ _ (by decide)).trans ((ev_ne _ _ (by decide)).trans ((ev_ne _ _ (by decide)).trans (ev_eq _ _ (by simp [put_sz, sz])))))))))) (ev_eq _ _ (by simp [put_sz, sz]))) hs0 ?_
  show wpAnyH _ _ _ _ _ _ _ ((((((((((((((((((A.put (some 10) (.pointer (some ⟨Lb, 0, none⟩))).put (some 11) (.int .i64 (x.n : Int))).put (some 12) (.pointer (some ⟨g, 0, none⟩))).put (some 13) (.pointer (some ⟨g, 0, none⟩))).put (some 14) (.pointer (some ⟨g, 33, none⟩))).put (some 15) (.pointer (some ⟨g, 33, none⟩))).put (some 16) (.int .i64 (c.an : Int))).put (some 17) (.bool true)).put (some 18) (.bool true)).put (some 19) (.pointer (some ⟨Lb, 1, none⟩))).put (some 20) (.agg (bvs x.h))).put (some 21) (.pointer (some ⟨g, 0, none⟩))).put (some 22) (.pointer (some ⟨g, 0, none⟩))).put (some 23) (.pointer (some ⟨g, 33, none⟩))).put (some 24) (.pointer (some ⟨g, 34, none⟩))).put (some 25) (.agg (bvs c.ah))).put (some 26) (.bool (!(x.h == c.ah)))).put (some 27) (.bool (!(x.h == c.ah)))) _
  exact wpAnyH_done (by kernel_rfl) ⟨rfl, rfl, rfl⟩ _

set_option maxHeartbeats 2000000 in
theorem verify_no {ro : Option Nat} {nn : Nat} {V0 W5 : World} {B g h Lb : Nat} {v : Value} {c : Ch} {x : Lnk} {A : Act} (sz : A.tmps.size = 36) (e1 : A.eval (.tmp 1) = .pointer (some ⟨h, 0, none⟩)) (e4 : A.eval (.tmp 4) = .pointer (some ⟨Lb, 0, none⟩))
    (hV0 : V0 = W5.drew) (ok : Lens c) (hs0 : V0.heap[Lb]? = some (.cells (lnkC x.n x.h).toArray 54 (0, 0)) ∧ V0.cell? ⟨h, 0, none⟩ = some (.pointer (some ⟨g, 0, none⟩)) ∧ ChAt V0 B g v c) (hx : ((x.n : Int) == (c.an : Int)) = false) :
    (codeVer 6).wpIn (WideAt ro) nn Tryd.prog (fun e a V => e = .normal ∧ a = ((((((((((((((((((A.put (some 10) (.pointer (some ⟨Lb, 0, none⟩))).put (some 11) (.int .i64 (x.n : Int))).put (some 12) (.pointer (some ⟨g, 0, none⟩))).put (some 13) (.pointer (some ⟨g, 0, none⟩))).put (some 14) (.pointer (some ⟨g, 33, none⟩))).put (some 15) (.pointer (some ⟨g, 33, none⟩))).put (some 16) (.int .i64 (c.an : Int))).put (some 17) (.bool false)).put (some 18) (.bool false)).put (some 19) (undef)).put (some 20) (undef)).put (some 21) (undef)).put (some 22) (undef)).put (some 23) (undef)).put (some 24) (undef)).put (some 25) (undef)).put (some 26) (undef)).put (some 27) (.bool false)) ∧ V = V0) A W5 := by
  have hm : Tryd.prog.follows .mixedOrders = true := by kernel_rfl
  unfold codeVer
  conv => arg 4; whnf
  refine wpIn_region_heldAt (S := fun V => V.heap[Lb]? = some (.cells (lnkC x.n x.h).toArray 54 (0, 0)) ∧ V.cell? ⟨h, 0, none⟩ = some (.pointer (some ⟨g, 0, none⟩)) ∧ ChAt V B g v c) hm (by kernel_rfl) ?_
  rw [show ({ W5 with drawn := W5.drawn + 1 } : World) = V0 from hV0.symm]
  refine wpAnyH_take (i := 0) (v := .pointer (some ⟨Lb, 0, none⟩)) rfl (by kernel_rfl) (by kernel_rfl) (by kernel_rfl) (fun _ _ _ h => nomatch h.1) (y_link0 (by simp [Region.wanted]) (.tmp 4) rfl Lb 0 e4) hs0 ?_
  show wpAnyH _ _ _ _ _ _ _ (A.put (some 10) (.pointer (some ⟨Lb, 0, none⟩))) _
  refine wpAnyH_take (i := 1) (v := .int .i64 (x.n : Int)) rfl (by kernel_rfl) (by kernel_rfl) (by kernel_rfl) (fun _ _ _ h => nomatch h.1) (y_loadI (by simp [Region.wanted]) (.tmp 10) rfl Lb 0 _ (ev_eq _ _ (by simp [sz])) (fun V hV => range_whole hV.1 0 _ rfl)) hs0 ?_
  show wpAnyH _ _ _ _ _ _ _ ((A.put (some 10) (.pointer (some ⟨Lb, 0, none⟩))).put (some 11) (.int .i64 (x.n : Int))) _
  refine wpAnyH_take (i := 2) (v := .pointer (some ⟨g, 0, none⟩)) rfl (by kernel_rfl) (by kernel_rfl) (by kernel_rfl) (fun _ _ _ h => nomatch h.1) (y_loadP (by simp [Region.wanted]) (.tmp 1) rfl h 0 _ ((ev_ne _ _ (by decide)).trans ((ev_ne _ _ (by decide)).trans e1)) (fun V hV => hV.2.1)) hs0 ?_
  show wpAnyH _ _ _ _ _ _ _ (((A.put (some 10) (.pointer (some ⟨Lb, 0, none⟩))).put (some 11) (.int .i64 (x.n : Int))).put (some 12) (.pointer (some ⟨g, 0, none⟩))) _
  refine wpAnyH_take (i := 3) (v := .pointer (some ⟨g, 0, none⟩)) rfl (by kernel_rfl) (by kernel_rfl) (by kernel_rfl) (fun _ _ _ h => nomatch h.1) (y_nil (by simp [Region.wanted]) (.tmp 12) rfl _ (ev_eq _ _ (by simp [put_sz, sz]))) hs0 ?_
  show wpAnyH _ _ _ _ _ _ _ ((((A.put (some 10) (.pointer (some ⟨Lb, 0, none⟩))).put (some 11) (.int .i64 (x.n : Int))).put (some 12) (.pointer (some ⟨g, 0, none⟩))).put (some 13) (.pointer (some ⟨g, 0, none⟩))) _
  refine wpAnyH_take (i := 4) (v := .pointer (some ⟨g, 33, none⟩)) rfl (by kernel_rfl) (by kernel_rfl) (by kernel_rfl) (fun _ _ _ h => nomatch h.1) (y_chain1 (by simp [Region.wanted]) (.tmp 13) rfl g (ev_eq _ _ (by simp [put_sz, sz]))) hs0 ?_
  show wpAnyH _ _ _ _ _ _ _ (((((A.put (some 10) (.pointer (some ⟨Lb, 0, none⟩))).put (some 11) (.int .i64 (x.n : Int))).put (some 12) (.pointer (some ⟨g, 0, none⟩))).put (some 13) (.pointer (some ⟨g, 0, none⟩))).put (some 14) (.pointer (some ⟨g, 33, none⟩))) _
  refine wpAnyH_take (i := 5) (v := .pointer (some ⟨g, 33, none⟩)) rfl (by kernel_rfl) (by kernel_rfl) (by kernel_rfl) (fun _ _ _ h => nomatch h.1) (y_link0 (by simp [Region.wanted]) (.tmp 14) rfl g 33 (ev_eq _ _ (by simp [put_sz, sz]))) hs0 ?_
  show wpAnyH _ _ _ _ _ _ _ ((((((A.put (some 10) (.pointer (some ⟨Lb, 0, none⟩))).put (some 11) (.int .i64 (x.n : Int))).put (some 12) (.pointer (some ⟨g, 0, none⟩))).put (some 13) (.pointer (some ⟨g, 0, none⟩))).put (some 14) (.pointer (some ⟨g, 33, none⟩))).put (some 15) (.pointer (some ⟨g, 33, none⟩))) _
  refine wpAnyH_take (i := 6) (v := .int .i64 (c.an : Int)) rfl (by kernel_rfl) (by kernel_rfl) (by kernel_rfl) (fun _ _ _ h => nomatch h.1) (y_loadI (by simp [Region.wanted]) (.tmp 15) rfl g 33 _ (ev_eq _ _ (by simp [put_sz, sz])) (fun V hV => hV.2.2.c33 ok)) hs0 ?_
  show wpAnyH _ _ _ _ _ _ _ (((((((A.put (some 10) (.pointer (some ⟨Lb, 0, none⟩))).put (some 11) (.int .i64 (x.n : Int))).put (some 12) (.pointer (some ⟨g, 0, none⟩))).put (some 13) (.pointer (some ⟨g, 0, none⟩))).put (some 14) (.pointer (some ⟨g, 33, none⟩))).put (some 15) (.pointer (some ⟨g, 33, none⟩))).put (some 16) (.int .i64 (c.an : Int))) _
  refine wpAnyH_take (i := 7) (v := .bool false) rfl (by kernel_rfl) (by kernel_rfl) (by kernel_rfl) (fun _ _ _ h => nomatch h.1) (y_eqlB (by simp [Region.wanted]) (.tmp 11) (.tmp 16) rfl (x.n : Int) (c.an : Int) false hx ((ev_ne _ _ (by decide)).trans ((ev_ne _ _ (by decide)).trans ((ev_ne _ _ (by decide)).trans ((ev_ne _ _ (by decide)).trans ((ev_ne _ _ (by decide)).trans (ev_eq _ _ (by simp [put_sz, sz]))))))) (ev_eq _ _ (by simp [put_sz, sz]))) hs0 ?_
  show wpAnyH _ _ _ _ _ _ _ ((((((((A.put (some 10) (.pointer (some ⟨Lb, 0, none⟩))).put (some 11) (.int .i64 (x.n : Int))).put (some 12) (.pointer (some ⟨g, 0, none⟩))).put (some 13) (.pointer (some ⟨g, 0, none⟩))).put (some 14) (.pointer (some ⟨g, 33, none⟩))).put (some 15) (.pointer (some ⟨g, 33, none⟩))).put (some 16) (.int .i64 (c.an : Int))).put (some 17) (.bool false)) _
  refine wpAnyH_take (i := 8) (v := .bool false) rfl (by kernel_rfl) (by kernel_rfl) (by kernel_rfl) (fun _ _ _ h => nomatch h.1) (yields_move (by simp [Region.wanted]) (.tmp 17) rfl _ (ev_eq _ _ (by simp [put_sz, sz]))) hs0 ?_
  show wpAnyH _ _ _ _ _ _ _ (((((((((A.put (some 10) (.pointer (some ⟨Lb, 0, none⟩))).put (some 11) (.int .i64 (x.n : Int))).put (some 12) (.pointer (some ⟨g, 0, none⟩))).put (some 13) (.pointer (some ⟨g, 0, none⟩))).put (some 14) (.pointer (some ⟨g, 33, none⟩))).put (some 15) (.pointer (some ⟨g, 33, none⟩))).put (some 16) (.int .i64 (c.an : Int))).put (some 17) (.bool false)).put (some 18) (.bool false)) _
  refine wpAnyH_take (i := 9) (v := undef) rfl (by kernel_rfl) (by kernel_rfl) (by kernel_rfl) (fun _ _ _ h => nomatch h.1) (y_skip (wanted_g (i := 8) (d := 18) rfl rfl (by simp [put_sz, sz]) (ev_eq _ _ (by simp [put_sz, sz])))) hs0 ?_
  show wpAnyH _ _ _ _ _ _ _ ((((((((((A.put (some 10) (.pointer (some ⟨Lb, 0, none⟩))).put (some 11) (.int .i64 (x.n : Int))).put (some 12) (.pointer (some ⟨g, 0, none⟩))).put (some 13) (.pointer (some ⟨g, 0, none⟩))).put (some 14) (.pointer (some ⟨g, 33, none⟩))).put (some 15) (.pointer (some ⟨g, 33, none⟩))).put (some 16) (.int .i64 (c.an : Int))).put (some 17) (.bool false)).put (some 18) (.bool false)).put (some 19) (undef)) _
  refine wpAnyH_take (i := 10) (v := undef) rfl (by kernel_rfl) (by kernel_rfl) (by kernel_rfl) (fun _ _ _ h => nomatch h.1) (y_skip (wanted_g (i := 8) (d := 18) rfl rfl (by simp [put_sz, sz]) ((ev_ne _ _ (by decide)).trans (ev_eq _ _ (by simp [put_sz, sz]))))) hs0 ?_
  show wpAnyH _ _ _ _ _ _ _ (((((((((((A.put (some 10) (.pointer (some ⟨Lb, 0, none⟩))).put (some 11) (.int .i64 (x.n : Int))).put (some 12) (.pointer (some ⟨g, 0, none⟩))).put (some 13) (.pointer (some ⟨g, 0, none⟩))).put (some 14) (.pointer (some ⟨g, 33, none⟩))).put (some 15) (.pointer (some ⟨g, 33, none⟩))).put (some 16) (.int .i64 (c.an : Int))).put (some 17) (.bool false)).put (some 18) (.bool false)).put (some 19) (undef)).put (some 20) (undef)) _
  refine wpAnyH_take (i := 11) (v := undef) rfl (by kernel_rfl) (by kernel_rfl) (by kernel_rfl) (fun _ _ _ h => nomatch h.1) (y_skip (wanted_g (i := 8) (d := 18) rfl rfl (by simp [put_sz, sz]) ((ev_ne _ _ (by decide)).trans ((ev_ne _ _ (by decide)).trans (ev_eq _ _ (by simp [put_sz, sz])))))) hs0 ?_
  show wpAnyH _ _ _ _ _ _ _ ((((((((((((A.put (some 10) (.pointer (some ⟨Lb, 0, none⟩))).put (some 11) (.int .i64 (x.n : Int))).put (some 12) (.pointer (some ⟨g, 0, none⟩))).put (some 13) (.pointer (some ⟨g, 0, none⟩))).put (some 14) (.pointer (some ⟨g, 33, none⟩))).put (some 15) (.pointer (some ⟨g, 33, none⟩))).put (some 16) (.int .i64 (c.an : Int))).put (some 17) (.bool false)).put (some 18) (.bool false)).put (some 19) (undef)).put (some 20) (undef)).put (some 21) (undef)) _
  refine wpAnyH_take (i := 12) (v := undef) rfl (by kernel_rfl) (by kernel_rfl) (by kernel_rfl) (fun _ _ _ h => nomatch h.1) (y_skip (wanted_g (i := 8) (d := 18) rfl rfl (by simp [put_sz, sz]) ((ev_ne _ _ (by decide)).trans ((ev_ne _ _ (by decide)).trans ((ev_ne _ _ (by decide)).trans (ev_eq _ _ (by simp [put_sz, sz]))))))) hs0 ?_
  show wpAnyH _ _ _ _ _ _ _ (((((((((((((A.put (some 10) (.pointer (some ⟨Lb, 0, none⟩))).put (some 11) (.int .i64 (x.n : Int))).put (some 12) (.pointer (some ⟨g, 0, none⟩))).put (some 13) (.pointer (some ⟨g, 0, none⟩))).put (some 14) (.pointer (some ⟨g, 33, none⟩))).put (some 15) (.pointer (some ⟨g, 33, none⟩))).put (some 16) (.int .i64 (c.an : Int))).put (some 17) (.bool false)).put (some 18) (.bool false)).put (some 19) (undef)).put (some 20) (undef)).put (some 21) (undef)).put (some 22) (undef)) _
  refine wpAnyH_take (i := 13) (v := undef) rfl (by kernel_rfl) (by kernel_rfl) (by kernel_rfl) (fun _ _ _ h => nomatch h.1) (y_skip (wanted_g (i := 8) (d := 18) rfl rfl (by simp [put_sz, sz]) ((ev_ne _ _ (by decide)).trans ((ev_ne _ _ (by decide)).trans ((ev_ne _ _ (by decide)).trans ((ev_ne _ _ (by decide)).trans (ev_eq _ _ (by simp [put_sz, sz])))))))) hs0 ?_
  show wpAnyH _ _ _ _ _ _ _ ((((((((((((((A.put (some 10) (.pointer (some ⟨Lb, 0, none⟩))).put (some 11) (.int .i64 (x.n : Int))).put (some 12) (.pointer (some ⟨g, 0, none⟩))).put (some 13) (.pointer (some ⟨g, 0, none⟩))).put (some 14) (.pointer (some ⟨g, 33, none⟩))).put (some 15) (.pointer (some ⟨g, 33, none⟩))).put (some 16) (.int .i64 (c.an : Int))).put (some 17) (.bool false)).put (some 18) (.bool false)).put (some 19) (undef)).put (some 20) (undef)).put (some 21) (undef)).put (some 22) (undef)).put (some 23) (undef)) _
  refine wpAnyH_take (i := 14) (v := undef) rfl (by kernel_rfl) (by kernel_rfl) (by kernel_rfl) (fun _ _ _ h => nomatch h.1) (y_skip (wanted_g (i := 8) (d := 18) rfl rfl (by simp [put_sz, sz]) ((ev_ne _ _ (by decide)).trans ((ev_ne _ _ (by decide)).trans ((ev_ne _ _ (by decide)).trans ((ev_ne _ _ (by decide)).trans ((ev_ne _ _ (by decide)).trans (ev_eq _ _ (by simp [put_sz, sz]))))))))) hs0 ?_
  show wpAnyH _ _ _ _ _ _ _ (((((((((((((((A.put (some 10) (.pointer (some ⟨Lb, 0, none⟩))).put (some 11) (.int .i64 (x.n : Int))).put (some 12) (.pointer (some ⟨g, 0, none⟩))).put (some 13) (.pointer (some ⟨g, 0, none⟩))).put (some 14) (.pointer (some ⟨g, 33, none⟩))).put (some 15) (.pointer (some ⟨g, 33, none⟩))).put (some 16) (.int .i64 (c.an : Int))).put (some 17) (.bool false)).put (some 18) (.bool false)).put (some 19) (undef)).put (some 20) (undef)).put (some 21) (undef)).put (some 22) (undef)).put (some 23) (undef)).put (some 24) (undef)) _
  refine wpAnyH_take (i := 15) (v := undef) rfl (by kernel_rfl) (by kernel_rfl) (by kernel_rfl) (fun _ _ _ h => nomatch h.1) (y_skip (wanted_g (i := 8) (d := 18) rfl rfl (by simp [put_sz, sz]) ((ev_ne _ _ (by decide)).trans ((ev_ne _ _ (by decide)).trans ((ev_ne _ _ (by decide)).trans ((ev_ne _ _ (by decide)).trans ((ev_ne _ _ (by decide)).trans ((ev_ne _ _ (by decide)).trans (ev_eq _ _ (by simp [put_sz, sz])))))))))) hs0 ?_
  show wpAnyH _ _ _ _ _ _ _ ((((((((((((((((A.put (some 10) (.pointer (some ⟨Lb, 0, none⟩))).put (some 11) (.int .i64 (x.n : Int))).put (some 12) (.pointer (some ⟨g, 0, none⟩))).put (some 13) (.pointer (some ⟨g, 0, none⟩))).put (some 14) (.pointer (some ⟨g, 33, none⟩))).put (some 15) (.pointer (some ⟨g, 33, none⟩))).put (some 16) (.int .i64 (c.an : Int))).put (some 17) (.bool false)).put (some 18) (.bool false)).put (some 19) (undef)).put (some 20) (undef)).put (some 21) (undef)).put (some 22) (undef)).put (some 23) (undef)).put (some 24) (undef)).put (some 25) (undef)) _
  refine wpAnyH_take (i := 16) (v := undef) rfl (by kernel_rfl) (by kernel_rfl) (by kernel_rfl) (fun _ _ _ h => nomatch h.1) (y_skip (wanted_g (i := 8) (d := 18) rfl rfl (by simp [put_sz, sz]) ((ev_ne _ _ (by decide)).trans ((ev_ne _ _ (by decide)).trans ((ev_ne _ _ (by decide)).trans ((ev_ne _ _ (by decide)).trans ((ev_ne _ _ (by decide)).trans ((ev_ne _ _ (by decide)).trans ((ev_ne _ _ (by decide)).trans (ev_eq _ _ (by simp [put_sz, sz]))))))))))) hs0 ?_
  show wpAnyH _ _ _ _ _ _ _ (((((((((((((((((A.put (some 10) (.pointer (some ⟨Lb, 0, none⟩))).put (some 11) (.int .i64 (x.n : Int))).put (some 12) (.pointer (some ⟨g, 0, none⟩))).put (some 13) (.pointer (some ⟨g, 0, none⟩))).put (some 14) (.pointer (some ⟨g, 33, none⟩))).put (some 15) (.pointer (some ⟨g, 33, none⟩))).put (some 16) (.int .i64 (c.an : Int))).put (some 17) (.bool false)).put (some 18) (.bool false)).put (some 19) (undef)).put (some 20) (undef)).put (some 21) (undef)).put (some 22) (undef)).put (some 23) (undef)).put (some 24) (undef)).put (some 25) (undef)).put (some 26) (undef)) _
  refine wpAnyH_take (i := 17) (v := .bool false) rfl (by kernel_rfl) (by kernel_rfl) (by kernel_rfl) (fun _ _ _ h => nomatch h.1) (y_pickF (by simp [Region.wanted]) (.tmp 18) (.tmp 26) (.const (.bool false)) rfl _ ((ev_ne _ _ (by decide)).trans ((ev_ne _ _ (by decide)).trans ((ev_ne _ _ (by decide)).trans ((ev_ne _ _ (by decide)).trans ((ev_ne _ _ (by decide)).trans ((ev_ne _ _ (by decide)).trans ((ev_ne _ _ (by decide)).trans ((ev_ne _ _ (by decide)).trans (ev_eq _ _ (by simp [put_sz, sz])))))))))) rfl) hs0 ?_
  show wpAnyH _ _ _ _ _ _ _ ((((((((((((((((((A.put (some 10) (.pointer (some ⟨Lb, 0, none⟩))).put (some 11) (.int .i64 (x.n : Int))).put (some 12) (.pointer (some ⟨g, 0, none⟩))).put (some 13) (.pointer (some ⟨g, 0, none⟩))).put (some 14) (.pointer (some ⟨g, 33, none⟩))).put (some 15) (.pointer (some ⟨g, 33, none⟩))).put (some 16) (.int .i64 (c.an : Int))).put (some 17) (.bool false)).put (some 18) (.bool false)).put (some 19) (undef)).put (some 20) (undef)).put (some 21) (undef)).put (some 22) (undef)).put (some 23) (undef)).put (some 24) (undef)).put (some 25) (undef)).put (some 26) (undef)).put (some 27) (.bool false)) _
  exact wpAnyH_done (by kernel_rfl) ⟨rfl, rfl, rfl⟩ _

set_option maxHeartbeats 2000000 in
theorem verify_end {ro : Option Nat} {nn : Nat} {V0 W5 : World} {B g h : Nat} {v : Value} {c : Ch} {l : List UInt8} {A : Act} (sz : A.tmps.size = 36) (e1 : A.eval (.tmp 1) = .pointer (some ⟨h, 0, none⟩)) (e3 : A.eval (.tmp 3) = .pointer (some ⟨h + 2, 0, none⟩)) (hl : l.length = 32)
    (hV0 : V0 = W5.drew) (ok : Lens c) (hs0 : V0.heap[h + 2]? = some (.cells (bvs l) 49 (0, 0)) ∧ V0.cell? ⟨h, 0, none⟩ = some (.pointer (some ⟨g, 0, none⟩)) ∧ ChAt V0 B g v c) :
    (codeVer 9).wpIn (WideAt ro) nn Tryd.prog (fun e a V => e = .normal ∧ a = ((((((A.put (some 30) (.agg (bvs l))).put (some 31) (.pointer (some ⟨g, 0, none⟩))).put (some 32) (.pointer (some ⟨g, 0, none⟩))).put (some 33) (.pointer (some ⟨g, 67, none⟩))).put (some 34) (.agg (bvs c.hd))).put (some 35) (.bool (!(l == c.hd)))) ∧ V = V0) A W5 := by
  have hm : Tryd.prog.follows .mixedOrders = true := by kernel_rfl
  unfold codeVer
  conv => arg 4; whnf
  refine wpIn_region_heldAt (S := fun V => V.heap[h + 2]? = some (.cells (cellsOf l).toArray 49 (0, 0)) ∧ V.cell? ⟨h, 0, none⟩ = some (.pointer (some ⟨g, 0, none⟩)) ∧ ChAt V B g v c) hm (by kernel_rfl) ?_
  rw [show ({ W5 with drawn := W5.drawn + 1 } : World) = V0 from hV0.symm]
  rw [show bvs l = (cellsOf l).toArray from rfl] at hs0
  refine wpAnyH_take (i := 0) (v := .agg (bvs l)) rfl (by kernel_rfl) (by kernel_rfl) (by kernel_rfl) (fun _ _ _ h => nomatch h.1) (y_loadH (by simp [Region.wanted]) (.tmp 3) rfl (h + 2) 0 l hl e3 (fun V hV => range_whole hV.1)) hs0 ?_
  show wpAnyH _ _ _ _ _ _ _ (A.put (some 30) (.agg (bvs l))) _
  refine wpAnyH_take (i := 1) (v := .pointer (some ⟨g, 0, none⟩)) rfl (by kernel_rfl) (by kernel_rfl) (by kernel_rfl) (fun _ _ _ h => nomatch h.1) (y_loadP (by simp [Region.wanted]) (.tmp 1) rfl h 0 _ ((ev_ne _ _ (by decide)).trans e1) (fun V hV => hV.2.1)) hs0 ?_
  show wpAnyH _ _ _ _ _ _ _ ((A.put (some 30) (.agg (bvs l))).put (some 31) (.pointer (some ⟨g, 0, none⟩))) _
  refine wpAnyH_take (i := 2) (v := .pointer (some ⟨g, 0, none⟩)) rfl (by kernel_rfl) (by kernel_rfl) (by kernel_rfl) (fun _ _ _ h => nomatch h.1) (y_nil (by simp [Region.wanted]) (.tmp 31) rfl _ (ev_eq _ _ (by simp [put_sz, sz]))) hs0 ?_
  show wpAnyH _ _ _ _ _ _ _ (((A.put (some 30) (.agg (bvs l))).put (some 31) (.pointer (some ⟨g, 0, none⟩))).put (some 32) (.pointer (some ⟨g, 0, none⟩))) _
  refine wpAnyH_take (i := 3) (v := .pointer (some ⟨g, 67, none⟩)) rfl (by kernel_rfl) (by kernel_rfl) (by kernel_rfl) (fun _ _ _ h => nomatch h.1) (y_chain3 (by simp [Region.wanted]) (.tmp 32) rfl g (ev_eq _ _ (by simp [put_sz, sz]))) hs0 ?_
  show wpAnyH _ _ _ _ _ _ _ ((((A.put (some 30) (.agg (bvs l))).put (some 31) (.pointer (some ⟨g, 0, none⟩))).put (some 32) (.pointer (some ⟨g, 0, none⟩))).put (some 33) (.pointer (some ⟨g, 67, none⟩))) _
  refine wpAnyH_take (i := 4) (v := .agg (bvs c.hd)) rfl (by kernel_rfl) (by kernel_rfl) (by kernel_rfl) (fun _ _ _ h => nomatch h.1) (y_loadH (by simp [Region.wanted]) (.tmp 33) rfl g 67 c.hd ok.lh (ev_eq _ _ (by simp [put_sz, sz])) (fun V hV => hV.2.2.rh ok)) hs0 ?_
  show wpAnyH _ _ _ _ _ _ _ (((((A.put (some 30) (.agg (bvs l))).put (some 31) (.pointer (some ⟨g, 0, none⟩))).put (some 32) (.pointer (some ⟨g, 0, none⟩))).put (some 33) (.pointer (some ⟨g, 67, none⟩))).put (some 34) (.agg (bvs c.hd))) _
  refine wpAnyH_take (i := 5) (v := .bool (!(l == c.hd))) rfl (by kernel_rfl) (by kernel_rfl) (by kernel_rfl) (fun _ _ _ h => nomatch h.1) (y_neqH (by simp [Region.wanted]) (.tmp 30) (.tmp 34) rfl l c.hd hl ok.lh ((ev_ne _ _ (by decide)).trans ((ev_ne _ _ (by decide)).trans ((ev_ne _ _ (by decide)).trans ((ev_ne _ _ (by decide)).trans (ev_eq _ _ (by simp [sz])))))) (ev_eq _ _ (by simp [put_sz, sz]))) hs0 ?_
  show wpAnyH _ _ _ _ _ _ _ ((((((A.put (some 30) (.agg (bvs l))).put (some 31) (.pointer (some ⟨g, 0, none⟩))).put (some 32) (.pointer (some ⟨g, 0, none⟩))).put (some 33) (.pointer (some ⟨g, 67, none⟩))).put (some 34) (.agg (bvs c.hd))).put (some 35) (.bool (!(l == c.hd)))) _
  exact wpAnyH_done (by kernel_rfl) ⟨rfl, rfl, rfl⟩ _
end Go.Proofs.YthnciogaibhmcaaDoor

/- Verify of a chain, by a contract. -/
namespace Go.Proofs.YthnciogaibhmcaaDoor
open Go.RowKit Go.Shelf
set_option linter.unusedVariables false
set_option maxRecDepth 20000
attribute [local go_sem] Oper.semAt_some
def storeH (x v : Value) : Sem Unit := Instr.storeAt 49 x v
theorem storeH_fold (x v : Value) : Instr.storeAt 49 x v = storeH x v := rfl
theorem loadH_at {w : World} {g o : Nat} {l : List UInt8} (hr : w.rangeAt g o (cellsOf l)) (hl : l.length = 32) : (loadH (.pointer (some ⟨g, o, none⟩))).run Tryd.prog w = .ok (.agg (bvs l)) w :=
  run_loadAt_mid w g o 49 (cellsOf l) _ hr Tryd.underlying49 rfl (size_hashl l hl)
theorem storeH_row {w : World} {g : Nat} {l m : List UInt8} (hl : l.length = 32) (hm : m.length = 32) (hg : w.heap[g]? = some (.cells (bvs m) 49 (0, 0))) : (storeH (.pointer (some ⟨g, 0, none⟩)) (.agg (bvs l))).run Tryd.prog w = .ok () (w.setRow g (bvs l)) := by
  unfold storeH
  simp only [Instr.storeAt, Instr.sureAddr, Sem.run_bind, Sem.run_pure, Result.andThen]
  exact run_storeVar_row w g 49 49 (bvs m) (bvs l) hg (size_hashs l hl) (by rw [bvs_size, bvs_size, hl, hm]) (bvs_one l)
attribute [local go_sem ↓] loadL_fold storeL_fold loadH_fold storeH_fold

/-- the hash that came last -/
def lastH (pre : List Lnk) : List UInt8 := (pre.getLast?.map (·.h)).getD zero32
theorem lastH_len (pre : List Lnk) : (lastH pre).length = 32 := by
  unfold lastH
  cases h : pre.getLast? with
  | none => decide
  | some x => exact x.len
/-- what the loop keeps -/
structure VAt (h : Nat) (w : World) (g : Nat) (c : Ch) (pre : List Lnk) (W : World) : Prop where
  box : Boxed W h 23 (.pointer (some ⟨g, 0, none⟩))
  res : Boxed W (h + 1) 34 (.int .i64 0)
  cur : W.heap[h + 2]? = some (.cells (bvs (lastH pre)) 49 (0, 0))
  bel : Below h w W
  good : ∀ x ∈ pre, x.n = c.an → x.h = c.ah
structure VEnd (h : Nat) (w : World) (c : Ch) (cc : Code) (pre : List Lnk) (W : World) : Prop where
  ex : cc = .ret
  res : Boxed W (h + 1) 34 (.int .i64 15)
  bel : Below h w W
  bad : ∃ x ∈ pre, x.n = c.an ∧ x.h ≠ c.ah
theorem vAt_beyond (h : Nat) (w : World) (g : Nat) (c : Ch) (D : Nat) (hD : h + 3 ≤ D) : Beyond D (fun pre W => VAt h w g c pre W) := fun s W W' hs hb =>
  ⟨(hb.block h (by omega)).trans hs.box, (hb.block _ (by omega)).trans hs.res, (hb.block _ (by omega)).trans hs.cur, hs.bel.trans (hb.mono (by omega)), hs.good⟩
theorem vEnd_beyond (h : Nat) (w : World) (c : Ch) (D : Nat) (hD : h + 3 ≤ D) (cc : Code) : Beyond D (fun pre W => VEnd h w c cc pre W) := fun s W W' hs hb =>
  ⟨hs.ex, (hb.block _ (by omega)).trans hs.res, hs.bel.trans (hb.mono (by omega)), hs.bad⟩
theorem lks_mem {c : Ch} {ok : ChOk c} {j : Nat} {x : Lnk} (h : x ∈ lks c ok j) : ∃ k, k < j ∧ x = lk c ok k := by
  obtain ⟨k, hk, rfl⟩ := List.mem_map.1 h
  exact ⟨k, List.mem_range.1 hk, rfl⟩
theorem verE_bad {c : Ch} {ok : ChOk c} {j : Nat} {x : Lnk} (h : x ∈ lks c ok j) (h1 : x.n = c.an) (h2 : x.h ≠ c.ah) : verE c = 15 := by
  obtain ⟨k, hk, rfl⟩ := lks_mem h
  have h3 : c.bn + k = c.an := h1
  unfold verE
  rw [if_pos]
  refine .inl ⟨by omega, ?_⟩
  rw [show c.an - c.bn = k by omega]
  exact h2
theorem verE_all {c : Ch} {ok : ChOk c} (h : ∀ x ∈ lks c ok (c.ev.length + 1), x.n = c.an → x.h = c.ah) : verE c = if c.at c.ev.length = c.hd then 0 else 15 := by
  unfold verE
  by_cases h1 : c.at c.ev.length = c.hd
  · rw [if_pos h1, if_neg]
    rintro (⟨h2, h3⟩ | h3)
    · have h4 := ok.anc
      exact h3 (h (lk c ok (c.an - c.bn)) (List.mem_map.2 ⟨_, List.mem_range.2 (by omega), rfl⟩) (show c.bn + (c.an - c.bn) = c.an by omega))
    · exact h3 h1
  · rw [if_neg h1, if_pos (.inr h1)]

set_option maxHeartbeats 4000000 in
theorem verify_any {w : World} {B g : Nat} {v : Value} {c : Ch} (H : ChAt w B g v c) (ok : ChOk c) (hc : c.cnt < 1152921504606846976) (hT : Tabs w B) (hB : B ≤ w.heap.size) :
    Calls Tryd.prog 17 #[.pointer (some ⟨g, 0, none⟩)] w fun e w' => e = .returned (.int .i64 (verE c)) ∧ Below w.heap.size w w' := by
  have HH := hid H
  have HT := hid hT
  obtain ⟨Z, hZ⟩ : ∃ Z, Z = bvs zero32 := ⟨_, rfl⟩
  have zh := (zero_of_info zero_hash).1
  rw [show bvs (List.replicate 32 0) = Z from hZ.symm] at zh
  have HZ := hid hZ
  clear H hT hZ
  refine (callsIn_wide (n := 3)).1 ?_
  refine callsIn_of_wp_marks Tryd.func17 rfl trivial ?_ rfl
  simp only [Tryd.ntmps17, List.size_toArray, List.length_cons, List.length_nil, Nat.reduceAdd, Nat.reduceSub, Array.replicate_succ, Array.replicate_zero, List.push_toArray, List.append_toArray, List.nil_append, List.cons_append]
  gi_wp2_with fail
  refine ⟨trivial, (callsIn_wide.2 (links_any _ _)).mono ?_⟩
  rintro _ w' ⟨rfl, rfl⟩
  gi_wp2_with fail
  obtain ⟨h, hh⟩ : ∃ h, h = w.heap.size := ⟨_, rfl⟩
  obtain ⟨w1, hw1⟩ : ∃ w1, w1 = w.alloc (.cells #[.pointer (some ⟨g, 0, none⟩)] 23) := ⟨_, rfl⟩
  obtain ⟨w2, hw2⟩ : ∃ w2, w2 = w1.alloc (.cells #[.int .i64 0] 34) := ⟨_, rfl⟩
  obtain ⟨w3, hw3⟩ : ∃ w3, w3 = w2.alloc (.cells Z 49) := ⟨_, rfl⟩
  obtain ⟨W0, hW0⟩ : ∃ W0, W0 = w3.alloc (.cells #[.pointer (some ⟨g, 0, none⟩)] 23) := ⟨_, rfl⟩
  have z1 : w1.heap.size = h + 1 := by rw [hw1, hh]; simp
  have z2 : w2.heap.size = h + 2 := by rw [hw2, World.size_alloc, z1]
  have z3 : w3.heap.size = h + 3 := by rw [hw3, World.size_alloc, z2]
  have z0 : W0.heap.size = h + 4 := by rw [hW0, World.size_alloc, z3]
  have o1 : w1.heap[h]? = some (.cells #[.pointer (some ⟨g, 0, none⟩)] 23 (0, 0)) := by rw [hw1, hh]; exact heap_alloc_new w _
  have o2 : w2.heap[h + 1]? = some (.cells #[.int .i64 0] 34 (0, 0)) := by rw [hw2, ← z1]; exact heap_alloc_new w1 _
  have o3 : w3.heap[h + 2]? = some (.cells Z 49 (0, 0)) := by rw [hw3, ← z2]; exact heap_alloc_new w2 _
  have b1 : Below h w w1 := by rw [hw1, hh]; exact (Below.refl _ w).alloc (Nat.le_refl _) _
  have b2 : Below (h + 1) w1 w2 := by rw [hw2, ← z1]; exact (Below.refl _ w1).alloc (Nat.le_refl _) _
  have b3 : Below (h + 2) w2 w3 := by rw [hw3, ← z2]; exact (Below.refl _ w2).alloc (Nat.le_refl _) _
  have b4 : Below (h + 3) w3 W0 := by rw [hW0, ← z3]; exact (Below.refl _ w3).alloc (Nat.le_refl _) _
  have b0 : Below h w W0 := ((b1.trans (b2.mono (by omega))).trans (b3.mono (by omega))).trans (b4.mono (by omega))
  have cBk : W0.cell? ⟨h + 3, 0, none⟩ = some (.pointer (some ⟨g, 0, none⟩)) := by
    have := (Boxed.new w3 23 (.pointer (some ⟨g, 0, none⟩))).cell
    rw [z3, ← hW0] at this
    exact this
  have p0 : VAt h w g c [] W0 := by
    refine ⟨?_, ?_, ?_, b0, fun x hx => by cases hx⟩
    · exact ((b4.block h (by omega)).trans ((b3.block h (by omega)).trans (b2.block h (by omega)))).trans o1
    · exact ((b4.block _ (by omega)).trans (b3.block _ (by omega))).trans o2
    · rw [show bvs (lastH []) = Z from HZ.out.symm]; exact (b4.block _ (by omega)).trans o3
  have HC0 : ChAt W0 B g v c := HH.out.below (by rw [← hh]; exact b0)
  have HT0 : Tabs W0 B := HT.out.below hB (by rw [← hh]; exact b0)
  have hgl := HH.out.lt
  have hvl := HH.out.lts
  have hseq := links_seq (3 - 1) (h + 3) B g h (h + 3) v c ok hc W0 (by omega) (by omega) HC0 (by omega) (fun k hk => by have := (hvl k hk).2; omega) HT0 (by omega) cBk (.inr (Nat.le_refl _))
  rw [show (w.heap.size : Nat) = h from hh.symm]
  rw [show ((((w.alloc (.cells #[.pointer (some ⟨g, 0, none⟩)] 23)).alloc (.cells #[.int .i64 0] 34)).alloc (.cells Z 49)).alloc (.cells #[.pointer (some ⟨g, 0, none⟩)] 23)) = W0 by rw [hW0, hw3, hw2, hw1]]
  have P0 := hid p0
  have Hh := hid hh
  have Z0 := hid z0
  have chBel : Hid (∀ V, Below h w V → ChAt V B g v c) := fun V hb => HH.out.below (by rw [← hh]; exact hb)
  clear p0 hw1 hw2 hw3 hW0 z1 z2 z3 o1 o2 o3 b1 b2 b3 b4 b0 cBk HC0 HT0 HH HT hgl hvl hh z0 HZ zh
  rw [show h + 1 + 1 = h + 2 from rfl, show h + 2 + 1 = h + 3 from rfl]
  refine range_B rfl (by omega) (gf := 63) (lb := #[.pointer (some ⟨h + 3, 0, none⟩)]) rfl trivial (enters_of Tryd.func63 (by kernel_rfl) rfl) hseq (by have := Z0.out; omega) (fun _ => rfl)
    (fun pre W => VAt h w g c pre W) (fun cc pre W => VEnd h w c cc pre W) (vAt_beyond h w g c _ (by have := Z0.out; omega)) (fun cc => vEnd_beyond h w c _ (by have := Z0.out; omega) cc) P0.out ?round ?done ?stop
  case round =>
    intro l pre x W hsz hI hlen
    have hS := storeL_new W x.n x.h x.len
    have HI := hid hI
    clear hI
    rw [show lnkV x = #[.agg (lnkC x.n x.h).toArray] from rfl]
    gi_wp2
    have b1 : Below W.heap.size W (W.alloc (.cells (lnkC x.n x.h).toArray 54)) := (Below.refl _ W).alloc (Nat.le_refl _) _
    refine ⟨Out.of_below b1, fun o => ?_⟩
    obtain ⟨V, hV⟩ : ∃ V, V = (W.alloc (.cells (lnkC x.n x.h).toArray 54)).putObj (W0.heap.size + 1) o := ⟨_, rfl⟩
    have bV : Below (h + 3) W V := by rw [hV]; exact (b1.mono (by have := Z0.out; omega)).trans (below_putObj _ _ _ (by have := Z0.out; omega))
    have xL : V.heap[W.heap.size]? = some (.cells (lnkC x.n x.h).toArray 54 (0, 0)) := by
      rw [hV, World.putObj_heap_other (by omega)]
      exact heap_alloc_new W _
    rw [← hV]
    have iV := vAt_beyond h w g c (h + 3) (Nat.le_refl _) pre W V HI.out bV
    have chV := chBel.out V iV.bel
    have IV := hid iV
    have XL := hid xL
    have CV := hid chV
    clear hS HI iV xL chV bV hV b1
    obtain ⟨V0, hV0⟩ : ∃ V0, V0 = V.drew := ⟨_, rfl⟩
    have bd : Below V.heap.size V V0 := by rw [hV0]; exact (Below.refl _ V).drew
    have hb2 : Below h w V := IV.out.bel
    have hlV : h + 2 < V.heap.size := heap_lt IV.out.cur
    have xL0 := (bd.block _ (heap_lt XL.out)).trans XL.out
    have x20 := (bd.block _ hlV).trans IV.out.cur
    have x00 : V0.heap[h]? = some (.cells #[.pointer (some ⟨g, 0, none⟩)] 23 (0, 0)) := (bd.block h (by omega)).trans IV.out.box
    have x10 : V0.heap[h + 1]? = some (.cells #[.int .i64 0] 34 (0, 0)) := (bd.block _ (by omega)).trans IV.out.res
    have hs0 : V0.heap[W.heap.size]? = some (.cells (lnkC x.n x.h).toArray 54 (0, 0)) ∧ V0.cell? ⟨h, 0, none⟩ = some (.pointer (some ⟨g, 0, none⟩)) ∧ ChAt V0 B g v c := ⟨xL0, cell_of_row _ _ 0 _ _ _ x00, CV.out.below bd⟩
    have hL8 := loadH_at (link_hash xL0) x.len
    have hS8 := storeH_row x.len (lastH_len pre) x20
    have cd : Chg h (h + 3) V V0 := Out.of_below bd
    have hgo : (x.n = c.an → x.h = c.ah) → VAt h w g c (pre ++ [x]) (V0.setRow (h + 2) (bvs x.h)) := fun hgood => by
      refine ⟨(setRow_other _ _ _ _ (by omega)).trans x00, (setRow_other _ _ _ _ (by omega)).trans x10, ?_, (hb2.trans (bd.mono (by omega))).setRow (by omega) _, fun y hy => ?_⟩
      · rw [show lastH (pre ++ [x]) = x.h by simp [lastH]]
        exact setRow_heap _ _ _ _ _ _ x20
      · rcases List.mem_append.1 hy with hy | hy
        · exact IV.out.good y hy
        · simp at hy
          rw [hy]
          exact hgood
    have hc8 : Chg h (h + 3) V (V0.setRow (h + 2) (bvs x.h)) := cd.setRow _ (by omega) _
    have k1 : V0.cell? ⟨h + 1, 0, none⟩ = some (.int .i64 0) := cell_of_row _ _ 0 _ _ _ x10
    have f1 : V0.frozen? ⟨h + 1, 0, none⟩ = false := frozen_of_row _ _ _ _ _ x10
    have hbad : x.n = c.an → x.h ≠ c.ah → Chg h (h + 3) V (V0.setCell ⟨h + 1, 0, none⟩ (.int .i64 15)) ∧ VEnd h w c .ret (pre ++ [x]) (V0.setCell ⟨h + 1, 0, none⟩ (.int .i64 15)) := fun h1 h2 =>
      ⟨cd.setCell _ _ (by show h ≤ h + 1 ∧ h + 1 < h + 3; omega), rfl, by
        show (V0.setCell ⟨h + 1, 0, none⟩ (.int .i64 15)).heap[h + 1]? = _
        rw [heap_setCell_same _ _ _ _ _ _ x10]; rfl, (hb2.trans (bd.mono (by omega))).setCell (p := ⟨h + 1, 0, none⟩) (by show h ≤ h + 1; omega) _, ⟨x, by simp, h1, h2⟩⟩
    have Hgo := hid hgo
    have Hbad := hid hbad
    have HC8 := hid hc8
    have Hs0 := hid hs0
    clear hgo hbad hc8 hs0 cd x00 x10 x20 xL0 bd hb2 IV XL CV
    gi_wp2_with fail
    refine wpIn_act _ fun A hA => ?_
    have sz : A.tmps.size = 36 := by rw [hA]; rfl
    have e1 : A.eval (.tmp 1) = .pointer (some ⟨h, 0, none⟩) := by rw [hA]; rfl
    have e4 : A.eval (.tmp 4) = .pointer (some ⟨W.heap.size, 0, none⟩) := by rw [hA]; rfl
    by_cases hx : x.n = c.an
    · have q : ((x.n : Int) == (c.an : Int)) = true := by rw [beq_iff_eq]; omega
      refine wpIn_split _ (verify_yes (ro := some l) sz e1 e4 hV0 ok.l Hs0.out q) ?_
      rintro _ V9 ⟨rfl, rfl⟩
      rw [hA]
      simp only [Act.put, List.setIfInBounds_toArray, List.set_cons_succ, List.set_cons_zero]
      clear sz e1 e4 hA A hV0 q
      by_cases hxh : x.h = c.ah
      · rw [show (!(x.h == c.ah)) = false by simp [hxh]]
        have Hx := hid hxh
        clear hx hxh
        gi_wp2
        exact ⟨HC8.out, Hgo.out (fun _ => Hx.out)⟩
      · rw [show (!(x.h == c.ah)) = true by simp [hxh]]
        have Hx := hid hxh
        have Hx2 := hid hx
        clear hx hxh hL8 hS8
        gi_wp2
        exact Hbad.out Hx2.out Hx.out
    · have q : ((x.n : Int) == (c.an : Int)) = false := by rw [beq_eq_false_iff_ne]; omega
      refine wpIn_split _ (verify_no (ro := some l) sz e1 e4 hV0 ok.l Hs0.out q) ?_
      rintro _ V9 ⟨rfl, rfl⟩
      rw [hA]
      simp only [Act.put, List.setIfInBounds_toArray, List.set_cons_succ, List.set_cons_zero]
      clear sz e1 e4 hA A hV0 q
      have Hx := hid hx
      clear hx
      gi_wp2
      exact ⟨HC8.out, Hgo.out (fun y => absurd y Hx.out)⟩
  case done =>
    rintro xs W hxs hI hK
    have hlast : lastH xs = c.at c.ev.length := by rw [hxs, lks_succ]; simp [lastH]; rfl
    have hve := verE_all (ok := ok) (by rw [← hxs]; exact hI.good)
    obtain ⟨V0, hV0⟩ : ∃ V0, V0 = W.drew := ⟨_, rfl⟩
    have bd : Below W.heap.size W V0 := by rw [hV0]; exact (Below.refl _ W).drew
    have hlV : h + 2 < W.heap.size := heap_lt hI.cur
    have x20 := (bd.block _ hlV).trans hI.cur
    have x00 : V0.heap[h]? = some (.cells #[.pointer (some ⟨g, 0, none⟩)] 23 (0, 0)) := (bd.block h (by omega)).trans hI.box
    have x10 : V0.heap[h + 1]? = some (.cells #[.int .i64 0] 34 (0, 0)) := (bd.block _ (by omega)).trans hI.res
    have k0 : V0.heap[W0.heap.size]? = some (.deferred (some [])) := (bd.block _ (heap_lt hK)).trans hK
    have hs0 : V0.heap[h + 2]? = some (.cells (bvs (lastH xs)) 49 (0, 0)) ∧ V0.cell? ⟨h, 0, none⟩ = some (.pointer (some ⟨g, 0, none⟩)) ∧ ChAt V0 B g v c := ⟨x20, cell_of_row _ _ 0 _ _ _ x00, (chBel.out W hI.bel).below bd⟩
    have k1 : V0.cell? ⟨h + 1, 0, none⟩ = some (.int .i64 0) := cell_of_row _ _ 0 _ _ _ x10
    have f1 : V0.frozen? ⟨h + 1, 0, none⟩ = false := frozen_of_row _ _ _ _ _ x10
    have fin : ∀ er : Int, ((V0.setCell ⟨h + 1, 0, none⟩ (.int .i64 er)).putObj W0.heap.size (.deferred none)).cell? ⟨h + 1, 0, none⟩ = some (.int .i64 er) ∧ (V0.setCell ⟨h + 1, 0, none⟩ (.int .i64 er)).heap[W0.heap.size]? = some (.deferred (some [])) ∧ Below w.heap.size w ((V0.setCell ⟨h + 1, 0, none⟩ (.int .i64 er)).putObj W0.heap.size (.deferred none)) := fun er => by
      have hz := Z0.out
      refine ⟨?_, (heap_setCell_other _ _ _ _ (by show W0.heap.size ≠ h + 1; omega)).trans k0, ?_⟩
      · have h1 : ((V0.setCell ⟨h + 1, 0, none⟩ (.int .i64 er)).putObj W0.heap.size (.deferred none)).heap[h + 1]? = some (.cells #[.int .i64 er] 34 (0, 0)) := by
          rw [World.putObj_heap_other (by omega), heap_setCell_same _ _ _ _ _ _ x10]; rfl
        exact cell_of_row _ _ 0 _ _ _ h1
      · refine Below.mono ?_ (Nat.le_of_eq Hh.out.symm)
        exact ((hI.bel.trans (bd.mono (by omega))).setCell (p := ⟨h + 1, 0, none⟩) (by show h ≤ h + 1; omega) _).trans (below_putObj _ _ _ (by omega))
    have Fin := hid fin
    have Hs0 := hid hs0
    have Hve := hid hve
    have Hlast := hid hlast
    clear fin hs0 hve hlast hI hK x00 x10 x20 k0 bd hxs
    gi_wp2_with fail
    refine wpIn_act _ fun A hA => ?_
    have sz : A.tmps.size = 36 := by rw [hA]; rfl
    have e1 : A.eval (.tmp 1) = .pointer (some ⟨h, 0, none⟩) := by rw [hA]; rfl
    have e3 : A.eval (.tmp 3) = .pointer (some ⟨h + 2, 0, none⟩) := by rw [hA]; rfl
    refine wpIn_split _ (verify_end (ro := none) sz e1 e3 (lastH_len xs) hV0 ok.l Hs0.out) ?_
    rintro _ V9 ⟨rfl, rfl⟩
    rw [hA]
    simp only [Act.put, List.setIfInBounds_toArray, List.set_cons_succ, List.set_cons_zero]
    clear sz e1 e3 hA A hV0 Hs0
    rw [Hlast.out]
    by_cases hx : c.at c.ev.length = c.hd
    · rw [show (!(c.at c.ev.length == c.hd)) = false by simp [hx]]
      have Hx := hid hx
      have hv0 := Hve.out
      rw [if_pos hx] at hv0
      have Hv := hid hv0
      obtain ⟨c2, hK2, bE⟩ := Fin.out 0
      have HK := hid hK2
      have BE := hid bE
      clear hx hv0 hK2 bE Fin Hve Hlast
      gi_wp2
      refine ⟨by simp, .inl ⟨_, _, rfl, run_takeDeferred HK.out, ?_⟩⟩
      refine ⟨.int .i64 0, ?_, by rw [Hv.out], BE.out⟩
      simp [results, Tryd.f17, go_sem, c2]
    · rw [show (!(c.at c.ev.length == c.hd)) = true by simp [hx]]
      have Hx := hid hx
      have hv0 := Hve.out
      rw [if_neg hx] at hv0
      have Hv := hid hv0
      obtain ⟨c2, hK2, bE⟩ := Fin.out 15
      have HK := hid hK2
      have BE := hid bE
      clear hx hv0 hK2 bE Fin Hve Hlast
      gi_wp2
      refine ⟨by simp, .inl ⟨_, _, rfl, run_takeDeferred HK.out, ?_⟩⟩
      refine ⟨.int .i64 15, ?_, by rw [Hv.out], BE.out⟩
      simp [results, Tryd.f17, go_sem, c2]
  case stop =>
    rintro cc pre W ⟨j, hj, hpre⟩ hE hK
    obtain ⟨x, hx1, hx2, hx3⟩ := hE.bad
    rw [hpre] at hx1
    have hv := verE_bad hx1 hx2 hx3
    obtain rfl := hE.ex
    have hz := Z0.out
    have r2 : (W.putObj W0.heap.size (.deferred none)).heap[h + 1]? = some (.cells #[.int .i64 15] 34 (0, 0)) := (World.putObj_heap_other (by omega)).trans hE.res
    have c2 : (W.putObj W0.heap.size (.deferred none)).cell? ⟨h + 1, 0, none⟩ = some (.int .i64 15) := cell_of_row _ _ 0 _ _ _ r2
    have bE : Below h w (W.putObj W0.heap.size (.deferred none)) := hE.bel.trans (below_putObj _ _ _ (by omega))
    have bE := bE.mono (Nat.le_of_eq Hh.out.symm)
    have HK := hid hK
    have BE := hid bE
    have Hv := hid hv
    clear hK r2 bE hE hx1 hx2 hx3 hpre hv
    gi_wp2
    refine ⟨by simp, .inl ⟨_, _, rfl, run_takeDeferred HK.out, ?_⟩⟩
    refine ⟨.int .i64 15, ?_, by rw [Hv.out], BE.out⟩
    simp [results, Tryd.f17, go_sem, c2]
end Go.Proofs.YthnciogaibhmcaaDoor
