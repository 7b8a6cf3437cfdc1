/- A book of passwords: Check of the right one. (Printed by gen/cb13.py.) -/
import Derived.Test.YtomhcccjeadefaaGreatDoorCB12
import Derived.Test.YtomhcccjeadefaaGreatDoorCSame
namespace Go.Proofs.YtomhcccjeadefaaGreatDoor
open Go.RowKit Go.Maps
set_option linter.unusedVariables false
set_option maxRecDepth 20000
theorem iter_short (p : ByteArray) (hp : p.size ≤ 64) (w : World) (hK : KAt w) : Calls Tryz.prog 33 #[.string p, .string saltB, .int .i64 2] w fun e w' => ∃ O, e = .returned (.tuple #[.agg O, .int .i64 0]) ∧ HV O (iterN p.data.toList saltB.data.toList 2) ∧ Below w.heap.size w w' := by
  have s1 : saltB.size = 4 := rfl
  have h1 : itRes p saltB 2 = iterN p.data.toList saltB.data.toList 2 := by
    unfold itRes
    rw [if_neg (by omega), if_neg (by omega)]
    rfl
  have h2 : itErr p saltB 2 = 0 := by
    unfold itErr
    rw [if_neg (by omega), if_neg (by omega)]
  refine (iterate_any (w := w) p saltB 2 (by omega) (by omega) hK).mono ?_
  rintro _ w2 ⟨O, rfl, hO, b2⟩
  rw [h1] at hO
  rw [h2]
  exact ⟨O, rfl, hO, b2⟩
theorem hf_iterC : ∀ (args : Array Value) (w : World), (callFunc 33 args).run Tryz.prog w = .ok (.enter 33 args) w := fun args w => by simp [go_sem]
theorem hf_sameC : ∀ (args : Array Value) (w : World), (callFunc 35 args).run Tryz.prog w = .ok (.enter 35 args) w := fun args w => by simp [go_sem]
theorem hf_settleC : ∀ (args : Array Value) (w : World), (callFunc 34 args).run Tryz.prog w = .ok (.enter 34 args) w := fun args w => by simp [go_sem]
theorem same_true {w : World} {O : Array Value} {h : List UInt8} (hO : HV O h) (hl : h.length = 32) : Calls Tryz.prog 35 #[.agg O, .agg (bvs h)] w fun e w' => e = .returned (.bool true) ∧ Below w.heap.size w w' := by
  have := same_any (w := w) hO (⟨rfl, hl⟩ : HV (bvs h) h)
  rw [decide_eq_true rfl] at this
  exact this
def CK (r tr un : Nat) (h : List UInt8) (V : World) : Prop := RecS r tr un h 2 V ∧ KAt V
theorem CK.below {r tr un : Nat} {h : List UInt8} {V V' : World} (s : CK r tr un h V) (hb : Below V.heap.size V V') : CK r tr un h V' := ⟨s.1.below hb, s.2.below hb⟩
def CS (r q : Nat) (h : List UInt8) (O : Array Value) (V : World) : Prop := (∃ tr un, RecAt V r tr un h) ∧ V.heap[q]? = some (.cells O 27 (0, 0))
section
variable {r q : Nat} {h : List UInt8} {O : Array Value} {V V' : World}
theorem CS.below (s : CS r q h O V) (hb : Below V.heap.size V V') : CS r q h O V' := by
  obtain ⟨⟨tr, un, h1⟩, h2⟩ := s
  exact ⟨⟨tr, un, h1.below hb⟩, (hb.block _ (heap_lt h2)).trans h2⟩
theorem CS.ldQ (s : CS r q h O V) (hO : HV O h) : (Instr.loadAt 27 (.pointer (some ⟨q, 0, none⟩))).run Tryz.prog V = .ok (.agg O) V := by
  simp only [Instr.loadAt, Instr.sureAddr, Sem.run_bind, Sem.run_pure, Result.andThen]
  rw [run_loadVar_row (P := Tryz.prog) V q 27 27 O _ _ s.2 Tryz.underlying27 rfl hO.info]
theorem CS.ldR (s : CS r q h O V) (hl : h.length = 32) : (Instr.loadAt 27 (.pointer (some ⟨r, 2, none⟩))).run Tryz.prog V = .ok (.agg (bvs h)) V := by
  obtain ⟨⟨tr, un, h1⟩, h2⟩ := s
  have hO : HV (bvs h) h := ⟨rfl, hl⟩
  refine run_loadAt_mid V r 2 27 (cellsOf h) _ (fun j v hj => ?_) Tryz.underlying27 rfl (by rw [hO.info, hO.size, cellsOf_length, hl])
  have hj' : j < h.length := by
    have := (List.getElem?_eq_some_iff.1 hj).1
    simpa [cellsOf_length] using this
  rw [cell_of_row _ _ _ _ _ _ h1]
  unfold recC
  rw [List.getElem?_toArray, List.getElem?_append_right (by simp)]
  simp only [List.length_cons, List.length_nil]
  rw [List.getElem?_append_left (by rw [cellsOf_length]; omega), show 2 + j - (0 + 1 + 1) = j by omega]
  exact hj
theorem CS.set (s : CS r q h O V) (hne : q ≠ r) : CS r q h O ((V.setCell ⟨r, 0, none⟩ (.int .i64 0)).setCell ⟨r, 1, none⟩ (.int .i64 0)) := by
  obtain ⟨⟨tr, un, h1⟩, h2⟩ := s
  exact ⟨⟨0, 0, h1.set2 0 0⟩, (heap_setCell_other _ _ _ _ hne).trans ((heap_setCell_other _ _ _ _ hne).trans h2)⟩
theorem cset_any (hr : ∃ tr un, RecAt V r tr un h) (now : Int) : Calls Tryz.prog 34 #[.pointer (some ⟨r, 0, none⟩), .bool true, .int .i64 now] V fun e w' => e = .returned (.int .i64 0) ∧ w' = (V.setCell ⟨r, 0, none⟩ (.int .i64 0)).setCell ⟨r, 1, none⟩ (.int .i64 0) := by
  obtain ⟨tr, un, h1⟩ := hr
  exact cset_ok h1 now
end
noncomputable def codeCk (n : Nat) : Code := ((Tryz.f15.body.bind (regionAt n)).getD .skip)
set_option maxHeartbeats 4000000 in
theorem ck_region4 {V0 W5 : World} {r tr un : Nat} {h : List UInt8} {p : ByteArray} {Z : Array Value} {A : Act} (sz : A.tmps.size = 50) (e2 : A.eval (.tmp 2) = .string p) (e9 : A.eval (.tmp 9) = .pointer (some ⟨r, 0, none⟩)) (hl : h.length = 32) (hp : p.size ≤ 64) (zh : ∀ w, (zeroValue 27).run Tryz.prog w = .ok (.agg Z) w) (hz : HV Z (List.replicate 32 0)) (hV0 : V0 = W5.drew) (hs0 : CK r tr un h V0) :
    (codeCk 4).wp Tryz.prog (fun x a V => x = .normal ∧ ∃ (q : Nat) (O : Array Value), (a = (((((((((((((((A.put (some 23) (.string p)).put (some 24) (.pointer (some ⟨r, 0, none⟩))).put (some 25) (.pointer (some ⟨r, 0, none⟩))).put (some 26) (.pointer (some ⟨r, 34, none⟩))).put (some 27) (.string saltB)).put (some 28) (.pointer (some ⟨r, 0, none⟩))).put (some 29) (.pointer (some ⟨r, 0, none⟩))).put (some 30) (.pointer (some ⟨r, 35, none⟩))).put (some 31) (.int .i64 2)).put (some 32) (.tuple #[.agg O, .int .i64 0])).put (some 22) (.tuple #[.agg O, .int .i64 0])).put (some 33) (.agg O)).put (some 34) (.int .i64 0)).put (some 11) (.pointer (some ⟨q, 0, none⟩))).put (some 10) (.int .i64 0)) ∨ a = (((((((((((((((A.put (some 23) (.string p)).put (some 24) (.pointer (some ⟨r, 0, none⟩))).put (some 25) (.pointer (some ⟨r, 0, none⟩))).put (some 26) (.pointer (some ⟨r, 34, none⟩))).put (some 27) (.string saltB)).put (some 28) (.pointer (some ⟨r, 0, none⟩))).put (some 29) (.pointer (some ⟨r, 0, none⟩))).put (some 30) (.pointer (some ⟨r, 35, none⟩))).put (some 31) (.int .i64 2)).put (some 11) (.pointer (some ⟨q, 0, none⟩))).put (some 32) (.tuple #[.agg O, .int .i64 0])).put (some 22) (.tuple #[.agg O, .int .i64 0])).put (some 33) (.agg O)).put (some 34) (.int .i64 0)).put (some 10) (.int .i64 0))) ∧ HV O (iterN p.data.toList saltB.data.toList 2) ∧ V.heap[q]? = some (.cells O 27 (0, 0)) ∧ Below V0.heap.size V0 V) A W5 := by
  have hm : Tryz.prog.follows .mixedOrders = true := by kernel_rfl
  unfold codeCk
  conv => arg 2; whnf
  refine wp_region_G (fun _ => false) (CK r tr un h) hm ?_
  rw [show ({ W5 with drawn := W5.drawn + 1 } : World) = V0 from hV0.symm]
  refine wpAnyG_take (i := 0) (v := .string p) rfl (by kernel_rfl) (by kernel_rfl) (by kernel_rfl) (fun _ _ _ h => nomatch h.1) (yg_mv (by simp [Region.wanted]) (.tmp 2) rfl e2) hs0 ?_
  show wpAnyG _ _ _ _ _ _ _ _ (A.put (some 23) (.string p)) _
  refine wpAnyG_take (i := 1) (v := .pointer (some ⟨r, 0, none⟩)) rfl (by kernel_rfl) (by kernel_rfl) (by kernel_rfl) (fun _ _ _ h => nomatch h.1) (yg_mv (by simp [Region.wanted]) (.tmp 9) rfl ((ev_ne _ _ (by decide)).trans e9)) hs0 ?_
  show wpAnyG _ _ _ _ _ _ _ _ ((A.put (some 23) (.string p)).put (some 24) (.pointer (some ⟨r, 0, none⟩))) _
  refine wpAnyG_take (i := 2) (v := .pointer (some ⟨r, 0, none⟩)) rfl (by kernel_rfl) (by kernel_rfl) (by kernel_rfl) (fun _ _ _ h => nomatch h.1) (yg_nil (by simp [Region.wanted]) (.tmp 24) rfl (ev_eq _ _ (by simp [put_sz, sz]))) hs0 ?_
  show wpAnyG _ _ _ _ _ _ _ _ (((A.put (some 23) (.string p)).put (some 24) (.pointer (some ⟨r, 0, none⟩))).put (some 25) (.pointer (some ⟨r, 0, none⟩))) _
  refine wpAnyG_take (i := 3) (v := .pointer (some ⟨r, 34, none⟩)) rfl (by kernel_rfl) (by kernel_rfl) (by kernel_rfl) (fun _ _ _ h => nomatch h.1) (yg_fld (by simp [Region.wanted]) (.tmp 25) rfl (ev_eq _ _ (by simp [put_sz, sz])) (fun w => by simp [go_sem])) hs0 ?_
  show wpAnyG _ _ _ _ _ _ _ _ ((((A.put (some 23) (.string p)).put (some 24) (.pointer (some ⟨r, 0, none⟩))).put (some 25) (.pointer (some ⟨r, 0, none⟩))).put (some 26) (.pointer (some ⟨r, 34, none⟩))) _
  refine wpAnyG_take (i := 4) (v := .string saltB) rfl (by kernel_rfl) (by kernel_rfl) (by kernel_rfl) (fun _ _ _ h => nomatch h.1) (yg_ld (by simp [Region.wanted]) (.tmp 26) rfl (ev_eq _ _ (by simp [put_sz, sz])) (fun w hw => by have h1 := hw.1.c34 hl; simp [go_sem, h1])) hs0 ?_
  show wpAnyG _ _ _ _ _ _ _ _ (((((A.put (some 23) (.string p)).put (some 24) (.pointer (some ⟨r, 0, none⟩))).put (some 25) (.pointer (some ⟨r, 0, none⟩))).put (some 26) (.pointer (some ⟨r, 34, none⟩))).put (some 27) (.string saltB)) _
  refine wpAnyG_take (i := 5) (v := .pointer (some ⟨r, 0, none⟩)) rfl (by kernel_rfl) (by kernel_rfl) (by kernel_rfl) (fun _ _ _ h => nomatch h.1) (yg_mv (by simp [Region.wanted]) (.tmp 9) rfl ((ev_ne _ _ (by decide)).trans ((ev_ne _ _ (by decide)).trans ((ev_ne _ _ (by decide)).trans ((ev_ne _ _ (by decide)).trans ((ev_ne _ _ (by decide)).trans e9)))))) hs0 ?_
  show wpAnyG _ _ _ _ _ _ _ _ ((((((A.put (some 23) (.string p)).put (some 24) (.pointer (some ⟨r, 0, none⟩))).put (some 25) (.pointer (some ⟨r, 0, none⟩))).put (some 26) (.pointer (some ⟨r, 34, none⟩))).put (some 27) (.string saltB)).put (some 28) (.pointer (some ⟨r, 0, none⟩))) _
  refine wpAnyG_take (i := 6) (v := .pointer (some ⟨r, 0, none⟩)) rfl (by kernel_rfl) (by kernel_rfl) (by kernel_rfl) (fun _ _ _ h => nomatch h.1) (yg_nil (by simp [Region.wanted]) (.tmp 28) rfl (ev_eq _ _ (by simp [put_sz, sz]))) hs0 ?_
  show wpAnyG _ _ _ _ _ _ _ _ (((((((A.put (some 23) (.string p)).put (some 24) (.pointer (some ⟨r, 0, none⟩))).put (some 25) (.pointer (some ⟨r, 0, none⟩))).put (some 26) (.pointer (some ⟨r, 34, none⟩))).put (some 27) (.string saltB)).put (some 28) (.pointer (some ⟨r, 0, none⟩))).put (some 29) (.pointer (some ⟨r, 0, none⟩))) _
  refine wpAnyG_take (i := 7) (v := .pointer (some ⟨r, 35, none⟩)) rfl (by kernel_rfl) (by kernel_rfl) (by kernel_rfl) (fun _ _ _ h => nomatch h.1) (yg_fld (by simp [Region.wanted]) (.tmp 29) rfl (ev_eq _ _ (by simp [put_sz, sz])) (fun w => by simp [go_sem])) hs0 ?_
  show wpAnyG _ _ _ _ _ _ _ _ ((((((((A.put (some 23) (.string p)).put (some 24) (.pointer (some ⟨r, 0, none⟩))).put (some 25) (.pointer (some ⟨r, 0, none⟩))).put (some 26) (.pointer (some ⟨r, 34, none⟩))).put (some 27) (.string saltB)).put (some 28) (.pointer (some ⟨r, 0, none⟩))).put (some 29) (.pointer (some ⟨r, 0, none⟩))).put (some 30) (.pointer (some ⟨r, 35, none⟩))) _
  refine wpAnyG_take (i := 8) (v := .int .i64 2) rfl (by kernel_rfl) (by kernel_rfl) (by kernel_rfl) (fun _ _ _ h => nomatch h.1) (yg_ld (by simp [Region.wanted]) (.tmp 30) rfl (ev_eq _ _ (by simp [put_sz, sz])) (fun w hw => by have h1 := hw.1.c35 hl; simp [go_sem, h1])) hs0 ?_
  show wpAnyG _ _ _ _ _ _ _ _ (((((((((A.put (some 23) (.string p)).put (some 24) (.pointer (some ⟨r, 0, none⟩))).put (some 25) (.pointer (some ⟨r, 0, none⟩))).put (some 26) (.pointer (some ⟨r, 34, none⟩))).put (some 27) (.string saltB)).put (some 28) (.pointer (some ⟨r, 0, none⟩))).put (some 29) (.pointer (some ⟨r, 0, none⟩))).put (some 30) (.pointer (some ⟨r, 35, none⟩))).put (some 31) (.int .i64 2)) _
  obtain ⟨Az1, hAz1⟩ : ∃ Az1, Az1 = (((((((((A.put (some 23) (.string p)).put (some 24) (.pointer (some ⟨r, 0, none⟩))).put (some 25) (.pointer (some ⟨r, 0, none⟩))).put (some 26) (.pointer (some ⟨r, 34, none⟩))).put (some 27) (.string saltB)).put (some 28) (.pointer (some ⟨r, 0, none⟩))).put (some 29) (.pointer (some ⟨r, 0, none⟩))).put (some 30) (.pointer (some ⟨r, 35, none⟩))).put (some 31) (.int .i64 2)) := ⟨_, rfl⟩
  have szAz1 : Az1.tmps.size = 50 := by rw [hAz1]; simp [put_sz, sz]
  have eAz123 : Az1.eval (.tmp 23) = .string p := by rw [hAz1]; exact ((ev_ne _ _ (by decide)).trans ((ev_ne _ _ (by decide)).trans ((ev_ne _ _ (by decide)).trans ((ev_ne _ _ (by decide)).trans ((ev_ne _ _ (by decide)).trans ((ev_ne _ _ (by decide)).trans ((ev_ne _ _ (by decide)).trans ((ev_ne _ _ (by decide)).trans (ev_eq _ _ (by simp [sz]))))))))))
  have eAz127 : Az1.eval (.tmp 27) = .string saltB := by rw [hAz1]; exact ((ev_ne _ _ (by decide)).trans ((ev_ne _ _ (by decide)).trans ((ev_ne _ _ (by decide)).trans ((ev_ne _ _ (by decide)).trans (ev_eq _ _ (by simp [put_sz, sz]))))))
  have eAz131 : Az1.eval (.tmp 31) = .int .i64 2 := by rw [hAz1]; exact (ev_eq _ _ (by simp [put_sz, sz]))
  rw [← hAz1]
  refine wpAnyG_all (rs := [9, 13]) (by kernel_rfl) (by simp) fun i1 hm1 => ?_
  have h19 : i1 = 9 ∨ i1 = 13 := by simpa using hm1
  rcases h19 with rfl | rfl
  · refine wpOp_own rfl rfl fun K1 hK1 => ?_
    refine wp_calls3J 33 hf_iterC (.tmp 23) (.tmp 27) (.tmp 31) _ rfl (.string p) (.string saltB) (.int .i64 2) eAz123 eAz127 eAz131 ?_
    refine (iter_short p hp V0 hs0.2).mono ?_
    rintro _ V1 ⟨O, rfl, hO, hb1⟩
    have hs1 := hs0.below hb1
    refine ⟨_, rfl, hK1 _ _ ⟨.inr hs1, ?_⟩⟩
    clear hK1 K1 hm1
    show wpAnyG _ _ _ _ _ _ _ _ (Az1.put (some 32) (.tuple #[.agg O, .int .i64 0])) _
    refine wpAnyG_take (i := 10) (v := .tuple #[.agg O, .int .i64 0]) rfl (by kernel_rfl) (by kernel_rfl) (by kernel_rfl) (fun _ _ _ h => nomatch h.1) (yg_mv (by simp [Region.wanted]) (.tmp 32) rfl (ev_eq _ _ (by simp [szAz1]))) hs1 ?_
    show wpAnyG _ _ _ _ _ _ _ _ ((Az1.put (some 32) (.tuple #[.agg O, .int .i64 0])).put (some 22) (.tuple #[.agg O, .int .i64 0])) _
    refine wpAnyG_take (i := 11) (v := .agg O) rfl (by kernel_rfl) (by kernel_rfl) (by kernel_rfl) (fun _ _ _ h => nomatch h.1) (yg_ext (by simp [Region.wanted]) (.tmp 22) rfl (ev_eq _ _ (by simp [put_sz, szAz1])) (fun w => by simp [go_sem])) hs1 ?_
    show wpAnyG _ _ _ _ _ _ _ _ (((Az1.put (some 32) (.tuple #[.agg O, .int .i64 0])).put (some 22) (.tuple #[.agg O, .int .i64 0])).put (some 33) (.agg O)) _
    refine wpAnyG_take (i := 12) (v := .int .i64 0) rfl (by kernel_rfl) (by kernel_rfl) (by kernel_rfl) (fun _ _ _ h => nomatch h.1) (yg_ext (by simp [Region.wanted]) (.tmp 22) rfl ((ev_ne _ _ (by decide)).trans (ev_eq _ _ (by simp [put_sz, szAz1]))) (fun w => by simp [go_sem])) hs1 ?_
    show wpAnyG _ _ _ _ _ _ _ _ ((((Az1.put (some 32) (.tuple #[.agg O, .int .i64 0])).put (some 22) (.tuple #[.agg O, .int .i64 0])).put (some 33) (.agg O)).put (some 34) (.int .i64 0)) _
    refine wpAnyG_all (rs := [13]) (by kernel_rfl) (by simp) fun i2 hm2 => ?_
    obtain rfl : i2 = 13 := by simpa using hm2
    refine wpOp_own rfl rfl fun K2 hK2 => ?_
    refine wp_alloc_row 27 rfl Z zh ?_
    obtain ⟨V2, hV2⟩ : ∃ V2, V2 = V1.alloc (.cells Z 27) := ⟨_, rfl⟩
    have hb2 : Below V1.heap.size V1 V2 := by rw [hV2]; exact (Below.refl _ V1).alloc (Nat.le_refl _) _
    have hx : V2.heap[V1.heap.size]? = some (.cells Z 27 (0, 0)) := by rw [hV2]; exact heap_alloc_new V1 _
    rw [← hV2]
    have hs2 := hs1.below hb2
    refine hK2 _ _ ⟨.inr hs2, ?_⟩
    clear hK2 K2 hm2
    show wpAnyG _ _ _ _ _ _ _ _ (((((Az1.put (some 32) (.tuple #[.agg O, .int .i64 0])).put (some 22) (.tuple #[.agg O, .int .i64 0])).put (some 33) (.agg O)).put (some 34) (.int .i64 0)).put (some 11) (.pointer (some ⟨V1.heap.size, 0, none⟩))) _
    obtain ⟨Az2, hAz2⟩ : ∃ Az2, Az2 = (((((Az1.put (some 32) (.tuple #[.agg O, .int .i64 0])).put (some 22) (.tuple #[.agg O, .int .i64 0])).put (some 33) (.agg O)).put (some 34) (.int .i64 0)).put (some 11) (.pointer (some ⟨V1.heap.size, 0, none⟩))) := ⟨_, rfl⟩
    have szAz2 : Az2.tmps.size = 50 := by rw [hAz2]; simp [put_sz, szAz1]
    have eAz211 : Az2.eval (.tmp 11) = .pointer (some ⟨V1.heap.size, 0, none⟩) := by rw [hAz2]; exact (ev_eq _ _ (by simp [put_sz, szAz1]))
    have eAz233 : Az2.eval (.tmp 33) = .agg O := by rw [hAz2]; exact ((ev_ne _ _ (by decide)).trans ((ev_ne _ _ (by decide)).trans (ev_eq _ _ (by simp [put_sz, szAz1]))))
    have eAz234 : Az2.eval (.tmp 34) = .int .i64 0 := by rw [hAz2]; exact ((ev_ne _ _ (by decide)).trans (ev_eq _ _ (by simp [put_sz, szAz1])))
    rw [← hAz2]
    refine wpAnyG_all (rs := [14]) (by kernel_rfl) (by simp) fun i3 hm3 => ?_
    obtain rfl : i3 = 14 := by simpa using hm3
    refine wpOp_own rfl rfl fun K3 hK3 => ?_
    refine wp_store_row 27 (.tmp 11) (.tmp 33) rfl V1.heap.size O eAz211 eAz233 27 Z hx hO.info (hz.size.trans hO.size.symm) hO.one ?_
    have hy := setRow_heap V2 _ _ O _ _ hx
    have hb3 : Below V0.heap.size V0 (V2.setRow V1.heap.size O) := (Below.on' hb1 hb2).setRow hb1.size O
    have hs3 := hs0.below hb3
    refine hK3 _ _ ⟨.inr hs3, ?_⟩
    clear hK3 K3 hm3
    show wpAnyG _ _ _ _ _ _ _ _ Az2 _
    refine wpAnyG_one (i := 15) (v := .int .i64 0) rfl (by kernel_rfl) (yg_as (by simp [Region.wanted]) (.tmp 34) rfl eAz234) hs3 ?_
    show wpAnyG _ _ _ _ _ _ _ _ (Az2.put (some 10) (.int .i64 0)) _
    refine wpAnyG_done (by kernel_rfl) ⟨rfl, V1.heap.size, O, .inl ?_, hO, hy, hb3⟩ _
    show (Az2.put (some 10) (.int .i64 0)) = _
    rw [hAz2, hAz1]
  · refine wpOp_own rfl rfl fun K1 hK1 => ?_
    refine wp_alloc_row 27 rfl Z zh ?_
    obtain ⟨V1, hV1⟩ : ∃ V1, V1 = V0.alloc (.cells Z 27) := ⟨_, rfl⟩
    have hb1 : Below V0.heap.size V0 V1 := by rw [hV1]; exact (Below.refl _ V0).alloc (Nat.le_refl _) _
    have hx : V1.heap[V0.heap.size]? = some (.cells Z 27 (0, 0)) := by rw [hV1]; exact heap_alloc_new V0 _
    rw [← hV1]
    have hs1 := hs0.below hb1
    refine hK1 _ _ ⟨.inr hs1, ?_⟩
    clear hK1 K1 hm1
    show wpAnyG _ _ _ _ _ _ _ _ (Az1.put (some 11) (.pointer (some ⟨V0.heap.size, 0, none⟩))) _
    refine wpAnyG_all (rs := [9]) (by kernel_rfl) (by simp) fun i2 hm2 => ?_
    obtain rfl : i2 = 9 := by simpa using hm2
    refine wpOp_own rfl rfl fun K2 hK2 => ?_
    refine wp_calls3J 33 hf_iterC (.tmp 23) (.tmp 27) (.tmp 31) _ rfl (.string p) (.string saltB) (.int .i64 2) ((ev_ne _ _ (by decide)).trans eAz123) ((ev_ne _ _ (by decide)).trans eAz127) ((ev_ne _ _ (by decide)).trans eAz131) ?_
    refine (iter_short p hp V1 hs1.2).mono ?_
    rintro _ V2 ⟨O, rfl, hO, hb2⟩
    have hs2 := hs1.below hb2
    refine ⟨_, rfl, hK2 _ _ ⟨.inr hs2, ?_⟩⟩
    clear hK2 K2 hm2
    show wpAnyG _ _ _ _ _ _ _ _ ((Az1.put (some 11) (.pointer (some ⟨V0.heap.size, 0, none⟩))).put (some 32) (.tuple #[.agg O, .int .i64 0])) _
    refine wpAnyG_take (i := 10) (v := .tuple #[.agg O, .int .i64 0]) rfl (by kernel_rfl) (by kernel_rfl) (by kernel_rfl) (fun _ _ _ h => nomatch h.1) (yg_mv (by simp [Region.wanted]) (.tmp 32) rfl (ev_eq _ _ (by simp [put_sz, szAz1]))) hs2 ?_
    show wpAnyG _ _ _ _ _ _ _ _ (((Az1.put (some 11) (.pointer (some ⟨V0.heap.size, 0, none⟩))).put (some 32) (.tuple #[.agg O, .int .i64 0])).put (some 22) (.tuple #[.agg O, .int .i64 0])) _
    refine wpAnyG_take (i := 11) (v := .agg O) rfl (by kernel_rfl) (by kernel_rfl) (by kernel_rfl) (fun _ _ _ h => nomatch h.1) (yg_ext (by simp [Region.wanted]) (.tmp 22) rfl (ev_eq _ _ (by simp [put_sz, szAz1])) (fun w => by simp [go_sem])) hs2 ?_
    show wpAnyG _ _ _ _ _ _ _ _ ((((Az1.put (some 11) (.pointer (some ⟨V0.heap.size, 0, none⟩))).put (some 32) (.tuple #[.agg O, .int .i64 0])).put (some 22) (.tuple #[.agg O, .int .i64 0])).put (some 33) (.agg O)) _
    refine wpAnyG_take (i := 12) (v := .int .i64 0) rfl (by kernel_rfl) (by kernel_rfl) (by kernel_rfl) (fun _ _ _ h => nomatch h.1) (yg_ext (by simp [Region.wanted]) (.tmp 22) rfl ((ev_ne _ _ (by decide)).trans (ev_eq _ _ (by simp [put_sz, szAz1]))) (fun w => by simp [go_sem])) hs2 ?_
    show wpAnyG _ _ _ _ _ _ _ _ (((((Az1.put (some 11) (.pointer (some ⟨V0.heap.size, 0, none⟩))).put (some 32) (.tuple #[.agg O, .int .i64 0])).put (some 22) (.tuple #[.agg O, .int .i64 0])).put (some 33) (.agg O)).put (some 34) (.int .i64 0)) _
    obtain ⟨Az2, hAz2⟩ : ∃ Az2, Az2 = (((((Az1.put (some 11) (.pointer (some ⟨V0.heap.size, 0, none⟩))).put (some 32) (.tuple #[.agg O, .int .i64 0])).put (some 22) (.tuple #[.agg O, .int .i64 0])).put (some 33) (.agg O)).put (some 34) (.int .i64 0)) := ⟨_, rfl⟩
    have szAz2 : Az2.tmps.size = 50 := by rw [hAz2]; simp [put_sz, szAz1]
    have eAz211 : Az2.eval (.tmp 11) = .pointer (some ⟨V0.heap.size, 0, none⟩) := by rw [hAz2]; exact ((ev_ne _ _ (by decide)).trans ((ev_ne _ _ (by decide)).trans ((ev_ne _ _ (by decide)).trans ((ev_ne _ _ (by decide)).trans (ev_eq _ _ (by simp [szAz1]))))))
    have eAz233 : Az2.eval (.tmp 33) = .agg O := by rw [hAz2]; exact ((ev_ne _ _ (by decide)).trans (ev_eq _ _ (by simp [put_sz, szAz1])))
    have eAz234 : Az2.eval (.tmp 34) = .int .i64 0 := by rw [hAz2]; exact (ev_eq _ _ (by simp [put_sz, szAz1]))
    rw [← hAz2]
    refine wpAnyG_all (rs := [14]) (by kernel_rfl) (by simp) fun i3 hm3 => ?_
    obtain rfl : i3 = 14 := by simpa using hm3
    refine wpOp_own rfl rfl fun K3 hK3 => ?_
    refine wp_store_row 27 (.tmp 11) (.tmp 33) rfl V0.heap.size O eAz211 eAz233 27 Z ((hb2.block _ (heap_lt hx)).trans hx) hO.info (hz.size.trans hO.size.symm) hO.one ?_
    have hy := setRow_heap V2 _ _ O _ _ ((hb2.block _ (heap_lt hx)).trans hx)
    have hb3 : Below V0.heap.size V0 (V2.setRow V0.heap.size O) := (Below.on' hb1 hb2).setRow (Nat.le_refl _) O
    have hs3 := hs0.below hb3
    refine hK3 _ _ ⟨.inr hs3, ?_⟩
    clear hK3 K3 hm3
    show wpAnyG _ _ _ _ _ _ _ _ Az2 _
    refine wpAnyG_one (i := 15) (v := .int .i64 0) rfl (by kernel_rfl) (yg_as (by simp [Region.wanted]) (.tmp 34) rfl eAz234) hs3 ?_
    show wpAnyG _ _ _ _ _ _ _ _ (Az2.put (some 10) (.int .i64 0)) _
    refine wpAnyG_done (by kernel_rfl) ⟨rfl, V0.heap.size, O, .inr ?_, hO, hy, hb3⟩ _
    show (Az2.put (some 10) (.int .i64 0)) = _
    rw [hAz2, hAz1]
set_option maxHeartbeats 4000000 in
theorem ck_region5 {V0 W5 : World} {r q : Nat} {h : List UInt8} {O : Array Value} {A : Act} (sz : A.tmps.size = 50) (e3 : A.eval (.tmp 3) = .int .i64 0) (e9 : A.eval (.tmp 9) = .pointer (some ⟨r, 0, none⟩)) (e10 : A.eval (.tmp 10) = .int .i64 0) (e11 : A.eval (.tmp 11) = .pointer (some ⟨q, 0, none⟩)) (hl : h.length = 32) (hO : HV O h) (hne : q ≠ r) (hV0 : V0 = W5.drew) (hs0 : CS r q h O V0) :
    (codeCk 5).wp Tryz.prog (fun x a V => x = .normal ∧ a = ((((((((((((((((A.put (some 35) (.pointer (some ⟨r, 0, none⟩))).put (some 36) (.pointer (some ⟨r, 0, none⟩))).put (some 37) (.pointer (some ⟨r, 0, none⟩))).put (some 38) (.int .i64 0)).put (some 39) (.bool true)).put (some 40) (.bool true)).put (some 41) (.agg O)).put (some 42) (.pointer (some ⟨r, 0, none⟩))).put (some 43) (.pointer (some ⟨r, 0, none⟩))).put (some 44) (.pointer (some ⟨r, 2, none⟩))).put (some 45) (.agg (bvs h))).put (some 48) (.int .i64 0)).put (some 46) (.bool true)).put (some 47) (.bool true)).put (some 49) (.int .i64 0)).put (some 8) (.int .i64 0)) ∧ ∃ V1, Below V0.heap.size V0 V1 ∧ V = (V1.setCell ⟨r, 0, none⟩ (.int .i64 0)).setCell ⟨r, 1, none⟩ (.int .i64 0)) A W5 := by
  have hm : Tryz.prog.follows .mixedOrders = true := by kernel_rfl
  unfold codeCk
  conv => arg 2; whnf
  refine wp_region_G (fun _ => false) (CS r q h O) hm ?_
  rw [show ({ W5 with drawn := W5.drawn + 1 } : World) = V0 from hV0.symm]
  refine wpAnyG_take (i := 0) (v := .pointer (some ⟨r, 0, none⟩)) rfl (by kernel_rfl) (by kernel_rfl) (by kernel_rfl) (fun _ _ _ h => nomatch h.1) (yg_mv (by simp [Region.wanted]) (.tmp 9) rfl e9) hs0 ?_
  show wpAnyG _ _ _ _ _ _ _ _ (A.put (some 35) (.pointer (some ⟨r, 0, none⟩))) _
  refine wpAnyG_take (i := 1) (v := .pointer (some ⟨r, 0, none⟩)) rfl (by kernel_rfl) (by kernel_rfl) (by kernel_rfl) (fun _ _ _ h => nomatch h.1) (yg_nil (by simp [Region.wanted]) (.tmp 35) rfl (ev_eq _ _ (by simp [sz]))) hs0 ?_
  show wpAnyG _ _ _ _ _ _ _ _ ((A.put (some 35) (.pointer (some ⟨r, 0, none⟩))).put (some 36) (.pointer (some ⟨r, 0, none⟩))) _
  refine wpAnyG_take (i := 2) (v := .pointer (some ⟨r, 0, none⟩)) rfl (by kernel_rfl) (by kernel_rfl) (by kernel_rfl) (fun _ _ _ h => nomatch h.1) (yg_fld (by simp [Region.wanted]) (.tmp 36) rfl (ev_eq _ _ (by simp [put_sz, sz])) (fun w => by simp [go_sem])) hs0 ?_
  show wpAnyG _ _ _ _ _ _ _ _ (((A.put (some 35) (.pointer (some ⟨r, 0, none⟩))).put (some 36) (.pointer (some ⟨r, 0, none⟩))).put (some 37) (.pointer (some ⟨r, 0, none⟩))) _
  refine wpAnyG_take (i := 3) (v := .int .i64 0) rfl (by kernel_rfl) (by kernel_rfl) (by kernel_rfl) (fun _ _ _ h => nomatch h.1) (yg_mv (by simp [Region.wanted]) (.tmp 10) rfl ((ev_ne _ _ (by decide)).trans ((ev_ne _ _ (by decide)).trans ((ev_ne _ _ (by decide)).trans e10)))) hs0 ?_
  show wpAnyG _ _ _ _ _ _ _ _ ((((A.put (some 35) (.pointer (some ⟨r, 0, none⟩))).put (some 36) (.pointer (some ⟨r, 0, none⟩))).put (some 37) (.pointer (some ⟨r, 0, none⟩))).put (some 38) (.int .i64 0)) _
  refine wpAnyG_take (i := 4) (v := .bool true) rfl (by kernel_rfl) (by kernel_rfl) (by kernel_rfl) (fun _ _ _ h => nomatch h.1) (yg_bin (by simp [Region.wanted]) (.tmp 38) (.const (.int .i64 0)) rfl (ev_eq _ _ (by simp [put_sz, sz])) rfl (fun w => by simp [go_sem])) hs0 ?_
  show wpAnyG _ _ _ _ _ _ _ _ (((((A.put (some 35) (.pointer (some ⟨r, 0, none⟩))).put (some 36) (.pointer (some ⟨r, 0, none⟩))).put (some 37) (.pointer (some ⟨r, 0, none⟩))).put (some 38) (.int .i64 0)).put (some 39) (.bool true)) _
  refine wpAnyG_take (i := 5) (v := .bool true) rfl (by kernel_rfl) (by kernel_rfl) (by kernel_rfl) (fun _ _ _ h => nomatch h.1) (yg_mv (by simp [Region.wanted]) (.tmp 39) rfl (ev_eq _ _ (by simp [put_sz, sz]))) hs0 ?_
  show wpAnyG _ _ _ _ _ _ _ _ ((((((A.put (some 35) (.pointer (some ⟨r, 0, none⟩))).put (some 36) (.pointer (some ⟨r, 0, none⟩))).put (some 37) (.pointer (some ⟨r, 0, none⟩))).put (some 38) (.int .i64 0)).put (some 39) (.bool true)).put (some 40) (.bool true)) _
  refine wpAnyG_take (i := 6) (v := .agg O) rfl (by kernel_rfl) (by kernel_rfl) (by kernel_rfl) (fun _ _ _ h => nomatch h.1) (yg_ld (guard_t (i := 5) (d := 40) rfl rfl (by simp [put_sz, sz]) (ev_eq _ _ (by simp [put_sz, sz]))) (.tmp 11) rfl ((ev_ne _ _ (by decide)).trans ((ev_ne _ _ (by decide)).trans ((ev_ne _ _ (by decide)).trans ((ev_ne _ _ (by decide)).trans ((ev_ne _ _ (by decide)).trans ((ev_ne _ _ (by decide)).trans e11)))))) (fun w hw => hw.ldQ hO)) hs0 ?_
  show wpAnyG _ _ _ _ _ _ _ _ (((((((A.put (some 35) (.pointer (some ⟨r, 0, none⟩))).put (some 36) (.pointer (some ⟨r, 0, none⟩))).put (some 37) (.pointer (some ⟨r, 0, none⟩))).put (some 38) (.int .i64 0)).put (some 39) (.bool true)).put (some 40) (.bool true)).put (some 41) (.agg O)) _
  refine wpAnyG_take (i := 7) (v := .pointer (some ⟨r, 0, none⟩)) rfl (by kernel_rfl) (by kernel_rfl) (by kernel_rfl) (fun _ _ _ h => nomatch h.1) (yg_mv (guard_t (i := 5) (d := 40) rfl rfl (by simp [put_sz, sz]) ((ev_ne _ _ (by decide)).trans (ev_eq _ _ (by simp [put_sz, sz])))) (.tmp 9) rfl ((ev_ne _ _ (by decide)).trans ((ev_ne _ _ (by decide)).trans ((ev_ne _ _ (by decide)).trans ((ev_ne _ _ (by decide)).trans ((ev_ne _ _ (by decide)).trans ((ev_ne _ _ (by decide)).trans ((ev_ne _ _ (by decide)).trans e9)))))))) hs0 ?_
  show wpAnyG _ _ _ _ _ _ _ _ ((((((((A.put (some 35) (.pointer (some ⟨r, 0, none⟩))).put (some 36) (.pointer (some ⟨r, 0, none⟩))).put (some 37) (.pointer (some ⟨r, 0, none⟩))).put (some 38) (.int .i64 0)).put (some 39) (.bool true)).put (some 40) (.bool true)).put (some 41) (.agg O)).put (some 42) (.pointer (some ⟨r, 0, none⟩))) _
  refine wpAnyG_take (i := 8) (v := .pointer (some ⟨r, 0, none⟩)) rfl (by kernel_rfl) (by kernel_rfl) (by kernel_rfl) (fun _ _ _ h => nomatch h.1) (yg_nil (guard_t (i := 5) (d := 40) rfl rfl (by simp [put_sz, sz]) ((ev_ne _ _ (by decide)).trans ((ev_ne _ _ (by decide)).trans (ev_eq _ _ (by simp [put_sz, sz]))))) (.tmp 42) rfl (ev_eq _ _ (by simp [put_sz, sz]))) hs0 ?_
  show wpAnyG _ _ _ _ _ _ _ _ (((((((((A.put (some 35) (.pointer (some ⟨r, 0, none⟩))).put (some 36) (.pointer (some ⟨r, 0, none⟩))).put (some 37) (.pointer (some ⟨r, 0, none⟩))).put (some 38) (.int .i64 0)).put (some 39) (.bool true)).put (some 40) (.bool true)).put (some 41) (.agg O)).put (some 42) (.pointer (some ⟨r, 0, none⟩))).put (some 43) (.pointer (some ⟨r, 0, none⟩))) _
  obtain ⟨Az1, hAz1⟩ : ∃ Az1, Az1 = (((((((((A.put (some 35) (.pointer (some ⟨r, 0, none⟩))).put (some 36) (.pointer (some ⟨r, 0, none⟩))).put (some 37) (.pointer (some ⟨r, 0, none⟩))).put (some 38) (.int .i64 0)).put (some 39) (.bool true)).put (some 40) (.bool true)).put (some 41) (.agg O)).put (some 42) (.pointer (some ⟨r, 0, none⟩))).put (some 43) (.pointer (some ⟨r, 0, none⟩))) := ⟨_, rfl⟩
  have szAz1 : Az1.tmps.size = 50 := by rw [hAz1]; simp [put_sz, sz]
  have eAz13 : Az1.eval (.tmp 3) = .int .i64 0 := by rw [hAz1]; exact ((ev_ne _ _ (by decide)).trans ((ev_ne _ _ (by decide)).trans ((ev_ne _ _ (by decide)).trans ((ev_ne _ _ (by decide)).trans ((ev_ne _ _ (by decide)).trans ((ev_ne _ _ (by decide)).trans ((ev_ne _ _ (by decide)).trans ((ev_ne _ _ (by decide)).trans ((ev_ne _ _ (by decide)).trans e3)))))))))
  have eAz137 : Az1.eval (.tmp 37) = .pointer (some ⟨r, 0, none⟩) := by rw [hAz1]; exact ((ev_ne _ _ (by decide)).trans ((ev_ne _ _ (by decide)).trans ((ev_ne _ _ (by decide)).trans ((ev_ne _ _ (by decide)).trans ((ev_ne _ _ (by decide)).trans ((ev_ne _ _ (by decide)).trans (ev_eq _ _ (by simp [put_sz, sz]))))))))
  have eAz140 : Az1.eval (.tmp 40) = .bool true := by rw [hAz1]; exact ((ev_ne _ _ (by decide)).trans ((ev_ne _ _ (by decide)).trans ((ev_ne _ _ (by decide)).trans (ev_eq _ _ (by simp [put_sz, sz])))))
  have eAz141 : Az1.eval (.tmp 41) = .agg O := by rw [hAz1]; exact ((ev_ne _ _ (by decide)).trans ((ev_ne _ _ (by decide)).trans (ev_eq _ _ (by simp [put_sz, sz]))))
  have eAz143 : Az1.eval (.tmp 43) = .pointer (some ⟨r, 0, none⟩) := by rw [hAz1]; exact (ev_eq _ _ (by simp [put_sz, sz]))
  rw [← hAz1]
  refine wpAnyG_take (i := 9) (v := .pointer (some ⟨r, 2, none⟩)) rfl (by kernel_rfl) (by kernel_rfl) (by kernel_rfl) (fun _ _ _ h => nomatch h.1) (yg_fld (guard_t (i := 5) (d := 40) rfl rfl (by simp [szAz1]) eAz140) (.tmp 43) rfl eAz143 (fun w => by simp [go_sem])) hs0 ?_
  show wpAnyG _ _ _ _ _ _ _ _ (Az1.put (some 44) (.pointer (some ⟨r, 2, none⟩))) _
  refine wpAnyG_take (i := 10) (v := .agg (bvs h)) rfl (by kernel_rfl) (by kernel_rfl) (by kernel_rfl) (fun _ _ _ h => nomatch h.1) (yg_ld (guard_t (i := 5) (d := 40) rfl rfl (by simp [put_sz, szAz1]) ((ev_ne _ _ (by decide)).trans eAz140)) (.tmp 44) rfl (ev_eq _ _ (by simp [szAz1])) (fun w hw => hw.ldR hl)) hs0 ?_
  show wpAnyG _ _ _ _ _ _ _ _ ((Az1.put (some 44) (.pointer (some ⟨r, 2, none⟩))).put (some 45) (.agg (bvs h))) _
  refine wpAnyG_take (i := 13) (v := .int .i64 0) rfl (by kernel_rfl) (by kernel_rfl) (by kernel_rfl) (fun _ _ _ h => nomatch h.1) (yg_mv (by simp [Region.wanted]) (.tmp 3) rfl ((ev_ne _ _ (by decide)).trans ((ev_ne _ _ (by decide)).trans eAz13))) hs0 ?_
  show wpAnyG _ _ _ _ _ _ _ _ (((Az1.put (some 44) (.pointer (some ⟨r, 2, none⟩))).put (some 45) (.agg (bvs h))).put (some 48) (.int .i64 0)) _
  refine wpAnyG_all (rs := [11]) (by kernel_rfl) (by simp) fun i1 hm1 => ?_
  obtain rfl : i1 = 11 := by simpa using hm1
  refine opOwn rfl (guard_t (i := 5) (d := 40) rfl rfl (by simp [put_sz, szAz1]) ((ev_ne _ _ (by decide)).trans ((ev_ne _ _ (by decide)).trans ((ev_ne _ _ (by decide)).trans eAz140)))) fun K1 hK1 => ?_
  refine wp_calls2 35 hf_sameC (.tmp 41) (.tmp 45) _ rfl (.agg O) (.agg (bvs h)) ((ev_ne _ _ (by decide)).trans ((ev_ne _ _ (by decide)).trans ((ev_ne _ _ (by decide)).trans eAz141))) ((ev_ne _ _ (by decide)).trans (ev_eq _ _ (by simp [put_sz, szAz1]))) ?_
  refine (same_true (w := V0) hO hl).mono ?_
  rintro _ V1 ⟨rfl, hb1⟩
  have hs1 := hs0.below hb1
  refine ⟨_, rfl, hK1 _ _ ⟨.inr hs1, ?_⟩⟩
  clear hK1 K1 hm1
  show wpAnyG _ _ _ _ _ _ _ _ ((((Az1.put (some 44) (.pointer (some ⟨r, 2, none⟩))).put (some 45) (.agg (bvs h))).put (some 48) (.int .i64 0)).put (some 46) (.bool true)) _
  refine wpAnyG_take (i := 12) (v := .bool true) rfl (by kernel_rfl) (by kernel_rfl) (by kernel_rfl) (fun _ _ _ h => nomatch h.1) (yg_pickT (by simp [Region.wanted]) (.tmp 40) (.tmp 46) (.const (.bool false)) rfl ((ev_ne _ _ (by decide)).trans ((ev_ne _ _ (by decide)).trans ((ev_ne _ _ (by decide)).trans ((ev_ne _ _ (by decide)).trans eAz140)))) (ev_eq _ _ (by simp [put_sz, szAz1]))) hs1 ?_
  show wpAnyG _ _ _ _ _ _ _ _ (((((Az1.put (some 44) (.pointer (some ⟨r, 2, none⟩))).put (some 45) (.agg (bvs h))).put (some 48) (.int .i64 0)).put (some 46) (.bool true)).put (some 47) (.bool true)) _
  refine wpAnyG_all (rs := [14]) (by kernel_rfl) (by simp) fun i2 hm2 => ?_
  obtain rfl : i2 = 14 := by simpa using hm2
  refine wpOp_own rfl rfl fun K2 hK2 => ?_
  refine wp_calls3J 34 hf_settleC (.tmp 37) (.tmp 47) (.tmp 48) _ rfl (.pointer (some ⟨r, 0, none⟩)) (.bool true) (.int .i64 0) ((ev_ne _ _ (by decide)).trans ((ev_ne _ _ (by decide)).trans ((ev_ne _ _ (by decide)).trans ((ev_ne _ _ (by decide)).trans ((ev_ne _ _ (by decide)).trans eAz137))))) (ev_eq _ _ (by simp [put_sz, szAz1])) ((ev_ne _ _ (by decide)).trans ((ev_ne _ _ (by decide)).trans (ev_eq _ _ (by simp [put_sz, szAz1])))) ?_
  refine (cset_any hs1.1 0).mono ?_
  rintro _ V2 ⟨rfl, hV2⟩
  have hs2 := hs1.set hne
  rw [← hV2] at hs2
  refine ⟨_, rfl, hK2 _ _ ⟨.inr hs2, ?_⟩⟩
  clear hK2 K2 hm2
  show wpAnyG _ _ _ _ _ _ _ _ ((((((Az1.put (some 44) (.pointer (some ⟨r, 2, none⟩))).put (some 45) (.agg (bvs h))).put (some 48) (.int .i64 0)).put (some 46) (.bool true)).put (some 47) (.bool true)).put (some 49) (.int .i64 0)) _
  refine wpAnyG_one (i := 15) (v := .int .i64 0) rfl (by kernel_rfl) (yg_as (by simp [Region.wanted]) (.tmp 49) rfl (ev_eq _ _ (by simp [put_sz, szAz1]))) hs2 ?_
  show wpAnyG _ _ _ _ _ _ _ _ (((((((Az1.put (some 44) (.pointer (some ⟨r, 2, none⟩))).put (some 45) (.agg (bvs h))).put (some 48) (.int .i64 0)).put (some 46) (.bool true)).put (some 47) (.bool true)).put (some 49) (.int .i64 0)).put (some 8) (.int .i64 0)) _
  refine wpAnyG_done (by kernel_rfl) ⟨rfl, ?_, V1, hb1, hV2⟩ _
  show (((((((Az1.put (some 44) (.pointer (some ⟨r, 2, none⟩))).put (some 45) (.agg (bvs h))).put (some 48) (.int .i64 0)).put (some 46) (.bool true)).put (some 47) (.bool true)).put (some 49) (.int .i64 0)).put (some 8) (.int .i64 0)) = _
  rw [hAz1]
end Go.Proofs.YtomhcccjeadefaaGreatDoor
