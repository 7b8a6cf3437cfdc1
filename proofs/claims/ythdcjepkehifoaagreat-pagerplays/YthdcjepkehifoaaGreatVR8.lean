/- YthdcjepkehifoaaGreatVR6b + YthdcjepkehifoaaGreatVR8 -/
import Derived.Test.YthdcjepkehifoaaGreatVR6
import Derived.Test.YthdcjepkehifoaaGreatVR7
/- The region of Pin of the reference's cache that asks whether a page is there. -/
namespace Go.Proofs.YthdcjepkehifoaaGreat
open Go.RowKit Go.Maps Go.Sort Go.Shelf
set_option linter.unusedVariables false
set_option maxRecDepth 20000
theorem hf_pages3 : ∀ (args : Array Value) (w : World), (callFunc 18 args).run Tryz.prog w = .ok (.enter 18 args) w := fun args w => by simp [go_sem]
set_option maxHeartbeats 8000000 in
theorem pin_region6_neg {V0 W5 : World} {q ml b o k Z c P : Nat} {x : Int} {A : Act} (sz : A.tmps.size = 105) (e0 : A.eval (.tmp 0) = .pointer (some ⟨q, 0, none⟩)) (e1 : A.eval (.tmp 1) = .slice (some ⟨b, o, none⟩) Z c) (e5 : A.eval (.tmp 5) = .int .i64 (k : Int)) (hV0 : V0 = W5.drew) (hk : k < Z) (hx : V0.cell? ⟨b, o + k, none⟩ = some (.int .i64 x)) (hq : V0.cell? ⟨q, 0, none⟩ = some (.pointer (some ⟨ml, 0, none⟩))) (hx0 : x < 0) :
    (codeRPin 6).wp Tryz.prog (fun x' a V => x' = .normal ∧ a = (((((((((((((((((A.put (some 19) (.slice (some ⟨b, o, none⟩) Z c)).put (some 20) (.int .i64 (k : Int))).put (some 21) (.pointer (some ⟨b, o + k, none⟩))).put (some 22) (.int .i64 x)).put (some 23) (.bool true)).put (some 24) (.bool true)).put (some 25) (undef)).put (some 26) (undef)).put (some 27) (undef)).put (some 28) (undef)).put (some 29) (undef)).put (some 30) (undef)).put (some 31) (undef)).put (some 32) (undef)).put (some 33) (undef)).put (some 34) (undef)).put (some 35) (.bool true)) ∧ V = V0) A W5 := by
  have hm : Tryz.prog.follows .mixedOrders = true := by kernel_rfl
  have hk1 : (0 : Int) ≤ (k : Int) := by omega
  have hk2 : (k : Int) < (Z : Int) := by omega
  have hs0 : V0.cell? ⟨b, o + k, none⟩ = some (.int .i64 x) ∧ V0.cell? ⟨q, 0, none⟩ = some (.pointer (some ⟨ml, 0, none⟩)) := ⟨hx, hq⟩
  have keepS : ∀ {V V' : World}, (V.cell? ⟨b, o + k, none⟩ = some (.int .i64 x) ∧ V.cell? ⟨q, 0, none⟩ = some (.pointer (some ⟨ml, 0, none⟩))) → Below V.heap.size V V' → (V'.cell? ⟨b, o + k, none⟩ = some (.int .i64 x) ∧ V'.cell? ⟨q, 0, none⟩ = some (.pointer (some ⟨ml, 0, none⟩))) := fun h hb => ⟨(hb.cell (World.block_lt_of_cell? _ _ h.1)).trans h.1, (hb.cell (World.block_lt_of_cell? _ _ h.2)).trans h.2⟩
  unfold codeRPin
  conv => arg 2; whnf
  refine wp_region_G (fun _ => false) (fun V => V.cell? ⟨b, o + k, none⟩ = some (.int .i64 x) ∧ V.cell? ⟨q, 0, none⟩ = some (.pointer (some ⟨ml, 0, none⟩))) hm ?_
  rw [show ({ W5 with drawn := W5.drawn + 1 } : World) = V0 from hV0.symm]
  refine wpAnyG_take (i := 0) (v := .slice (some ⟨b, o, none⟩) Z c) rfl (by kernel_rfl) (by kernel_rfl) (by kernel_rfl) (fun _ _ _ h => nomatch h.1) (yg_mv (by simp [Region.wanted]) (.tmp 1) rfl e1) hs0 ?_
  show wpAnyG _ _ _ _ _ _ _ _ (A.put (some 19) (.slice (some ⟨b, o, none⟩) Z c)) _
  refine wpAnyG_take (i := 1) (v := .int .i64 (k : Int)) rfl (by kernel_rfl) (by kernel_rfl) (by kernel_rfl) (fun _ _ _ h => nomatch h.1) (yg_mv (by simp [Region.wanted]) (.tmp 5) rfl ((ev_ne _ _ (by decide)).trans e5)) hs0 ?_
  show wpAnyG _ _ _ _ _ _ _ _ ((A.put (some 19) (.slice (some ⟨b, o, none⟩) Z c)).put (some 20) (.int .i64 (k : Int))) _
  refine wpAnyG_take (i := 2) (v := .pointer (some ⟨b, o + k, none⟩)) rfl (by kernel_rfl) (by kernel_rfl) (by kernel_rfl) (fun _ _ _ h => nomatch h.1) (yg_ix (by simp [Region.wanted]) (.tmp 19) (.tmp 20) rfl ((ev_ne _ _ (by decide)).trans (ev_eq _ _ (by simp [sz]))) (ev_eq _ _ (by simp [put_sz, sz])) (fun w => by simp [go_sem, hk1, hk2])) hs0 ?_
  show wpAnyG _ _ _ _ _ _ _ _ (((A.put (some 19) (.slice (some ⟨b, o, none⟩) Z c)).put (some 20) (.int .i64 (k : Int))).put (some 21) (.pointer (some ⟨b, o + k, none⟩))) _
  refine wpAnyG_take (i := 3) (v := .int .i64 x) rfl (by kernel_rfl) (by kernel_rfl) (by kernel_rfl) (fun _ _ _ h => nomatch h.1) (yg_ld (by simp [Region.wanted]) (.tmp 21) rfl (ev_eq _ _ (by simp [put_sz, sz])) (fun w hw => by have h1 := hw.1; simp [go_sem, h1])) hs0 ?_
  show wpAnyG _ _ _ _ _ _ _ _ ((((A.put (some 19) (.slice (some ⟨b, o, none⟩) Z c)).put (some 20) (.int .i64 (k : Int))).put (some 21) (.pointer (some ⟨b, o + k, none⟩))).put (some 22) (.int .i64 x)) _
  refine wpAnyG_take (i := 4) (v := .bool true) rfl (by kernel_rfl) (by kernel_rfl) (by kernel_rfl) (fun _ _ _ h => nomatch h.1) (yg_bin (by simp [Region.wanted]) (.tmp 22) (.const (.int .i64 0)) rfl (ev_eq _ _ (by simp [put_sz, sz])) rfl (fun w => by simp [go_sem, hx0])) hs0 ?_
  show wpAnyG _ _ _ _ _ _ _ _ (((((A.put (some 19) (.slice (some ⟨b, o, none⟩) Z c)).put (some 20) (.int .i64 (k : Int))).put (some 21) (.pointer (some ⟨b, o + k, none⟩))).put (some 22) (.int .i64 x)).put (some 23) (.bool true)) _
  obtain ⟨Az1, hAz1⟩ : ∃ Az1, Az1 = (((((A.put (some 19) (.slice (some ⟨b, o, none⟩) Z c)).put (some 20) (.int .i64 (k : Int))).put (some 21) (.pointer (some ⟨b, o + k, none⟩))).put (some 22) (.int .i64 x)).put (some 23) (.bool true)) := ⟨_, rfl⟩
  have szAz1 : Az1.tmps.size = 105 := by rw [hAz1]; simp [put_sz, sz]
  have eAz10 : Az1.eval (.tmp 0) = .pointer (some ⟨q, 0, none⟩) := by rw [hAz1]; exact ((ev_ne _ _ (by decide)).trans ((ev_ne _ _ (by decide)).trans ((ev_ne _ _ (by decide)).trans ((ev_ne _ _ (by decide)).trans ((ev_ne _ _ (by decide)).trans e0)))))
  have eAz11 : Az1.eval (.tmp 1) = .slice (some ⟨b, o, none⟩) Z c := by rw [hAz1]; exact ((ev_ne _ _ (by decide)).trans ((ev_ne _ _ (by decide)).trans ((ev_ne _ _ (by decide)).trans ((ev_ne _ _ (by decide)).trans ((ev_ne _ _ (by decide)).trans e1)))))
  have eAz15 : Az1.eval (.tmp 5) = .int .i64 (k : Int) := by rw [hAz1]; exact ((ev_ne _ _ (by decide)).trans ((ev_ne _ _ (by decide)).trans ((ev_ne _ _ (by decide)).trans ((ev_ne _ _ (by decide)).trans ((ev_ne _ _ (by decide)).trans e5)))))
  have eAz123 : Az1.eval (.tmp 23) = .bool true := by rw [hAz1]; exact (ev_eq _ _ (by simp [put_sz, sz]))
  rw [← hAz1]
  refine wpAnyG_take (i := 5) (v := .bool true) rfl (by kernel_rfl) (by kernel_rfl) (by kernel_rfl) (fun _ _ _ h => nomatch h.1) (yg_mv (by simp [Region.wanted]) (.tmp 23) rfl eAz123) hs0 ?_
  show wpAnyG _ _ _ _ _ _ _ _ (Az1.put (some 24) (.bool true)) _
  refine wpAnyG_take (i := 6) (v := undef) rfl (by kernel_rfl) (by kernel_rfl) (by kernel_rfl) (fun _ _ _ h => nomatch h.1) (yg_skip (guard_f (i := 5) (d := 24) rfl rfl (by simp [put_sz, szAz1]) (ev_eq _ _ (by simp [szAz1])))) hs0 ?_
  show wpAnyG _ _ _ _ _ _ _ _ ((Az1.put (some 24) (.bool true)).put (some 25) (undef)) _
  refine wpAnyG_take (i := 7) (v := undef) rfl (by kernel_rfl) (by kernel_rfl) (by kernel_rfl) (fun _ _ _ h => nomatch h.1) (yg_skip (guard_f (i := 5) (d := 24) rfl rfl (by simp [put_sz, szAz1]) ((ev_ne _ _ (by decide)).trans (ev_eq _ _ (by simp [szAz1]))))) hs0 ?_
  show wpAnyG _ _ _ _ _ _ _ _ (((Az1.put (some 24) (.bool true)).put (some 25) (undef)).put (some 26) (undef)) _
  refine wpAnyG_take (i := 8) (v := undef) rfl (by kernel_rfl) (by kernel_rfl) (by kernel_rfl) (fun _ _ _ h => nomatch h.1) (yg_skip (guard_f (i := 5) (d := 24) rfl rfl (by simp [put_sz, szAz1]) ((ev_ne _ _ (by decide)).trans ((ev_ne _ _ (by decide)).trans (ev_eq _ _ (by simp [szAz1])))))) hs0 ?_
  show wpAnyG _ _ _ _ _ _ _ _ ((((Az1.put (some 24) (.bool true)).put (some 25) (undef)).put (some 26) (undef)).put (some 27) (undef)) _
  refine wpAnyG_take (i := 9) (v := undef) rfl (by kernel_rfl) (by kernel_rfl) (by kernel_rfl) (fun _ _ _ h => nomatch h.1) (yg_skip (guard_f (i := 5) (d := 24) rfl rfl (by simp [put_sz, szAz1]) ((ev_ne _ _ (by decide)).trans ((ev_ne _ _ (by decide)).trans ((ev_ne _ _ (by decide)).trans (ev_eq _ _ (by simp [szAz1]))))))) hs0 ?_
  show wpAnyG _ _ _ _ _ _ _ _ (((((Az1.put (some 24) (.bool true)).put (some 25) (undef)).put (some 26) (undef)).put (some 27) (undef)).put (some 28) (undef)) _
  obtain ⟨Az2, hAz2⟩ : ∃ Az2, Az2 = (((((Az1.put (some 24) (.bool true)).put (some 25) (undef)).put (some 26) (undef)).put (some 27) (undef)).put (some 28) (undef)) := ⟨_, rfl⟩
  have szAz2 : Az2.tmps.size = 105 := by rw [hAz2]; simp [put_sz, szAz1]
  have eAz20 : Az2.eval (.tmp 0) = .pointer (some ⟨q, 0, none⟩) := by rw [hAz2]; exact ((ev_ne _ _ (by decide)).trans ((ev_ne _ _ (by decide)).trans ((ev_ne _ _ (by decide)).trans ((ev_ne _ _ (by decide)).trans ((ev_ne _ _ (by decide)).trans eAz10)))))
  have eAz224 : Az2.eval (.tmp 24) = .bool true := by rw [hAz2]; exact ((ev_ne _ _ (by decide)).trans ((ev_ne _ _ (by decide)).trans ((ev_ne _ _ (by decide)).trans ((ev_ne _ _ (by decide)).trans (ev_eq _ _ (by simp [szAz1]))))))
  have eAz228 : Az2.eval (.tmp 28) = undef := by rw [hAz2]; exact (ev_eq _ _ (by simp [put_sz, szAz1]))
  rw [← hAz2]
  refine wpAnyG_take (i := 10) (v := undef) rfl (by kernel_rfl) (by kernel_rfl) (by kernel_rfl) (fun _ _ _ h => nomatch h.1) (yg_skip (guard_f (i := 5) (d := 24) rfl rfl (by simp [szAz2]) eAz224)) hs0 ?_
  show wpAnyG _ _ _ _ _ _ _ _ (Az2.put (some 29) (undef)) _
  refine wpAnyG_take (i := 11) (v := undef) rfl (by kernel_rfl) (by kernel_rfl) (by kernel_rfl) (fun _ _ _ h => nomatch h.1) (yg_skip (guard_f (i := 5) (d := 24) rfl rfl (by simp [put_sz, szAz2]) ((ev_ne _ _ (by decide)).trans eAz224))) hs0 ?_
  show wpAnyG _ _ _ _ _ _ _ _ ((Az2.put (some 29) (undef)).put (some 30) (undef)) _
  refine wpAnyG_take (i := 12) (v := undef) rfl (by kernel_rfl) (by kernel_rfl) (by kernel_rfl) (fun _ _ _ h => nomatch h.1) (yg_skip (guard_f (i := 5) (d := 24) rfl rfl (by simp [put_sz, szAz2]) ((ev_ne _ _ (by decide)).trans ((ev_ne _ _ (by decide)).trans eAz224)))) hs0 ?_
  show wpAnyG _ _ _ _ _ _ _ _ (((Az2.put (some 29) (undef)).put (some 30) (undef)).put (some 31) (undef)) _
  refine wpAnyG_take (i := 13) (v := undef) rfl (by kernel_rfl) (by kernel_rfl) (by kernel_rfl) (fun _ _ _ h => nomatch h.1) (yg_skip (guard_f (i := 5) (d := 24) rfl rfl (by simp [put_sz, szAz2]) ((ev_ne _ _ (by decide)).trans ((ev_ne _ _ (by decide)).trans ((ev_ne _ _ (by decide)).trans eAz224))))) hs0 ?_
  show wpAnyG _ _ _ _ _ _ _ _ ((((Az2.put (some 29) (undef)).put (some 30) (undef)).put (some 31) (undef)).put (some 32) (undef)) _
  refine wpAnyG_take (i := 14) (v := undef) rfl (by kernel_rfl) (by kernel_rfl) (by kernel_rfl) (fun _ _ _ h => nomatch h.1) (yg_skip (guard_f (i := 5) (d := 24) rfl rfl (by simp [put_sz, szAz2]) ((ev_ne _ _ (by decide)).trans ((ev_ne _ _ (by decide)).trans ((ev_ne _ _ (by decide)).trans ((ev_ne _ _ (by decide)).trans eAz224)))))) hs0 ?_
  show wpAnyG _ _ _ _ _ _ _ _ (((((Az2.put (some 29) (undef)).put (some 30) (undef)).put (some 31) (undef)).put (some 32) (undef)).put (some 33) (undef)) _
  refine wpAnyG_take (i := 15) (v := undef) rfl (by kernel_rfl) (by kernel_rfl) (by kernel_rfl) (fun _ _ _ h => nomatch h.1) (yg_skip (guard_f (i := 5) (d := 24) rfl rfl (by simp [put_sz, szAz2]) ((ev_ne _ _ (by decide)).trans ((ev_ne _ _ (by decide)).trans ((ev_ne _ _ (by decide)).trans ((ev_ne _ _ (by decide)).trans ((ev_ne _ _ (by decide)).trans eAz224))))))) hs0 ?_
  show wpAnyG _ _ _ _ _ _ _ _ ((((((Az2.put (some 29) (undef)).put (some 30) (undef)).put (some 31) (undef)).put (some 32) (undef)).put (some 33) (undef)).put (some 34) (undef)) _
  obtain ⟨Az3, hAz3⟩ : ∃ Az3, Az3 = ((((((Az2.put (some 29) (undef)).put (some 30) (undef)).put (some 31) (undef)).put (some 32) (undef)).put (some 33) (undef)).put (some 34) (undef)) := ⟨_, rfl⟩
  have szAz3 : Az3.tmps.size = 105 := by rw [hAz3]; simp [put_sz, szAz2]
  have eAz324 : Az3.eval (.tmp 24) = .bool true := by rw [hAz3]; exact ((ev_ne _ _ (by decide)).trans ((ev_ne _ _ (by decide)).trans ((ev_ne _ _ (by decide)).trans ((ev_ne _ _ (by decide)).trans ((ev_ne _ _ (by decide)).trans ((ev_ne _ _ (by decide)).trans eAz224))))))
  have eAz334 : Az3.eval (.tmp 34) = undef := by rw [hAz3]; exact (ev_eq _ _ (by simp [put_sz, szAz2]))
  rw [← hAz3]
  refine wpAnyG_take (i := 16) (v := .bool true) rfl (by kernel_rfl) (by kernel_rfl) (by kernel_rfl) (fun _ _ _ h => nomatch h.1) (yg_pickT (by simp [Region.wanted]) (.tmp 24) (.const (.bool true)) (.tmp 34) rfl eAz324 rfl) hs0 ?_
  show wpAnyG _ _ _ _ _ _ _ _ (Az3.put (some 35) (.bool true)) _
  refine wpAnyG_done (by kernel_rfl) ⟨rfl, ?_, rfl⟩ _
  show (Az3.put (some 35) (.bool true)) = _
  rw [hAz3, hAz2, hAz1]
set_option maxHeartbeats 8000000 in
theorem pin_region6_pos {V0 W5 : World} {q ml b o k Z c P : Nat} {x : Int} {A : Act} (sz : A.tmps.size = 105) (e0 : A.eval (.tmp 0) = .pointer (some ⟨q, 0, none⟩)) (e1 : A.eval (.tmp 1) = .slice (some ⟨b, o, none⟩) Z c) (e5 : A.eval (.tmp 5) = .int .i64 (k : Int)) (hV0 : V0 = W5.drew) (hk : k < Z) (hx : V0.cell? ⟨b, o + k, none⟩ = some (.int .i64 x)) (hq : V0.cell? ⟨q, 0, none⟩ = some (.pointer (some ⟨ml, 0, none⟩))) (hx0 : ¬ x < 0) (bb : Bool) (hbb : decide ((P : Int) ≤ x) = bb) (hpg : Calls Tryz.prog 18 #[.pointer (some ⟨ml, 0, none⟩)] V0 fun e w' => e = .returned (.int .i64 (P : Int)) ∧ Below V0.heap.size V0 w') :
    (codeRPin 6).wp Tryz.prog (fun x' a V => x' = .normal ∧ a = (((((((((((((((((A.put (some 19) (.slice (some ⟨b, o, none⟩) Z c)).put (some 20) (.int .i64 (k : Int))).put (some 21) (.pointer (some ⟨b, o + k, none⟩))).put (some 22) (.int .i64 x)).put (some 23) (.bool false)).put (some 24) (.bool false)).put (some 25) (.slice (some ⟨b, o, none⟩) Z c)).put (some 26) (.int .i64 (k : Int))).put (some 27) (.pointer (some ⟨b, o + k, none⟩))).put (some 28) (.int .i64 x)).put (some 29) (.pointer (some ⟨q, 0, none⟩))).put (some 30) (.pointer (some ⟨q, 0, none⟩))).put (some 31) (.pointer (some ⟨q, 0, none⟩))).put (some 32) (.pointer (some ⟨ml, 0, none⟩))).put (some 33) (.int .i64 (P : Int))).put (some 34) (.bool bb)).put (some 35) (.bool bb)) ∧ Below V0.heap.size V0 V) A W5 := by
  have hm : Tryz.prog.follows .mixedOrders = true := by kernel_rfl
  have hk1 : (0 : Int) ≤ (k : Int) := by omega
  have hk2 : (k : Int) < (Z : Int) := by omega
  have hs0 : V0.cell? ⟨b, o + k, none⟩ = some (.int .i64 x) ∧ V0.cell? ⟨q, 0, none⟩ = some (.pointer (some ⟨ml, 0, none⟩)) := ⟨hx, hq⟩
  have keepS : ∀ {V V' : World}, (V.cell? ⟨b, o + k, none⟩ = some (.int .i64 x) ∧ V.cell? ⟨q, 0, none⟩ = some (.pointer (some ⟨ml, 0, none⟩))) → Below V.heap.size V V' → (V'.cell? ⟨b, o + k, none⟩ = some (.int .i64 x) ∧ V'.cell? ⟨q, 0, none⟩ = some (.pointer (some ⟨ml, 0, none⟩))) := fun h hb => ⟨(hb.cell (World.block_lt_of_cell? _ _ h.1)).trans h.1, (hb.cell (World.block_lt_of_cell? _ _ h.2)).trans h.2⟩
  unfold codeRPin
  conv => arg 2; whnf
  refine wp_region_G (fun _ => false) (fun V => V.cell? ⟨b, o + k, none⟩ = some (.int .i64 x) ∧ V.cell? ⟨q, 0, none⟩ = some (.pointer (some ⟨ml, 0, none⟩))) hm ?_
  rw [show ({ W5 with drawn := W5.drawn + 1 } : World) = V0 from hV0.symm]
  refine wpAnyG_take (i := 0) (v := .slice (some ⟨b, o, none⟩) Z c) rfl (by kernel_rfl) (by kernel_rfl) (by kernel_rfl) (fun _ _ _ h => nomatch h.1) (yg_mv (by simp [Region.wanted]) (.tmp 1) rfl e1) hs0 ?_
  show wpAnyG _ _ _ _ _ _ _ _ (A.put (some 19) (.slice (some ⟨b, o, none⟩) Z c)) _
  refine wpAnyG_take (i := 1) (v := .int .i64 (k : Int)) rfl (by kernel_rfl) (by kernel_rfl) (by kernel_rfl) (fun _ _ _ h => nomatch h.1) (yg_mv (by simp [Region.wanted]) (.tmp 5) rfl ((ev_ne _ _ (by decide)).trans e5)) hs0 ?_
  show wpAnyG _ _ _ _ _ _ _ _ ((A.put (some 19) (.slice (some ⟨b, o, none⟩) Z c)).put (some 20) (.int .i64 (k : Int))) _
  refine wpAnyG_take (i := 2) (v := .pointer (some ⟨b, o + k, none⟩)) rfl (by kernel_rfl) (by kernel_rfl) (by kernel_rfl) (fun _ _ _ h => nomatch h.1) (yg_ix (by simp [Region.wanted]) (.tmp 19) (.tmp 20) rfl ((ev_ne _ _ (by decide)).trans (ev_eq _ _ (by simp [sz]))) (ev_eq _ _ (by simp [put_sz, sz])) (fun w => by simp [go_sem, hk1, hk2])) hs0 ?_
  show wpAnyG _ _ _ _ _ _ _ _ (((A.put (some 19) (.slice (some ⟨b, o, none⟩) Z c)).put (some 20) (.int .i64 (k : Int))).put (some 21) (.pointer (some ⟨b, o + k, none⟩))) _
  refine wpAnyG_take (i := 3) (v := .int .i64 x) rfl (by kernel_rfl) (by kernel_rfl) (by kernel_rfl) (fun _ _ _ h => nomatch h.1) (yg_ld (by simp [Region.wanted]) (.tmp 21) rfl (ev_eq _ _ (by simp [put_sz, sz])) (fun w hw => by have h1 := hw.1; simp [go_sem, h1])) hs0 ?_
  show wpAnyG _ _ _ _ _ _ _ _ ((((A.put (some 19) (.slice (some ⟨b, o, none⟩) Z c)).put (some 20) (.int .i64 (k : Int))).put (some 21) (.pointer (some ⟨b, o + k, none⟩))).put (some 22) (.int .i64 x)) _
  refine wpAnyG_take (i := 4) (v := .bool false) rfl (by kernel_rfl) (by kernel_rfl) (by kernel_rfl) (fun _ _ _ h => nomatch h.1) (yg_bin (by simp [Region.wanted]) (.tmp 22) (.const (.int .i64 0)) rfl (ev_eq _ _ (by simp [put_sz, sz])) rfl (fun w => by simp [go_sem, hx0])) hs0 ?_
  show wpAnyG _ _ _ _ _ _ _ _ (((((A.put (some 19) (.slice (some ⟨b, o, none⟩) Z c)).put (some 20) (.int .i64 (k : Int))).put (some 21) (.pointer (some ⟨b, o + k, none⟩))).put (some 22) (.int .i64 x)).put (some 23) (.bool false)) _
  obtain ⟨Az1, hAz1⟩ : ∃ Az1, Az1 = (((((A.put (some 19) (.slice (some ⟨b, o, none⟩) Z c)).put (some 20) (.int .i64 (k : Int))).put (some 21) (.pointer (some ⟨b, o + k, none⟩))).put (some 22) (.int .i64 x)).put (some 23) (.bool false)) := ⟨_, rfl⟩
  have szAz1 : Az1.tmps.size = 105 := by rw [hAz1]; simp [put_sz, sz]
  have eAz10 : Az1.eval (.tmp 0) = .pointer (some ⟨q, 0, none⟩) := by rw [hAz1]; exact ((ev_ne _ _ (by decide)).trans ((ev_ne _ _ (by decide)).trans ((ev_ne _ _ (by decide)).trans ((ev_ne _ _ (by decide)).trans ((ev_ne _ _ (by decide)).trans e0)))))
  have eAz11 : Az1.eval (.tmp 1) = .slice (some ⟨b, o, none⟩) Z c := by rw [hAz1]; exact ((ev_ne _ _ (by decide)).trans ((ev_ne _ _ (by decide)).trans ((ev_ne _ _ (by decide)).trans ((ev_ne _ _ (by decide)).trans ((ev_ne _ _ (by decide)).trans e1)))))
  have eAz15 : Az1.eval (.tmp 5) = .int .i64 (k : Int) := by rw [hAz1]; exact ((ev_ne _ _ (by decide)).trans ((ev_ne _ _ (by decide)).trans ((ev_ne _ _ (by decide)).trans ((ev_ne _ _ (by decide)).trans ((ev_ne _ _ (by decide)).trans e5)))))
  have eAz123 : Az1.eval (.tmp 23) = .bool false := by rw [hAz1]; exact (ev_eq _ _ (by simp [put_sz, sz]))
  rw [← hAz1]
  refine wpAnyG_take (i := 5) (v := .bool false) rfl (by kernel_rfl) (by kernel_rfl) (by kernel_rfl) (fun _ _ _ h => nomatch h.1) (yg_mv (by simp [Region.wanted]) (.tmp 23) rfl eAz123) hs0 ?_
  show wpAnyG _ _ _ _ _ _ _ _ (Az1.put (some 24) (.bool false)) _
  refine wpAnyG_take (i := 6) (v := .slice (some ⟨b, o, none⟩) Z c) rfl (by kernel_rfl) (by kernel_rfl) (by kernel_rfl) (fun _ _ _ h => nomatch h.1) (yg_mv (guard_f (i := 5) (d := 24) rfl rfl (by simp [put_sz, szAz1]) (ev_eq _ _ (by simp [szAz1]))) (.tmp 1) rfl ((ev_ne _ _ (by decide)).trans eAz11)) hs0 ?_
  show wpAnyG _ _ _ _ _ _ _ _ ((Az1.put (some 24) (.bool false)).put (some 25) (.slice (some ⟨b, o, none⟩) Z c)) _
  refine wpAnyG_take (i := 7) (v := .int .i64 (k : Int)) rfl (by kernel_rfl) (by kernel_rfl) (by kernel_rfl) (fun _ _ _ h => nomatch h.1) (yg_mv (guard_f (i := 5) (d := 24) rfl rfl (by simp [put_sz, szAz1]) ((ev_ne _ _ (by decide)).trans (ev_eq _ _ (by simp [szAz1])))) (.tmp 5) rfl ((ev_ne _ _ (by decide)).trans ((ev_ne _ _ (by decide)).trans eAz15))) hs0 ?_
  show wpAnyG _ _ _ _ _ _ _ _ (((Az1.put (some 24) (.bool false)).put (some 25) (.slice (some ⟨b, o, none⟩) Z c)).put (some 26) (.int .i64 (k : Int))) _
  refine wpAnyG_take (i := 8) (v := .pointer (some ⟨b, o + k, none⟩)) rfl (by kernel_rfl) (by kernel_rfl) (by kernel_rfl) (fun _ _ _ h => nomatch h.1) (yg_ix (guard_f (i := 5) (d := 24) rfl rfl (by simp [put_sz, szAz1]) ((ev_ne _ _ (by decide)).trans ((ev_ne _ _ (by decide)).trans (ev_eq _ _ (by simp [szAz1]))))) (.tmp 25) (.tmp 26) rfl ((ev_ne _ _ (by decide)).trans (ev_eq _ _ (by simp [put_sz, szAz1]))) (ev_eq _ _ (by simp [put_sz, szAz1])) (fun w => by simp [go_sem, hk1, hk2])) hs0 ?_
  show wpAnyG _ _ _ _ _ _ _ _ ((((Az1.put (some 24) (.bool false)).put (some 25) (.slice (some ⟨b, o, none⟩) Z c)).put (some 26) (.int .i64 (k : Int))).put (some 27) (.pointer (some ⟨b, o + k, none⟩))) _
  refine wpAnyG_take (i := 9) (v := .int .i64 x) rfl (by kernel_rfl) (by kernel_rfl) (by kernel_rfl) (fun _ _ _ h => nomatch h.1) (yg_ld (guard_f (i := 5) (d := 24) rfl rfl (by simp [put_sz, szAz1]) ((ev_ne _ _ (by decide)).trans ((ev_ne _ _ (by decide)).trans ((ev_ne _ _ (by decide)).trans (ev_eq _ _ (by simp [szAz1])))))) (.tmp 27) rfl (ev_eq _ _ (by simp [put_sz, szAz1])) (fun w hw => by have h1 := hw.1; simp [go_sem, h1])) hs0 ?_
  show wpAnyG _ _ _ _ _ _ _ _ (((((Az1.put (some 24) (.bool false)).put (some 25) (.slice (some ⟨b, o, none⟩) Z c)).put (some 26) (.int .i64 (k : Int))).put (some 27) (.pointer (some ⟨b, o + k, none⟩))).put (some 28) (.int .i64 x)) _
  obtain ⟨Az2, hAz2⟩ : ∃ Az2, Az2 = (((((Az1.put (some 24) (.bool false)).put (some 25) (.slice (some ⟨b, o, none⟩) Z c)).put (some 26) (.int .i64 (k : Int))).put (some 27) (.pointer (some ⟨b, o + k, none⟩))).put (some 28) (.int .i64 x)) := ⟨_, rfl⟩
  have szAz2 : Az2.tmps.size = 105 := by rw [hAz2]; simp [put_sz, szAz1]
  have eAz20 : Az2.eval (.tmp 0) = .pointer (some ⟨q, 0, none⟩) := by rw [hAz2]; exact ((ev_ne _ _ (by decide)).trans ((ev_ne _ _ (by decide)).trans ((ev_ne _ _ (by decide)).trans ((ev_ne _ _ (by decide)).trans ((ev_ne _ _ (by decide)).trans eAz10)))))
  have eAz224 : Az2.eval (.tmp 24) = .bool false := by rw [hAz2]; exact ((ev_ne _ _ (by decide)).trans ((ev_ne _ _ (by decide)).trans ((ev_ne _ _ (by decide)).trans ((ev_ne _ _ (by decide)).trans (ev_eq _ _ (by simp [szAz1]))))))
  have eAz228 : Az2.eval (.tmp 28) = .int .i64 x := by rw [hAz2]; exact (ev_eq _ _ (by simp [put_sz, szAz1]))
  rw [← hAz2]
  refine wpAnyG_take (i := 10) (v := .pointer (some ⟨q, 0, none⟩)) rfl (by kernel_rfl) (by kernel_rfl) (by kernel_rfl) (fun _ _ _ h => nomatch h.1) (yg_mv (guard_f (i := 5) (d := 24) rfl rfl (by simp [szAz2]) eAz224) (.tmp 0) rfl eAz20) hs0 ?_
  show wpAnyG _ _ _ _ _ _ _ _ (Az2.put (some 29) (.pointer (some ⟨q, 0, none⟩))) _
  refine wpAnyG_take (i := 11) (v := .pointer (some ⟨q, 0, none⟩)) rfl (by kernel_rfl) (by kernel_rfl) (by kernel_rfl) (fun _ _ _ h => nomatch h.1) (yg_nil (guard_f (i := 5) (d := 24) rfl rfl (by simp [put_sz, szAz2]) ((ev_ne _ _ (by decide)).trans eAz224)) (.tmp 29) rfl (ev_eq _ _ (by simp [szAz2]))) hs0 ?_
  show wpAnyG _ _ _ _ _ _ _ _ ((Az2.put (some 29) (.pointer (some ⟨q, 0, none⟩))).put (some 30) (.pointer (some ⟨q, 0, none⟩))) _
  refine wpAnyG_take (i := 12) (v := .pointer (some ⟨q, 0, none⟩)) rfl (by kernel_rfl) (by kernel_rfl) (by kernel_rfl) (fun _ _ _ h => nomatch h.1) (yg_fld (guard_f (i := 5) (d := 24) rfl rfl (by simp [put_sz, szAz2]) ((ev_ne _ _ (by decide)).trans ((ev_ne _ _ (by decide)).trans eAz224))) (.tmp 30) rfl (ev_eq _ _ (by simp [put_sz, szAz2])) (fun w => by simp [go_sem])) hs0 ?_
  show wpAnyG _ _ _ _ _ _ _ _ (((Az2.put (some 29) (.pointer (some ⟨q, 0, none⟩))).put (some 30) (.pointer (some ⟨q, 0, none⟩))).put (some 31) (.pointer (some ⟨q, 0, none⟩))) _
  refine wpAnyG_take (i := 13) (v := .pointer (some ⟨ml, 0, none⟩)) rfl (by kernel_rfl) (by kernel_rfl) (by kernel_rfl) (fun _ _ _ h => nomatch h.1) (yg_ld (guard_f (i := 5) (d := 24) rfl rfl (by simp [put_sz, szAz2]) ((ev_ne _ _ (by decide)).trans ((ev_ne _ _ (by decide)).trans ((ev_ne _ _ (by decide)).trans eAz224)))) (.tmp 31) rfl (ev_eq _ _ (by simp [put_sz, szAz2])) (fun w hw => by have h1 := hw.2; simp [go_sem, h1])) hs0 ?_
  show wpAnyG _ _ _ _ _ _ _ _ ((((Az2.put (some 29) (.pointer (some ⟨q, 0, none⟩))).put (some 30) (.pointer (some ⟨q, 0, none⟩))).put (some 31) (.pointer (some ⟨q, 0, none⟩))).put (some 32) (.pointer (some ⟨ml, 0, none⟩))) _
  refine wpAnyG_all (rs := [14]) (by kernel_rfl) (by simp) fun i1 hm1 => ?_
  obtain rfl : i1 = 14 := by simpa using hm1
  refine opOwn rfl (guard_f (i := 5) (d := 24) rfl rfl (by simp [put_sz, szAz2]) ((ev_ne _ _ (by decide)).trans ((ev_ne _ _ (by decide)).trans ((ev_ne _ _ (by decide)).trans ((ev_ne _ _ (by decide)).trans eAz224))))) fun K1 hK1 => ?_
  refine wp_calls1 18 hf_pages3 (.tmp 32) _ rfl (.pointer (some ⟨ml, 0, none⟩)) (ev_eq _ _ (by simp [put_sz, szAz2])) ?_
  refine (hpg).mono ?_
  rintro _ V1 ⟨rfl, hb1⟩
  have hs1 := keepS hs0 hb1
  refine ⟨_, rfl, hK1 _ _ ⟨.inr hs1, ?_⟩⟩
  clear hK1 K1 hm1
  show wpAnyG _ _ _ _ _ _ _ _ (((((Az2.put (some 29) (.pointer (some ⟨q, 0, none⟩))).put (some 30) (.pointer (some ⟨q, 0, none⟩))).put (some 31) (.pointer (some ⟨q, 0, none⟩))).put (some 32) (.pointer (some ⟨ml, 0, none⟩))).put (some 33) (.int .i64 (P : Int))) _
  obtain ⟨Az3, hAz3⟩ : ∃ Az3, Az3 = (((((Az2.put (some 29) (.pointer (some ⟨q, 0, none⟩))).put (some 30) (.pointer (some ⟨q, 0, none⟩))).put (some 31) (.pointer (some ⟨q, 0, none⟩))).put (some 32) (.pointer (some ⟨ml, 0, none⟩))).put (some 33) (.int .i64 (P : Int))) := ⟨_, rfl⟩
  have szAz3 : Az3.tmps.size = 105 := by rw [hAz3]; simp [put_sz, szAz2]
  have eAz324 : Az3.eval (.tmp 24) = .bool false := by rw [hAz3]; exact ((ev_ne _ _ (by decide)).trans ((ev_ne _ _ (by decide)).trans ((ev_ne _ _ (by decide)).trans ((ev_ne _ _ (by decide)).trans ((ev_ne _ _ (by decide)).trans eAz224)))))
  have eAz328 : Az3.eval (.tmp 28) = .int .i64 x := by rw [hAz3]; exact ((ev_ne _ _ (by decide)).trans ((ev_ne _ _ (by decide)).trans ((ev_ne _ _ (by decide)).trans ((ev_ne _ _ (by decide)).trans ((ev_ne _ _ (by decide)).trans eAz228)))))
  have eAz333 : Az3.eval (.tmp 33) = .int .i64 (P : Int) := by rw [hAz3]; exact (ev_eq _ _ (by simp [put_sz, szAz2]))
  rw [← hAz3]
  refine wpAnyG_take (i := 15) (v := .bool bb) rfl (by kernel_rfl) (by kernel_rfl) (by kernel_rfl) (fun _ _ _ h => nomatch h.1) (yg_bin (guard_f (i := 5) (d := 24) rfl rfl (by simp [szAz3]) eAz324) (.tmp 28) (.tmp 33) rfl eAz328 eAz333 (fun w => by simp [go_sem, hbb])) hs1 ?_
  show wpAnyG _ _ _ _ _ _ _ _ (Az3.put (some 34) (.bool bb)) _
  refine wpAnyG_take (i := 16) (v := .bool bb) rfl (by kernel_rfl) (by kernel_rfl) (by kernel_rfl) (fun _ _ _ h => nomatch h.1) (yg_pickF (by simp [Region.wanted]) (.tmp 24) (.const (.bool true)) (.tmp 34) rfl ((ev_ne _ _ (by decide)).trans eAz324) (ev_eq _ _ (by simp [szAz3]))) hs1 ?_
  show wpAnyG _ _ _ _ _ _ _ _ ((Az3.put (some 34) (.bool bb)).put (some 35) (.bool bb)) _
  refine wpAnyG_done (by kernel_rfl) ⟨rfl, ?_, hb1⟩ _
  show ((Az3.put (some 34) (.bool bb)).put (some 35) (.bool bb)) = _
  rw [hAz3, hAz2, hAz1]
end Go.Proofs.YthdcjepkehifoaaGreat

/- Pin of the reference's cache, by a contract. -/
namespace Go.Proofs.YthdcjepkehifoaaGreat
open Go.RowKit Go.Maps Go.Sort Go.Shelf
set_option linter.unusedVariables false
set_option maxRecDepth 20000
def rpinS (r : RS) (zs : List Int) : RS := (zs.map Int.toNat).foldl pinR r
def PinR (w : World) (B q : Nat) (m : RM) (r : RS) (s : PS) (zs : List Int) (e : Ending) (w' : World) : Prop :=
  e = .returned (.int .i64 (pinE s zs)) ∧ RPo w B q m r (if pinE s zs = 0 then rpinS r zs else r) w'
/-- between two rounds of the last loop -/
def PRel (w : World) (B q : Nat) (m : RM) (s : PS) (r : RS) (ns : List Nat) (k : Nat) (wr : World) : Prop := ∃ s1 r1, s1 = (ns.take k).foldl pin1 s ∧ r1 = (ns.take k).foldl pinR r ∧ Agree s1 r1 ∧ CaOk s1 ∧ Ext s1 ∧ (pinL r1.pins (ns.drop k)).length ≤ s.mo ∧ s1.P = s.P ∧ s1.mo = s.mo ∧ s1.u = s.u + k ∧ s1.dl = s.dl ∧ RPo w B q m r r1 wr
theorem isDi_dd {s : PS} {r : RS} (ag : Agree s r) (ok : CaOk s) (x : Nat) : isDi s (x : Int) = (r.dd.lookup x).isSome := by
  unfold isDi
  rw [ag.look ok, Int.toNat_natCast, decide_eq_true (by omega), Bool.true_and]
theorem RPo.below {w w' : World} {B q : Nat} {m : RM} {r r' : RS} (h : RPm w B q m r) (hp : RPo w B q m r r' w') : Below B w w' := by
  obtain ⟨m', _, ho, _, _⟩ := hp
  refine ⟨ho.os, ho.tape, ho.output, ho.size, fun k hk => ho.block k (by have := heap_lt h.obj; have := h.Bq; omega) ?_⟩
  rintro (e | e)
  · have := h.Bq; omega
  · have := (h.Rb k e).1; omega
set_option maxHeartbeats 8000000 in
theorem rpPin_any {w : World} {B q : Nat} {m : RM} {r : RS} {s : PS} (h : RPm w B q m r) (ag : Agree s r) (ok : CaOk s) (he : Ext s) (hu : s.u ≤ 2305843009213693952) (hP : s.P ≤ 90) (hdd : r.dd.length ≤ 1000) (a : Option Addr) (zs : List Int) (c : Nat) (hi : IntsAt w a zs) (hA : ∀ b o, a = some ⟨b, o, none⟩ → 0 < zs.length → b < B) (hl : zs.length ≤ 17592186044415) (hwf : ∀ x ∈ zs, -9223372036854775808 ≤ x ∧ x ≤ 9223372036854775807) :
    Calls Tryz.prog 112 #[.pointer (some ⟨q, 0, none⟩), .slice a zs.length c] w (PinR w B q m r s zs) := by
  have H := hid h
  have Hi := hid hi
  have HA := hid hA
  have Hag := hid ag
  have Hok := hid ok
  have Hext := hid he
  have hrP : r.P = s.P := ag.P
  have hrm : r.mo = s.mo := ag.mo
  have Hpl : Hid (∀ x ∈ r.pins, x < s.P) := fun x hx => ok.olt x ((ag.pm x).1 hx).1
  have hpl : r.pins.length ≤ 90 := Nat.le_trans (len_lt ag.pn Hpl.out) hP
  obtain ⟨E, hE⟩ : ∃ E : Int, E = pinE s zs := ⟨_, rfl⟩
  obtain ⟨R', hR'⟩ : ∃ R' : RS, R' = if E = 0 then rpinS r zs else r := ⟨_, rfl⟩
  unfold PinR
  rw [← hE, ← hR']
  have HE := hid hE
  have HR' := hid hR'
  have HrP := hid hrP
  have Hrm := hid hrm
  clear h ag ok he hi hA hE hR' hrP hrm
  go_enter Tryz.func112, Tryz.ntmps112
  go_wp2
  go_loopw [5] (fun i wr => ∃ k : Nat, k ≤ zs.length ∧ i = .int .i64 k ∧ (∀ x ∈ zs.take k, 0 ≤ x ∧ x < (s.P : Int)) ∧ Below w.heap.size w wr) (fun i _ => zs.length - (intOf i).toNat)
  case atStart => exact ⟨0, Nat.zero_le _, rfl, fun x hx => by simp at hx, Below.refl _ _⟩
  case round =>
    obtain ⟨k, hk, rfl, hall, hB⟩ := hrel
    have Hall := hid hall
    have HB := hid hB
    clear hall hB
    by_cases hlt : k < zs.length
    · obtain ⟨b, o, rfl, hc⟩ := ints_below Hi.out HB.out k hlt
      have Hm := hid (List.getElem_mem hlt)
      have Htk := hid (List.take_succ_eq_append_getElem hlt)
      generalize zs[k] = x at *
      have hk0 := H.out.below HB.out
      have c0 := hk0.c0
      have bdr : Below wr.heap.size wr wr.drew := ⟨rfl, rfl, rfl, Nat.le_refl _, fun _ _ => rfl⟩
      have hpg := rlogPages (hk0.below bdr)
      rw [HrP.out] at hpg
      have Hpg := hid hpg
      have g1 : (k : Int) < (zs.length : Int) := by omega
      have g2 : (0 : Int) ≤ (k : Int) := by omega
      clear hk0 bdr hpg
      by_cases hneg : x < 0
      · have Hpe : Hid (E = 2) := HE.out.trans (by
          unfold pinE
          rw [if_neg]
          intro h0
          have := reach_mem h0 x Hm.out
          omega)
        have HRr : Hid (R' = r) := HR'.out.trans (by rw [Hpe.out, if_neg (by decide)])
        go_wp2
        obtain ⟨V0, hV0⟩ : ∃ V0 : World, V0 = wr.drew := ⟨_, rfl⟩
        have b10 : Below wr.heap.size wr V0 := by rw [hV0]; exact ⟨rfl, rfl, rfl, Nat.le_refl _, fun _ _ => rfl⟩
        have hpg0 := Hpg.out
        rw [← hV0] at hpg0
        refine wp_act _ fun A hA => ?_
        have sz : A.tmps.size = 105 := by rw [hA]; rfl
        have e0 : A.eval (.tmp 0) = .pointer (some ⟨q, 0, none⟩) := by rw [hA]; rfl
        have e1 : A.eval (.tmp 1) = .slice (some ⟨b, o, none⟩) zs.length c := by rw [hA]; rfl
        have e5 : A.eval (.tmp 5) = .int .i64 (k : Int) := by rw [hA]; rfl
        refine wp_split _ (pin_region6_neg (P := 0) sz e0 e1 e5 hV0 hlt ((b10.cell (World.block_lt_of_cell? _ _ hc)).trans hc) ((b10.cell (World.block_lt_of_cell? _ _ c0)).trans c0) hneg) ?_
        rintro _ V ⟨rfl, hVV⟩
        rw [hA]
        simp only [Act.put, List.setIfInBounds_toArray, List.set_cons_succ, List.set_cons_zero]
        subst hVV
        have Hb1 := hid b10
        clear sz e0 e1 e5 hA A b10 hpg0 hV0
        go_wp2
        go_ret
        rw [Hpe.out, HRr.out]
        exact ⟨rfl, RPo.of_below H.out (HB.out.trans (Hb1.out.mono HB.out.size))⟩
      · by_cases hfar : (s.P : Int) ≤ x
        · have Hpe : Hid (E = 2) := HE.out.trans (by
            unfold pinE
            rw [if_neg]
            intro h0
            have := reach_mem h0 x Hm.out
            omega)
          have HRr : Hid (R' = r) := HR'.out.trans (by rw [Hpe.out, if_neg (by decide)])
          go_wp2
          obtain ⟨V0, hV0⟩ : ∃ V0 : World, V0 = wr.drew := ⟨_, rfl⟩
          have b10 : Below wr.heap.size wr V0 := by rw [hV0]; exact ⟨rfl, rfl, rfl, Nat.le_refl _, fun _ _ => rfl⟩
          have hpg0 := Hpg.out
          rw [← hV0] at hpg0
          refine wp_act _ fun A hA => ?_
          have sz : A.tmps.size = 105 := by rw [hA]; rfl
          have e0 : A.eval (.tmp 0) = .pointer (some ⟨q, 0, none⟩) := by rw [hA]; rfl
          have e1 : A.eval (.tmp 1) = .slice (some ⟨b, o, none⟩) zs.length c := by rw [hA]; rfl
          have e5 : A.eval (.tmp 5) = .int .i64 (k : Int) := by rw [hA]; rfl
          refine wp_split _ (pin_region6_pos (P := s.P) sz e0 e1 e5 hV0 hlt ((b10.cell (World.block_lt_of_cell? _ _ hc)).trans hc) ((b10.cell (World.block_lt_of_cell? _ _ c0)).trans c0) (by omega) true (decide_eq_true (by omega)) hpg0) ?_
          rintro _ V ⟨rfl, hb1⟩
          rw [hA]
          simp only [Act.put, List.setIfInBounds_toArray, List.set_cons_succ, List.set_cons_zero]
          have Hb1 := hid (b10.trans (hb1.mono b10.size))
          clear sz e0 e1 e5 hA A b10 hpg0 hb1
          go_wp2
          go_ret
          rw [Hpe.out, HRr.out]
          exact ⟨rfl, RPo.of_below H.out (HB.out.trans (Hb1.out.mono HB.out.size))⟩
        · go_wp2
          obtain ⟨V0, hV0⟩ : ∃ V0 : World, V0 = wr.drew := ⟨_, rfl⟩
          have b10 : Below wr.heap.size wr V0 := by rw [hV0]; exact ⟨rfl, rfl, rfl, Nat.le_refl _, fun _ _ => rfl⟩
          have hpg0 := Hpg.out
          rw [← hV0] at hpg0
          refine wp_act _ fun A hA => ?_
          have sz : A.tmps.size = 105 := by rw [hA]; rfl
          have e0 : A.eval (.tmp 0) = .pointer (some ⟨q, 0, none⟩) := by rw [hA]; rfl
          have e1 : A.eval (.tmp 1) = .slice (some ⟨b, o, none⟩) zs.length c := by rw [hA]; rfl
          have e5 : A.eval (.tmp 5) = .int .i64 (k : Int) := by rw [hA]; rfl
          refine wp_split _ (pin_region6_pos (P := s.P) sz e0 e1 e5 hV0 hlt ((b10.cell (World.block_lt_of_cell? _ _ hc)).trans hc) ((b10.cell (World.block_lt_of_cell? _ _ c0)).trans c0) (by omega) false (decide_eq_false (by omega)) hpg0) ?_
          rintro _ V ⟨rfl, hb1⟩
          rw [hA]
          simp only [Act.put, List.setIfInBounds_toArray, List.set_cons_succ, List.set_cons_zero]
          have Hb1 := hid (b10.trans (hb1.mono b10.size))
          clear sz e0 e1 e5 hA A b10 hpg0 hb1
          go_wp2
          go_roundw
          case rel => exact ⟨k + 1, by omega, by go_num, by rw [Htk.out]; intro z hz; rcases List.mem_append.1 hz with hz | hz; exact Hall.out z hz; rw [List.mem_singleton.1 hz]; exact ⟨by omega, by omega⟩, HB.out.trans (Hb1.out.mono HB.out.size)⟩
          case measure => simp [intOf]; omega
    · have hkl : k = zs.length := by omega
      subst hkl
      have g1 : ¬ (zs.length : Int) < (zs.length : Int) := by omega
      have hmem : ∀ x ∈ zs, 0 ≤ x ∧ x < (s.P : Int) := fun x hx => Hall.out x (by rw [List.take_length]; exact hx)
      have hreach : reachE s.P zs = 0 := by
        unfold reachE
        rw [if_pos]
        rw [List.all_eq_true]
        intro x hx
        have := hmem x hx
        simp
        exact this
      have Hmem := hid hmem
      have Hreach := hid hreach
      have hk0 := H.out.below HB.out
      have c4 := hk0.c4
      obtain ⟨pa, pk, hpv, hpn⟩ := numsRow H.out.prow
      rw [hpv] at c4
      have Hpv := hid hpv
      obtain ⟨ns, hns⟩ : ∃ ns, ns = zs.map Int.toNat := ⟨_, rfl⟩
      have hnl : ns.length = zs.length := by rw [hns, List.length_map]
      have Hns := hid hns
      have Hplen : Hid (∀ k, (pinL r.pins (ns.take k)).length ≤ 90) := fun k => by
        obtain ⟨h1, h2⟩ := pinL_spec Hag.out.pn (ns.take k)
        refine Nat.le_trans (len_lt h1 (P := s.P) (fun x hx => ?_)) hP
        rcases (h2 x).1 hx with h3 | h3
        · exact Hpl.out x h3
        · have h4 := List.mem_of_mem_take h3
          rw [Hns.out] at h4
          obtain ⟨z, hz, rfl⟩ := List.mem_map.1 h4
          have := Hmem.out z hz
          omega
      clear hmem hreach hk0 hpv hpn hns Hall
      go_wp2
      go_loopw [6, 7] (fun v i wr => ∃ k : Nat, k ≤ zs.length ∧ i = .int .i64 k ∧ (∀ x ∈ zs.take k, isDi s x = false) ∧ wr.ownsRow B 3 1 v (pinL r.pins (ns.take k)).length (natCells (pinL r.pins (ns.take k))) ∧ Below w.heap.size w wr) (fun _ i _ => zs.length - (intOf i).toNat)
      case atStart => exact ⟨0, Nat.zero_le _, rfl, fun x hx => by simp at hx, by rw [← Hpv.out]; exact (H.out.below HB.out).prow, HB.out⟩
      case round =>
        obtain ⟨k, hk, rfl, hnd, hrow, hB⟩ := hrel
        obtain ⟨va, vk, hv, hnum⟩ := numsRow hrow
        subst hv
        have Hnd := hid hnd
        have Hrow := hid hrow
        have HB2 := hid hB
        have Hnum := hid hnum
        clear hnd hrow hB hnum c4
        by_cases hlt : k < zs.length
        · obtain ⟨b, o, rfl, hc⟩ := ints_below Hi.out HB2.out k hlt
          have hxm := Hmem.out _ (List.getElem_mem hlt)
          have Hm := hid (List.getElem_mem hlt)
          have Htk := hid (List.take_succ_eq_append_getElem hlt)
          have hkn : k < ns.length := by omega
          have hnk : ns[k] = zs[k].toNat := by
            have := Hns.out
            subst this
            rw [List.getElem_map]
          have Htn := hid (List.take_succ_eq_append_getElem hkn)
          rw [hnk] at Htn
          generalize zs[k] = xi at *
          obtain ⟨x, rfl⟩ : ∃ x : Nat, xi = (x : Int) := ⟨xi.toNat, by omega⟩
          rw [Int.toNat_natCast] at Htn
          have Hwr := hid (rwritten_any (H.out.below HB2.out) x hdd)
          have g1 : (k : Int) < (zs.length : Int) := by omega
          have g2 : (0 : Int) ≤ (k : Int) := by omega
          have Hst : Hid (pinL r.pins (ns.take (k + 1)) = rPush (pinL r.pins (ns.take k)) x) := by
            show _ = _
            rw [Htn.out]
            unfold pinL
            rw [List.foldl_append]
            rfl
          have hpk := Hplen.out k
          generalize pinL r.pins (ns.take k) = p1 at *
          go_wp2_with (fail)
          refine Hwr.out.mono ?_
          rintro e w1 ⟨hb1, ⟨y, b1, c1, hlo, rfl, hr1⟩ | ⟨hlo, rfl⟩⟩
          · have Hb1 := hid hb1
            have Hpe : Hid (E = 3) := HE.out.trans (by
              unfold pinE
              rw [if_pos Hreach.out, if_pos ⟨(x : Int), Hm.out, by rw [isDi_dd Hag.out Hok.out, hlo]; rfl⟩])
            have HRr : Hid (R' = r) := HR'.out.trans (by rw [Hpe.out, if_neg (by decide)])
            clear hb1 hlo hr1 Hwr
            go_wp2
            go_ret
            rw [Hpe.out, HRr.out]
            exact ⟨rfl, RPo.of_below H.out (HB2.out.trans (Hb1.out.mono HB2.out.size))⟩
          · have Hb1 := hid hb1
            have Hdx : Hid (isDi s (x : Int) = false) := by
              show _ = _
              rw [isDi_dd Hag.out Hok.out, hlo]; rfl
            have hc1 := (hb1.cell (World.block_lt_of_cell? _ _ hc)).trans hc
            clear hb1 hlo Hwr
            go_wp2
            obtain ⟨V0, hV0⟩ : ∃ V0 : World, V0 = w1.drew := ⟨_, rfl⟩
            have b10 : Below w1.heap.size w1 V0 := by rw [hV0]; exact ⟨rfl, rfl, rfl, Nat.le_refl _, fun _ _ => rfl⟩
            have bwV : Below wr.heap.size wr V0 := Hb1.out.trans (b10.mono Hb1.out.size)
            refine wp_act _ fun A hA => ?_
            have sz : A.tmps.size = 105 := by rw [hA]; rfl
            have e1 : A.eval (.tmp 1) = .slice (some ⟨b, o, none⟩) zs.length c := by rw [hA]; rfl
            have e6 : A.eval (.tmp 6) = .slice va p1.length vk := by rw [hA]; rfl
            have e7 : A.eval (.tmp 7) = .int .i64 (k : Int) := by rw [hA]; rfl
            refine wp_split _ (pin_region15 (x := x) (l := p1) sz e1 e6 e7 hV0 rfl hlt ((b10.cell (World.block_lt_of_cell? _ _ hc1)).trans hc1) (fun i hi' => by obtain ⟨b', o', e, hc'⟩ := Hnum.out i hi'; exact ⟨b', o', e, (bwV.cell (World.block_lt_of_cell? _ _ hc')).trans hc'⟩) (by omega)) ?_
            rintro _ V ⟨u1, u2, v3, rfl, hr3, hb3⟩
            rw [hA]
            simp only [Act.put, List.setIfInBounds_toArray, List.set_cons_succ, List.set_cons_zero]
            have HR3 := hid hr3
            have HbV := hid (HB2.out.trans ((bwV.trans (hb3.mono bwV.size)).mono HB2.out.size))
            have hsz := HB2.out.size
            have hsz2 := bwV.size
            have hbB : B ≤ w.heap.size := by have := heap_lt H.out.obj; have := H.out.Bq; omega
            clear hr3 hb3 sz e1 e6 e7 hA A b10 bwV
            go_wp2
            go_roundw
            case rel => exact ⟨k + 1, by omega, by go_num, by rw [Htk.out]; intro z hz; rcases List.mem_append.1 hz with hz | hz; exact Hnd.out z hz; rw [List.mem_singleton.1 hz]; exact Hdx.out, by rw [Hst.out]; exact HR3.out.mono (by omega), HbV.out⟩
            case measure => simp [intOf]; omega
        · have hkl : k = zs.length := by omega
          subst hkl
          have g1 : ¬ (zs.length : Int) < (zs.length : Int) := by omega
          have hnd2 : ¬ ∃ x ∈ zs, isDi s x = true := by
            rintro ⟨x, hx, hd⟩
            rw [Hnd.out x (by rw [List.take_length]; exact hx)] at hd
            cases hd
          have hpe : E = if s.mo < (pinL r.pins ns).length then 7 else 0 := HE.out.trans (by
            unfold pinE
            rw [if_pos Hreach.out, if_neg hnd2, pinL_same Hag.out Hok.out, Hns.out])
          have hta : ns.take zs.length = ns := by rw [← hnl, List.take_length]
          rw [hta] at Hrow Hnum
          have hk0 := H.out.below HB2.out
          have c1 := hk0.c1
          rw [Hrm.out] at c1
          have Hpe0 := hid hpe
          have Hnd2 := hid hnd2
          have hplr := Hplen.out zs.length
          rw [hta] at hplr
          clear hnd2 hpe hk0 hta
          rw [show ns.take zs.length = ns by rw [← hnl, List.take_length]]
          by_cases hfull : s.mo < (pinL r.pins ns).length
          · have g3 : (s.mo : Int) < ((pinL r.pins ns).length : Int) := by omega
            have Hpe : Hid (E = 7) := Hpe0.out.trans (if_pos hfull)
            have HRr : Hid (R' = r) := HR'.out.trans (by rw [Hpe.out, if_neg (by decide)])
            go_wp2
            go_ret
            rw [Hpe.out, HRr.out]
            exact ⟨rfl, RPo.of_below H.out HB2.out⟩
          · have g3 : ¬ (s.mo : Int) < ((pinL r.pins ns).length : Int) := by omega
            have Hpe : Hid (E = 0) := Hpe0.out.trans (if_neg hfull)
            have HRr : Hid (R' = rpinS r zs) := HR'.out.trans (by rw [Hpe.out, if_pos rfl])
            have HN0 : Hid (PRel w B q m s r ns 0 wr) := ⟨s, r, by simp, by simp, Hag.out, Hok.out, Hext.out, by rw [List.drop_zero]; omega, rfl, rfl, rfl, rfl, RPo.of_below H.out HB2.out⟩
            clear hfull
            go_wp2
            clear g3 c1
            go_loopw [10] (fun i wr => ∃ k : Nat, k ≤ zs.length ∧ i = .int .i64 k ∧ PRel w B q m s r ns k wr) (fun i _ => zs.length - (intOf i).toNat)
            case atStart => exact ⟨0, Nat.zero_le _, rfl, HN0.out⟩
            case round =>
              obtain ⟨k, hk, rfl, s1, r1, hs1, hr1, hag1, hok1, hex1, hpl1, hP1, hmo1, hu1, hd1, hpo1⟩ := hrel
              have Hs1 := hid hs1
              have Hr1 := hid hr1
              have Hag1 := hid hag1
              have Hok1 := hid hok1
              have Hex1 := hid hex1
              have Hpl1 := hid hpl1
              have Hpo1 := hid hpo1
              have Hd1 := hid hd1
              clear hs1 hr1 hag1 hok1 hex1 hpl1 hpo1 HN0 hd1
              by_cases hlt : k < zs.length
              · have hBw := RPo.below H.out Hpo1.out
                obtain ⟨b, o, rfl, hc0⟩ := Hi.out k hlt
                have hbB := HA.out b o rfl (by omega)
                have hc : _ = some (Value.int .i64 zs[k]) := (World.cell?_of_block (a := ⟨b, o + k, none⟩) (hBw.block b hbB)).trans hc0
                have hxm := Hmem.out _ (List.getElem_mem hlt)
                have Hm := hid (List.getElem_mem hlt)
                have hkn : k < ns.length := by omega
                have hnk : ns[k] = zs[k].toNat := by
                  have := Hns.out
                  subst this
                  rw [List.getElem_map]
                have Htn := hid (List.take_succ_eq_append_getElem hkn)
                have Hdn := hid (List.drop_eq_getElem_cons hkn)
                rw [hnk] at Htn Hdn
                generalize zs[k] = xi at *
                obtain ⟨x, rfl⟩ : ∃ x : Nat, xi = (x : Int) := ⟨xi.toNat, by omega⟩
                rw [Int.toNat_natCast] at Htn Hdn
                have hxP : x < s1.P := by omega
                have Hxd : Hid ((s1.dl.lookup x).isSome = false) := by
                  show _ = _
                  rw [Hd1.out]
                  have h9 : isDi s (x : Int) = false := by
                    cases hb : isDi s (x : Int) with
                    | false => rfl
                    | true => exact absurd ⟨_, Hm.out, hb⟩ Hnd2.out
                  unfold isDi at h9
                  rw [decide_eq_true hxm.1, Bool.true_and, Int.toNat_natCast] at h9
                  exact h9
                have Hstep : Hid (Agree (pin1 s1 x) (pinR r1 x) ∧ x ∈ (useS s1 x).ord) := Hag1.out.pin Hok1.out Hex1.out x (by
                  have h5 := Hpl1.out
                  rw [Hdn.out] at h5
                  rw [hmo1]
                  exact Nat.le_trans (pinL_first Hag1.out.pn x _) h5)
                obtain ⟨m1, h1, ho1, hR1, hA1⟩ := Hpo1.out
                have g1 : (k : Int) < (zs.length : Int) := by omega
                have g2 : (0 : Int) ≤ (k : Int) := by omega
                have hpl2 : r1.pins.length ≤ 90 := by
                  refine Nat.le_trans (len_lt Hag1.out.pn (P := s1.P) (fun y hy => Hok1.out.olt y ((Hag1.out.pm y).1 hy).1)) ?_
                  omega
                have hol2 : r1.ord.length ≤ 100 := by
                  rw [Hag1.out.ord]
                  have := Hok1.out.ol
                  have := Hok1.out.mo2
                  omega
                have hhi2 : r1.hi ≤ 4611686018427387904 := by
                  rw [Hag1.out.hi]
                  have := Hok1.out.hit
                  omega
                have hmi2 : r1.mi ≤ 4611686018427387904 := by
                  rw [Hag1.out.mi]
                  have := Hok1.out.mit
                  omega
                obtain ⟨pa1, pk1, hpv1, hpn1⟩ := numsRow h1.prow
                have c41 := h1.c4
                rw [hpv1] at c41
                have H1 := hid h1
                have HO1 := hid ho1
                have HR1 := hid hR1
                have HA1 := hid hA1
                have Hpn1 := hid hpn1
                have hqB := H.out.Bq
                clear h1 ho1 hR1 hA1 hpn1 hpv1 hBw
                go_wp2
                obtain ⟨V0, hV0⟩ : ∃ V0 : World, V0 = wr.drew := ⟨_, rfl⟩
                have b10 : Below wr.heap.size wr V0 := by rw [hV0]; exact ⟨rfl, rfl, rfl, Nat.le_refl _, fun _ _ => rfl⟩
                have h0 := H1.out.below b10
                refine wp_act _ fun A hA => ?_
                have sz : A.tmps.size = 105 := by rw [hA]; rfl
                have e0 : A.eval (.tmp 0) = .pointer (some ⟨q, 0, none⟩) := by rw [hA]; rfl
                have e1 : A.eval (.tmp 1) = .slice (some ⟨b, o, none⟩) zs.length c := by rw [hA]; rfl
                have e10 : A.eval (.tmp 10) = .int .i64 (k : Int) := by rw [hA]; rfl
                refine wp_split _ (pin_region21 (x := x) (l := r1.pins) (pa := pa1) (pk := pk1) (NL := r1.pins.length) sz e0 e1 e10 hV0 rfl hlt ((b10.cell (World.block_lt_of_cell? _ _ hc)).trans hc) (fun i hi' => by obtain ⟨b', o', e, hc'⟩ := Hpn1.out i hi'; exact ⟨b', o', e, (b10.cell (World.block_lt_of_cell? _ _ hc')).trans hc'⟩) (by omega) ((b10.cell (World.block_lt_of_cell? _ _ c41)).trans c41) (fun V hV => (h0.below hV).z 4)) ?_
                rintro _ V ⟨u1, u2, a3, k3, M3, V3, rfl, hM3, hr3, hb3, rfl⟩
                rw [hA]
                simp only [Act.put, List.setIfInBounds_toArray, List.set_cons_succ, List.set_cons_zero]
                have hsz := HO1.out.size
                have hsz1 := b10.size
                have hwB : B ≤ w.heap.size := by have := heap_lt H.out.obj; omega
                have h3 := (h0.below hb3).setP (v := .slice a3 M3 k3) (l := rPush r1.pins x) (by rw [← hM3]; exact hr3.mono (by omega)) (fun j e => h0.isNew (hr3.lt j e).1)
                obtain ⟨r3, hr3e⟩ : ∃ r3 : RS, r3 = { r1 with pins := rPush r1.pins x } := ⟨_, rfl⟩
                rw [← hr3e] at h3
                have Hr3 := hid hr3e
                have H3 := hid h3
                have HO3 : Hid (Out (rWr q m1) wr (V3.setCell ⟨q, 4, none⟩ (.slice a3 M3 k3))) := ((Out.of_below (P := rWr q m1) b10).comp (Out.of_below (P := rWr q m1) hb3) (fun j hj => .inl hj)).comp ((setC_out V3 q 4 _).imp (fun _ _ e => .inl e)) (fun j hj => .inl hj)
                have HA3 : Hid (∀ j, rAll q { m1 with pv := .slice a3 M3 k3 } r3 j → rAll q m1 r1 j ∨ wr.heap.size ≤ j) := by
                  rintro j (e | e | e | e | e | ⟨c', hc', e⟩)
                  · exact .inl (.inl e)
                  · exact .inl (.inr (.inl e))
                  · exact .inl (.inr (.inr (.inl e)))
                  · right; have := (hr3.lt j e).1; omega
                  · exact .inl (.inr (.inr (.inr (.inr (.inl e)))))
                  · rw [Hr3.out] at hc'
                    exact .inl (.inr (.inr (.inr (.inr (.inr ⟨c', hc', e⟩)))))
                have hc3 : (V3.setCell ⟨q, 4, none⟩ (.slice a3 M3 k3)).cell? ⟨b, o + k, none⟩ = some (.int .i64 (x : Int)) := by
                  have hcV := (b10.cell (World.block_lt_of_cell? _ _ hc)).trans hc
                  have hcV3 := (hb3.cell (World.block_lt_of_cell? _ _ hcV)).trans hcV
                  exact (World.cell?_of_block (a := ⟨b, o + k, none⟩) (heap_setCell_other _ _ _ _ (show b ≠ q by omega))).trans hcV3
                have hru := ruse_any H3.out x (by rw [Hr3.out]; exact hol2) (by rw [Hr3.out]; show (rPush r1.pins x).length ≤ 100; unfold rPush; rw [List.length_append, List.length_singleton]; have := List.length_filter_le (fun y => y != x) r1.pins; omega) (by rw [Hr3.out]; exact hhi2) (by rw [Hr3.out]; exact hmi2)
                have Hru := hid hru
                clear hM3 hr3 hb3 h3 h0 b10 sz e0 e1 e10 hA A hru hr3e c41 hc
                go_wp2_with (fail)
                refine Hru.out.mono ?_
                rintro e w5 ⟨rfl, hpo5⟩
                have Hpo5 := hid hpo5
                clear hpo5 Hru hc3
                have HP5 : Hid (RPo w B q m r (pinR r1 x) w5) := by
                  refine RPo.then HO1.out HR1.out HA1.out ?_
                  refine RPo.then (m1 := { m1 with pv := .slice a3 M3 k3 }) (r1 := r3) HO3.out (fun j hj => .inl hj) HA3.out ?_
                  have h9 := Hpo5.out
                  have e9 : useR r3 x = pinR r1 x := by rw [Hr3.out]; rfl
                  rw [e9] at h9
                  exact h9
                go_wp2
                go_roundw
                case rel =>
                  obtain ⟨a1, a2, a3', a4, a5⟩ := pin1_same s1 x
                  refine ⟨k + 1, by omega, by go_num, pin1 s1 x, pinR r1 x, ?_, ?_, Hstep.out.1, Hok1.out.pin1 Hex1.out hxP, Ext.pin1 Hok1.out Hex1.out hxP Hxd.out, ?_, by omega, by omega, by omega, by rw [a5]; exact Hd1.out, HP5.out⟩
                  · rw [Htn.out, List.foldl_append, ← Hs1.out]; rfl
                  · rw [Htn.out, List.foldl_append, ← Hr1.out]; rfl
                  · have h5 := Hpl1.out
                    rw [Hdn.out] at h5
                    exact h5
                case measure => simp [intOf]; omega
              · have hkl : k = zs.length := by omega
                subst hkl
                have g1 : ¬ (zs.length : Int) < (zs.length : Int) := by omega
                go_wp2
                go_ret
                rw [Hpe.out, HRr.out]
                refine ⟨rfl, ?_⟩
                have h6 := Hpo1.out
                rw [Hr1.out, ← hnl, List.take_length, Hns.out] at h6
                exact h6
end Go.Proofs.YthdcjepkehifoaaGreat
