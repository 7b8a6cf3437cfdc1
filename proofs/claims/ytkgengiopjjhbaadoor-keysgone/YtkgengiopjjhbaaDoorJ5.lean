/- (*Tree).Seal, by a contract. (Printed by gen/jseal.py.) -/
import Derived.Test.YtkgengiopjjhbaaDoorJ4
import Derived.Test.YtkgengiopjjhbaaDoorELive
namespace Go.Proofs.YtkgengiopjjhbaaDoor
open Go.RowKit Go.Maps
set_option linter.unusedVariables false
set_option maxRecDepth 20000
theorem hf_sealJ : ∀ (args : Array Value) (w : World), (callFunc 16 args).run Tryd.prog w = .ok (.enter 16 args) w := fun args w => by simp [go_sem]
theorem wp_calls3J {P : Program} {Q : Exit → Act → World → Prop} {o : Oper} {a : Act} {w : World} {K : Act → World → Prop} (f : FuncId) (hf : ∀ (args : Array Value) (w : World), (callFunc f args).run P w = .ok (.enter f args) w) (x y z : Operand) (ts : Array TypeId) (ho : o.op = .call { callee := .value (.func f), args := #[x, y, z], argTypes := ts }) (v u t : Value) (hx : a.eval x = v) (hy : a.eval y = u) (hz : a.eval z = t) (h : Calls P f #[v, u, t] w fun e w'' => ∃ v, e = .returned v ∧ K (a.put o.dst v) w'') : o.wp P a w K Q :=
  wp_calls f #[v, u, t] (by subst hx; subst hy; subst hz; simp [execOp, ho, resolve, invoke, go_sem, hf]) h
theorem rangeJ {w : World} {R : Nat} {key : List UInt8} (h : w.heap[R]? = some (.cells (bvs key) 23 (0, 0))) : w.rangeAt R 0 (cellsOf key) := fun j v hj => by
  rw [cell_of_row _ _ _ _ _ _ h, Nat.zero_add]
  show (cellsOf key).toArray[j]? = some v
  rw [List.getElem?_toArray]
  exact hj
noncomputable def codeSeal (n : Nat) : Code := ((Tryd.f6.body.bind (regionAt n)).getD .skip)
set_option maxHeartbeats 4000000 in
theorem seal_region7 {V0 W5 : World} {B g R : Nat} {root key : List UInt8} {mv mg nv ng : Nat} {VM GM : DataW Unit} {k n cap : Nat} {a : Option Addr} {er : Int} {P : Value → World → Prop} {A : Act} (sz : A.tmps.size = 66) (e0 : A.eval (.tmp 0) = .pointer (some ⟨g, 0, none⟩)) (e3 : A.eval (.tmp 3) = .slice a n cap) (e12 : A.eval (.tmp 12) = .pointer (some ⟨R, 0, none⟩))
    (lk : key.length = 32) (hcv : IntKind.u64.wrap (k : Int) = (k : Int)) (hcall : Calls Tryd.prog 16 #[.agg (bvs key), .int .u64 (k : Int), .slice a n cap] V0 fun e w' => ∃ vv, e = .returned (.tuple #[vv, .int .i64 er]) ∧ P vv w' ∧ Below V0.heap.size V0 w') (hV0 : V0 = W5.drew) (hs0 : (fun V => TreeAt V B g root mv mg nv ng VM GM k ∧ V.heap[R]? = some (.cells (bvs key) 23 (0, 0))) V0) :
    (codeSeal 7).wp Tryd.prog (fun x b V => x = .normal ∧ ∃ vv, b = (((((((((((((A.put (some 36) (.agg (bvs key))).put (some 37) (.pointer (some ⟨g, 0, none⟩))).put (some 38) (.pointer (some ⟨g, 0, none⟩))).put (some 39) (.pointer (some ⟨g, 34, none⟩))).put (some 40) (.int .i64 (k : Int))).put (some 41) (.int .u64 (k : Int))).put (some 42) (.slice a n cap)).put (some 43) (.tuple #[vv, .int .i64 er])).put (some 35) (.tuple #[vv, .int .i64 er])).put (some 44) (vv)).put (some 45) (.int .i64 er)).put (some 13) (vv)).put (some 11) (.int .i64 er)) ∧ P vv V ∧ (fun V => TreeAt V B g root mv mg nv ng VM GM k ∧ V.heap[R]? = some (.cells (bvs key) 23 (0, 0))) V ∧ Below V0.heap.size V0 V) A W5 := by
  have hm : Tryd.prog.follows .mixedOrders = true := by kernel_rfl
  unfold codeSeal
  conv => arg 2; whnf
  refine wp_region_G (fun _ => false) ((fun V => TreeAt V B g root mv mg nv ng VM GM k ∧ V.heap[R]? = some (.cells (bvs key) 23 (0, 0)))) hm ?_
  rw [show ({ W5 with drawn := W5.drawn + 1 } : World) = V0 from hV0.symm]
  refine wpAnyG_take (i := 0) (v := .agg (bvs key)) rfl (by kernel_rfl) (by kernel_rfl) (by kernel_rfl) (fun _ _ _ h => nomatch h.1) (yieldsIf_load_mid (by simp [Region.wanted]) 23 (.tmp 12) rfl R 0 e12 (cellsOf key) _ (fun V hV => rangeJ hV.2) Tryd.underlying23 rfl (by rw [cellsOf_length, lk]; exact size_hash)) hs0 ?_
  show wpAnyG _ _ _ _ _ _ _ _ (A.put (some 36) (.agg (bvs key))) _
  refine wpAnyG_take (i := 1) (v := .pointer (some ⟨g, 0, none⟩)) rfl (by kernel_rfl) (by kernel_rfl) (by kernel_rfl) (fun _ _ _ h => nomatch h.1) (yg_mv (by simp [Region.wanted]) (.tmp 0) rfl ((ev_ne _ _ (by decide)).trans e0)) hs0 ?_
  show wpAnyG _ _ _ _ _ _ _ _ ((A.put (some 36) (.agg (bvs key))).put (some 37) (.pointer (some ⟨g, 0, none⟩))) _
  refine wpAnyG_take (i := 2) (v := .pointer (some ⟨g, 0, none⟩)) rfl (by kernel_rfl) (by kernel_rfl) (by kernel_rfl) (fun _ _ _ h => nomatch h.1) (yg_nil (by simp [Region.wanted]) (.tmp 37) rfl (ev_eq _ _ (by simp [put_sz, sz]))) hs0 ?_
  show wpAnyG _ _ _ _ _ _ _ _ (((A.put (some 36) (.agg (bvs key))).put (some 37) (.pointer (some ⟨g, 0, none⟩))).put (some 38) (.pointer (some ⟨g, 0, none⟩))) _
  refine wpAnyG_take (i := 3) (v := .pointer (some ⟨g, 34, none⟩)) rfl (by kernel_rfl) (by kernel_rfl) (by kernel_rfl) (fun _ _ _ h => nomatch h.1) (yg_fld (by simp [Region.wanted]) (.tmp 38) rfl (ev_eq _ _ (by simp [put_sz, sz])) (fun w => by simp [go_sem])) hs0 ?_
  show wpAnyG _ _ _ _ _ _ _ _ ((((A.put (some 36) (.agg (bvs key))).put (some 37) (.pointer (some ⟨g, 0, none⟩))).put (some 38) (.pointer (some ⟨g, 0, none⟩))).put (some 39) (.pointer (some ⟨g, 34, none⟩))) _
  refine wpAnyG_take (i := 4) (v := .int .i64 (k : Int)) rfl (by kernel_rfl) (by kernel_rfl) (by kernel_rfl) (fun _ _ _ h => nomatch h.1) (yg_ld (by simp [Region.wanted]) (.tmp 39) rfl (ev_eq _ _ (by simp [put_sz, sz])) (fun w hw => by have h1 := hw.1.c34; simp [go_sem, h1])) hs0 ?_
  show wpAnyG _ _ _ _ _ _ _ _ (((((A.put (some 36) (.agg (bvs key))).put (some 37) (.pointer (some ⟨g, 0, none⟩))).put (some 38) (.pointer (some ⟨g, 0, none⟩))).put (some 39) (.pointer (some ⟨g, 34, none⟩))).put (some 40) (.int .i64 (k : Int))) _
  refine wpAnyG_take (i := 5) (v := .int .u64 (k : Int)) rfl (by kernel_rfl) (by kernel_rfl) (by kernel_rfl) (fun _ _ _ h => nomatch h.1) (yg_cv (by simp [Region.wanted]) (.tmp 40) rfl (ev_eq _ _ (by simp [put_sz, sz])) (fun w => by simp [go_sem, hcv])) hs0 ?_
  show wpAnyG _ _ _ _ _ _ _ _ ((((((A.put (some 36) (.agg (bvs key))).put (some 37) (.pointer (some ⟨g, 0, none⟩))).put (some 38) (.pointer (some ⟨g, 0, none⟩))).put (some 39) (.pointer (some ⟨g, 34, none⟩))).put (some 40) (.int .i64 (k : Int))).put (some 41) (.int .u64 (k : Int))) _
  refine wpAnyG_take (i := 6) (v := .slice a n cap) rfl (by kernel_rfl) (by kernel_rfl) (by kernel_rfl) (fun _ _ _ h => nomatch h.1) (yg_mv (by simp [Region.wanted]) (.tmp 3) rfl ((ev_ne _ _ (by decide)).trans ((ev_ne _ _ (by decide)).trans ((ev_ne _ _ (by decide)).trans ((ev_ne _ _ (by decide)).trans ((ev_ne _ _ (by decide)).trans ((ev_ne _ _ (by decide)).trans e3))))))) hs0 ?_
  show wpAnyG _ _ _ _ _ _ _ _ (((((((A.put (some 36) (.agg (bvs key))).put (some 37) (.pointer (some ⟨g, 0, none⟩))).put (some 38) (.pointer (some ⟨g, 0, none⟩))).put (some 39) (.pointer (some ⟨g, 34, none⟩))).put (some 40) (.int .i64 (k : Int))).put (some 41) (.int .u64 (k : Int))).put (some 42) (.slice a n cap)) _
  refine wpAnyG_all (rs := [7]) (by kernel_rfl) (by simp) fun i1 hm1 => ?_
  obtain rfl : i1 = 7 := by simpa using hm1
  refine wpOp_own rfl rfl fun K1 hK1 => ?_
  refine wp_calls3J 16 hf_sealJ (.tmp 36) (.tmp 41) (.tmp 42) _ rfl (.agg (bvs key)) (.int .u64 (k : Int)) (.slice a n cap) ((ev_ne _ _ (by decide)).trans ((ev_ne _ _ (by decide)).trans ((ev_ne _ _ (by decide)).trans ((ev_ne _ _ (by decide)).trans ((ev_ne _ _ (by decide)).trans ((ev_ne _ _ (by decide)).trans (ev_eq _ _ (by simp [sz])))))))) ((ev_ne _ _ (by decide)).trans (ev_eq _ _ (by simp [put_sz, sz]))) (ev_eq _ _ (by simp [put_sz, sz])) ?_
  refine (hcall).mono ?_
  rintro _ V1 ⟨vv, rfl, hP, hb1⟩
  have hs1 : TreeAt V1 B g root mv mg nv ng VM GM k ∧ V1.heap[R]? = some (.cells (bvs key) 23 (0, 0)) := ⟨hs0.1.below hb1, (hb1.block R (heap_lt hs0.2)).trans hs0.2⟩
  refine ⟨_, rfl, hK1 _ _ ⟨.inr hs1, ?_⟩⟩
  clear hK1 K1 hm1
  show wpAnyG _ _ _ _ _ _ _ _ ((((((((A.put (some 36) (.agg (bvs key))).put (some 37) (.pointer (some ⟨g, 0, none⟩))).put (some 38) (.pointer (some ⟨g, 0, none⟩))).put (some 39) (.pointer (some ⟨g, 34, none⟩))).put (some 40) (.int .i64 (k : Int))).put (some 41) (.int .u64 (k : Int))).put (some 42) (.slice a n cap)).put (some 43) (.tuple #[vv, .int .i64 er])) _
  refine wpAnyG_take (i := 8) (v := .tuple #[vv, .int .i64 er]) rfl (by kernel_rfl) (by kernel_rfl) (by kernel_rfl) (fun _ _ _ h => nomatch h.1) (yg_mv (by simp [Region.wanted]) (.tmp 43) rfl (ev_eq _ _ (by simp [put_sz, sz]))) hs1 ?_
  show wpAnyG _ _ _ _ _ _ _ _ (((((((((A.put (some 36) (.agg (bvs key))).put (some 37) (.pointer (some ⟨g, 0, none⟩))).put (some 38) (.pointer (some ⟨g, 0, none⟩))).put (some 39) (.pointer (some ⟨g, 34, none⟩))).put (some 40) (.int .i64 (k : Int))).put (some 41) (.int .u64 (k : Int))).put (some 42) (.slice a n cap)).put (some 43) (.tuple #[vv, .int .i64 er])).put (some 35) (.tuple #[vv, .int .i64 er])) _
  obtain ⟨Az1, hAz1⟩ : ∃ Az1, Az1 = (((((((((A.put (some 36) (.agg (bvs key))).put (some 37) (.pointer (some ⟨g, 0, none⟩))).put (some 38) (.pointer (some ⟨g, 0, none⟩))).put (some 39) (.pointer (some ⟨g, 34, none⟩))).put (some 40) (.int .i64 (k : Int))).put (some 41) (.int .u64 (k : Int))).put (some 42) (.slice a n cap)).put (some 43) (.tuple #[vv, .int .i64 er])).put (some 35) (.tuple #[vv, .int .i64 er])) := ⟨_, rfl⟩
  have szAz1 : Az1.tmps.size = 66 := by rw [hAz1]; simp [put_sz, sz]
  have eAz135 : Az1.eval (.tmp 35) = .tuple #[vv, .int .i64 er] := by rw [hAz1]; exact (ev_eq _ _ (by simp [put_sz, sz]))
  rw [← hAz1]
  refine wpAnyG_take (i := 9) (v := vv) rfl (by kernel_rfl) (by kernel_rfl) (by kernel_rfl) (fun _ _ _ h => nomatch h.1) (yg_ext (by simp [Region.wanted]) (.tmp 35) rfl eAz135 (fun w => by simp [go_sem])) hs1 ?_
  show wpAnyG _ _ _ _ _ _ _ _ (Az1.put (some 44) (vv)) _
  refine wpAnyG_take (i := 10) (v := .int .i64 er) rfl (by kernel_rfl) (by kernel_rfl) (by kernel_rfl) (fun _ _ _ h => nomatch h.1) (yg_ext (by simp [Region.wanted]) (.tmp 35) rfl ((ev_ne _ _ (by decide)).trans eAz135) (fun w => by simp [go_sem])) hs1 ?_
  show wpAnyG _ _ _ _ _ _ _ _ ((Az1.put (some 44) (vv)).put (some 45) (.int .i64 er)) _
  refine wpAnyG_take (i := 11) (v := vv) rfl (by kernel_rfl) (by kernel_rfl) (by kernel_rfl) (fun _ _ _ h => nomatch h.1) (yg_as (by simp [Region.wanted]) (.tmp 44) rfl ((ev_ne _ _ (by decide)).trans (ev_eq _ _ (by simp [szAz1])))) hs1 ?_
  show wpAnyG _ _ _ _ _ _ _ _ (((Az1.put (some 44) (vv)).put (some 45) (.int .i64 er)).put (some 13) (vv)) _
  refine wpAnyG_take (i := 12) (v := .int .i64 er) rfl (by kernel_rfl) (by kernel_rfl) (by kernel_rfl) (fun _ _ _ h => nomatch h.1) (yg_as (by simp [Region.wanted]) (.tmp 45) rfl ((ev_ne _ _ (by decide)).trans (ev_eq _ _ (by simp [put_sz, szAz1])))) hs1 ?_
  show wpAnyG _ _ _ _ _ _ _ _ ((((Az1.put (some 44) (vv)).put (some 45) (.int .i64 er)).put (some 13) (vv)).put (some 11) (.int .i64 er)) _
  refine wpAnyG_done (by kernel_rfl) ⟨rfl, vv, ?_, hP, hs1, hb1⟩ _
  show ((((Az1.put (some 44) (vv)).put (some 45) (.int .i64 er)).put (some 13) (vv)).put (some 11) (.int .i64 er)) = _
  rw [hAz1]
end Go.Proofs.YtkgengiopjjhbaaDoor
