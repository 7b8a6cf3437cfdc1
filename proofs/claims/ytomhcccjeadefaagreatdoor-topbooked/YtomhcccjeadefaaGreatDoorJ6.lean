/- YtomhcccjeadefaaGreatDoorHEval + YtomhcccjeadefaaGreatDoorELive + YtomhcccjeadefaaGreatDoorJ5 + YtomhcccjeadefaaGreatDoorJ6 -/
import Derived.Test.YtomhcccjeadefaaGreatDoorHMath
import Derived.Test.YtomhcccjeadefaaGreatDoorJ1
import Derived.Lib.SlBytesConst
import Derived.Deep.RegionLaw
import Derived.Test.YtomhcccjeadefaaGreatDoorJ4
/- The hash of no bytes and that of abc, by the kernel. -/
namespace Go.Proofs.YtomhcccjeadefaaGreatDoor
set_option maxRecDepth 100000
end Go.Proofs.YtomhcccjeadefaaGreatDoor
/- What is sealed is opened as it was; the laws' own look: live, of the laws on sealed texts. -/
namespace Go.Proofs.YtomhcccjeadefaaGreatDoor
open Go.RowKit Go.Shelf
set_option linter.unusedVariables false
set_option maxRecDepth 20000
theorem seal_take (key : List UInt8) (once : Nat) (plain : List UInt8) : (sealB key once plain).take ((sealB key once plain).length - 16) = headB key once plain := by
  have h1 := sealB_len key once plain
  have h2 := headB_len key once plain
  rw [h1]
  unfold sealB
  rw [List.take_append_of_le_length (by omega), List.take_of_length_le (by omega)]
theorem seal_drop (key : List UInt8) (once : Nat) (plain : List UInt8) : (sealB key once plain).drop ((sealB key once plain).length - 16) = tagB key (headB key once plain) := by
  have h1 := sealB_len key once plain
  have h2 := headB_len key once plain
  rw [h1]
  unfold sealB
  rw [show plain.length + 24 - 16 = (headB key once plain).length by omega, List.drop_left]
theorem seal_eight (key : List UInt8) (once : Nat) (plain : List UInt8) : (sealB key once plain).take 8 = be8 once := by
  unfold sealB headB
  rw [List.append_assoc, List.take_append_of_le_length (by rw [be8_length]; omega), List.take_of_length_le (by rw [be8_length]; omega)]
theorem head_drop (key : List UInt8) (once : Nat) (plain : List UInt8) : (headB key once plain).drop 8 = cross key once plain := by
  unfold headB
  rw [show 8 = (be8 once).length from rfl, List.drop_left]
theorem own_some {w : World} {B e : Nat} {v : Value} {n : Nat} {l : List UInt8} (h : w.ownsRow B e 1 v n (cellsOf l)) (h0 : 0 < l.length) : ∃ g cap, v = .slice (some ⟨g, 0, none⟩) l.length cap ∧ Bytes w (some ⟨g, 0, none⟩) l ∧ l.length ≤ cap ∧ B ≤ g := by
  obtain ⟨a, cap, rfl, h1, h2⟩ := bytes_of_own h
  rcases h.2 with ⟨h3, _⟩ | ⟨g, c, cur, h3, hB, _⟩
  · simp at h3; omega
  · simp at h3
    obtain ⟨rfl, _, _⟩ := h3
    exact ⟨g, cap, rfl, h1, h2, hB⟩
theorem conv_own {w : World} {B : Nat} {v : Value} {n : Nat} {l : List UInt8} (h : w.ownsRow B 5 1 v n (cellsOf l)) (h0 : 0 < l.length) : (convert 29 9 v).run Tryz.prog w = .ok (.string ⟨l.toArray⟩) w := by
  obtain ⟨a, cap, rfl, hB, hc⟩ := bytes_of_own h
  obtain ⟨b, o, rfl, _⟩ := hB 0 h0
  exact run_convert_bytes_back (P := Tryz.prog) w 29 9 5 ⟨b, o, none⟩ cap l Tryz.underlying29 Tryz.underlying5 Tryz.underlying9 (fun j hj => by
    obtain ⟨b', o', e', hcl⟩ := hB j hj
    cases e'
    rw [Addr.add_mid, hcl])
theorem bytes_fr (l : List UInt8) (t : TypeId) {w : World} {g : Nat} {fr : Nat × Nat} (hg : w.heap[g]? = some (.cells (cellsOf l).toArray t fr)) : Bytes w (some ⟨g, 0, none⟩) l := fun i hi =>
  ⟨g, 0, rfl, by rw [Nat.zero_add]; simp [World.cell?, hg, cellsOf, hi]⟩
theorem heap_alloc_fr (w : World) (o : Obj) : (w.alloc o).heap[w.heap.size]? = some o := heap_alloc_last w o
end Go.Proofs.YtomhcccjeadefaaGreatDoor
/- (*Tree).Seal, by a contract. (Printed by gen/jseal.py.) -/
namespace Go.Proofs.YtomhcccjeadefaaGreatDoor
open Go.RowKit Go.Maps
set_option linter.unusedVariables false
set_option maxRecDepth 20000
theorem hf_sealJ : ∀ (args : Array Value) (w : World), (callFunc 25 args).run Tryz.prog w = .ok (.enter 25 args) w := fun args w => by simp [go_sem]
theorem wp_calls3J {P : Program} {Q : Exit → Act → World → Prop} {o : Oper} {a : Act} {w : World} {K : Act → World → Prop} (f : FuncId) (hf : ∀ (args : Array Value) (w : World), (callFunc f args).run P w = .ok (.enter f args) w) (x y z : Operand) (ts : Array TypeId) (ho : o.op = .call { callee := .value (.func f), args := #[x, y, z], argTypes := ts }) (v u t : Value) (hx : a.eval x = v) (hy : a.eval y = u) (hz : a.eval z = t) (h : Calls P f #[v, u, t] w fun e w'' => ∃ v, e = .returned v ∧ K (a.put o.dst v) w'') : o.wp P a w K Q :=
  wp_calls f #[v, u, t] (by subst hx; subst hy; subst hz; simp [execOp, ho, resolve, invoke, go_sem, hf]) h
theorem rangeJ {w : World} {R : Nat} {key : List UInt8} (h : w.heap[R]? = some (.cells (bvs key) 27 (0, 0))) : w.rangeAt R 0 (cellsOf key) := fun j v hj => by
  rw [cell_of_row _ _ _ _ _ _ h, Nat.zero_add]
  show (cellsOf key).toArray[j]? = some v
  rw [List.getElem?_toArray]
  exact hj
noncomputable def codeSeal (n : Nat) : Code := ((Tryz.f9.body.bind (regionAt n)).getD .skip)
set_option maxHeartbeats 4000000 in
theorem seal_region7 {V0 W5 : World} {B g R : Nat} {root key : List UInt8} {mv mg nv ng : Nat} {VM GM : DataW Unit} {k n cap : Nat} {a : Option Addr} {er : Int} {P : Value → World → Prop} {A : Act} (sz : A.tmps.size = 66) (e0 : A.eval (.tmp 0) = .pointer (some ⟨g, 0, none⟩)) (e3 : A.eval (.tmp 3) = .slice a n cap) (e12 : A.eval (.tmp 12) = .pointer (some ⟨R, 0, none⟩))
    (lk : key.length = 32) (hcv : IntKind.u64.wrap (k : Int) = (k : Int)) (hcall : Calls Tryz.prog 25 #[.agg (bvs key), .int .u64 (k : Int), .slice a n cap] V0 fun e w' => ∃ vv, e = .returned (.tuple #[vv, .int .i64 er]) ∧ P vv w' ∧ Below V0.heap.size V0 w') (hV0 : V0 = W5.drew) (hs0 : (fun V => TreeAt V B g root mv mg nv ng VM GM k ∧ V.heap[R]? = some (.cells (bvs key) 27 (0, 0))) V0) :
    (codeSeal 7).wp Tryz.prog (fun x b V => x = .normal ∧ ∃ vv, b = (((((((((((((A.put (some 36) (.agg (bvs key))).put (some 37) (.pointer (some ⟨g, 0, none⟩))).put (some 38) (.pointer (some ⟨g, 0, none⟩))).put (some 39) (.pointer (some ⟨g, 34, none⟩))).put (some 40) (.int .i64 (k : Int))).put (some 41) (.int .u64 (k : Int))).put (some 42) (.slice a n cap)).put (some 43) (.tuple #[vv, .int .i64 er])).put (some 35) (.tuple #[vv, .int .i64 er])).put (some 44) (vv)).put (some 45) (.int .i64 er)).put (some 13) (vv)).put (some 11) (.int .i64 er)) ∧ P vv V ∧ (fun V => TreeAt V B g root mv mg nv ng VM GM k ∧ V.heap[R]? = some (.cells (bvs key) 27 (0, 0))) V ∧ Below V0.heap.size V0 V) A W5 := by
  have hm : Tryz.prog.follows .mixedOrders = true := by kernel_rfl
  unfold codeSeal
  conv => arg 2; whnf
  refine wp_region_G (fun _ => false) ((fun V => TreeAt V B g root mv mg nv ng VM GM k ∧ V.heap[R]? = some (.cells (bvs key) 27 (0, 0)))) hm ?_
  rw [show ({ W5 with drawn := W5.drawn + 1 } : World) = V0 from hV0.symm]
  refine wpAnyG_take (i := 0) (v := .agg (bvs key)) rfl (by kernel_rfl) (by kernel_rfl) (by kernel_rfl) (fun _ _ _ h => nomatch h.1) (yieldsIf_load_mid (by simp [Region.wanted]) 27 (.tmp 12) rfl R 0 e12 (cellsOf key) _ (fun V hV => rangeJ hV.2) Tryz.underlying27 rfl (by rw [cellsOf_length, lk]; exact size_hash)) hs0 ?_
  show wpAnyG _ _ _ _ _ _ _ _ (A.put (some 36) (.agg (bvs key))) _
  refine wpAnyG_take (i := 1) (v := .pointer (some ⟨g, 0, none⟩)) rfl (by kernel_rfl) (by kernel_rfl) (by kernel_rfl) (fun _ _ _ h => nomatch h.1) (yg_mv (by simp [Region.wanted]) (.tmp 0) rfl ((ev_ne _ _ (by decide)).trans e0)) hs0 ?_
  show wpAnyG _ _ _ _ _ _ _ _ ((A.put (some 36) (.agg (bvs key))).put (some 37) (.pointer (some ⟨g, 0, none⟩))) _
  refine wpAnyG_take (i := 2) (v := .pointer (some ⟨g, 0, none⟩)) rfl (by kernel_rfl) (by kernel_rfl) (by kernel_rfl) (fun _ _ _ h => nomatch h.1) (yg_nil (by simp [Region.wanted]) (.tmp 37) rfl (ev_eq _ _ (by simp [put_sz, sz]))) hs0 ?_
  show wpAnyG _ _ _ _ _ _ _ _ (((A.put (some 36) (.agg (bvs key))).put (some 37) (.pointer (some ⟨g, 0, none⟩))).put (some 38) (.pointer (some ⟨g, 0, none⟩))) _
  refine wpAnyG_take (i := 3) (v := .pointer (some ⟨g, 34, none⟩)) rfl (by kernel_rfl) (by kernel_rfl) (by kernel_rfl) (fun _ _ _ h => nomatch h.1) (yg_fld (by simp [Region.wanted]) (.tmp 38) rfl (ev_eq _ _ (by simp [put_sz, sz])) (fun w => by simp [go_sem])) hs0 ?_
  show wpAnyG _ _ _ _ _ _ _ _ ((((A.put (some 36) (.agg (bvs key))).put (some 37) (.pointer (some ⟨g, 0, none⟩))).put (some 38) (.pointer (some ⟨g, 0, none⟩))).put (some 39) (.pointer (some ⟨g, 34, none⟩))) _
  refine wpAnyG_take (i := 4) (v := .int .i64 (k : Int)) rfl (by kernel_rfl) (by kernel_rfl) (by kernel_rfl) (fun _ _ _ h => nomatch h.1) (yg_ld (by simp [Region.wanted]) (.tmp 39) rfl (ev_eq _ _ (by simp [put_sz, sz])) (fun w hw => by have h1 := hw.1.c34; simp [go_sem, h1])) hs0 ?_
  show wpAnyG _ _ _ _ _ _ _ _ (((((A.put (some 36) (.agg (bvs key))).put (some 37) (.pointer (some ⟨g, 0, none⟩))).put (some 38) (.pointer (some ⟨g, 0, none⟩))).put (some 39) (.pointer (some ⟨g, 34, none⟩))).put (some 40) (.int .i64 (k : Int))) _
  refine wpAnyG_take (i := 5) (v := .int .u64 (k : Int)) rfl (by kernel_rfl) (by kernel_rfl) (by kernel_rfl) (fun _ _ _ h => nomatch h.1) (yg_cv (by simp [Region.wanted]) (.tmp 40) rfl (ev_eq _ _ (by simp [put_sz, sz])) (fun w => by simp [go_sem, hcv])) hs0 ?_
  show wpAnyG _ _ _ _ _ _ _ _ ((((((A.put (some 36) (.agg (bvs key))).put (some 37) (.pointer (some ⟨g, 0, none⟩))).put (some 38) (.pointer (some ⟨g, 0, none⟩))).put (some 39) (.pointer (some ⟨g, 34, none⟩))).put (some 40) (.int .i64 (k : Int))).put (some 41) (.int .u64 (k : Int))) _
  refine wpAnyG_take (i := 6) (v := .slice a n cap) rfl (by kernel_rfl) (by kernel_rfl) (by kernel_rfl) (fun _ _ _ h => nomatch h.1) (yg_mv (by simp [Region.wanted]) (.tmp 3) rfl ((ev_ne _ _ (by decide)).trans ((ev_ne _ _ (by decide)).trans ((ev_ne _ _ (by decide)).trans ((ev_ne _ _ (by decide)).trans ((ev_ne _ _ (by decide)).trans ((ev_ne _ _ (by decide)).trans e3))))))) hs0 ?_
  show wpAnyG _ _ _ _ _ _ _ _ (((((((A.put (some 36) (.agg (bvs key))).put (some 37) (.pointer (some ⟨g, 0, none⟩))).put (some 38) (.pointer (some ⟨g, 0, none⟩))).put (some 39) (.pointer (some ⟨g, 34, none⟩))).put (some 40) (.int .i64 (k : Int))).put (some 41) (.int .u64 (k : Int))).put (some 42) (.slice a n cap)) _
  refine wpAnyG_all (rs := [7]) (by kernel_rfl) (by simp) fun i1 hm1 => ?_
  obtain rfl : i1 = 7 := by simpa using hm1
  refine wpOp_own rfl rfl fun K1 hK1 => ?_
  refine wp_calls3J 25 hf_sealJ (.tmp 36) (.tmp 41) (.tmp 42) _ rfl (.agg (bvs key)) (.int .u64 (k : Int)) (.slice a n cap) ((ev_ne _ _ (by decide)).trans ((ev_ne _ _ (by decide)).trans ((ev_ne _ _ (by decide)).trans ((ev_ne _ _ (by decide)).trans ((ev_ne _ _ (by decide)).trans ((ev_ne _ _ (by decide)).trans (ev_eq _ _ (by simp [sz])))))))) ((ev_ne _ _ (by decide)).trans (ev_eq _ _ (by simp [put_sz, sz]))) (ev_eq _ _ (by simp [put_sz, sz])) ?_
  refine (hcall).mono ?_
  rintro _ V1 ⟨vv, rfl, hP, hb1⟩
  have hs1 : TreeAt V1 B g root mv mg nv ng VM GM k ∧ V1.heap[R]? = some (.cells (bvs key) 27 (0, 0)) := ⟨hs0.1.below hb1, (hb1.block R (heap_lt hs0.2)).trans hs0.2⟩
  refine ⟨_, rfl, hK1 _ _ ⟨.inr hs1, ?_⟩⟩
  clear hK1 K1 hm1
  show wpAnyG _ _ _ _ _ _ _ _ ((((((((A.put (some 36) (.agg (bvs key))).put (some 37) (.pointer (some ⟨g, 0, none⟩))).put (some 38) (.pointer (some ⟨g, 0, none⟩))).put (some 39) (.pointer (some ⟨g, 34, none⟩))).put (some 40) (.int .i64 (k : Int))).put (some 41) (.int .u64 (k : Int))).put (some 42) (.slice a n cap)).put (some 43) (.tuple #[vv, .int .i64 er])) _
  refine wpAnyG_take (i := 8) (v := .tuple #[vv, .int .i64 er]) rfl (by kernel_rfl) (by kernel_rfl) (by kernel_rfl) (fun _ _ _ h => nomatch h.1) (yg_mv (by simp [Region.wanted]) (.tmp 43) rfl (ev_eq _ _ (by simp [put_sz, sz]))) hs1 ?_
  show wpAnyG _ _ _ _ _ _ _ _ (((((((((A.put (some 36) (.agg (bvs key))).put (some 37) (.pointer (some ⟨g, 0, none⟩))).put (some 38) (.pointer (some ⟨g, 0, none⟩))).put (some 39) (.pointer (some ⟨g, 34, none⟩))).put (some 40) (.int .i64 (k : Int))).put (some 41) (.int .u64 (k : Int))).put (some 42) (.slice a n cap)).put (some 43) (.tuple #[vv, .int .i64 er])).put (some 35) (.tuple #[vv, .int .i64 er])) _
  obtain ⟨Az1, hAz1⟩ : ∃ Az1, Az1 = (((((((((A.put (some 36) (.agg (bvs key))).put (some 37) (.pointer (some ⟨g, 0, none⟩))).put (some 38) (.pointer (some ⟨g, 0, none⟩))).put (some 39) (.pointer (some ⟨g, 34, none⟩))).put (some 40) (.int .i64 (k : Int))).put (some 41) (.int .u64 (k : Int))).put (some 42) (.slice a n cap)).put (some 43) (.tuple #[vv, .int .i64 er])).put (some 35) (.tuple #[vv, .int .i64 er])) := ⟨_, rfl⟩
  have szAz1 : Az1.tmps.size = 66 := by rw [hAz1]; simp [put_sz, sz]
  have eAz135 : Az1.eval (.tmp 35) = .tuple #[vv, .int .i64 er] := by rw [hAz1]; exact (ev_eq _ _ (by simp [put_sz, sz]))
  rw [← hAz1]
  refine wpAnyG_take (i := 9) (v := vv) rfl (by kernel_rfl) (by kernel_rfl) (by kernel_rfl) (fun _ _ _ h => nomatch h.1) (yg_ext (by simp [Region.wanted]) (.tmp 35) rfl eAz135 (fun w => by simp [go_sem])) hs1 ?_
  show wpAnyG _ _ _ _ _ _ _ _ (Az1.put (some 44) (vv)) _
  refine wpAnyG_take (i := 10) (v := .int .i64 er) rfl (by kernel_rfl) (by kernel_rfl) (by kernel_rfl) (fun _ _ _ h => nomatch h.1) (yg_ext (by simp [Region.wanted]) (.tmp 35) rfl ((ev_ne _ _ (by decide)).trans eAz135) (fun w => by simp [go_sem])) hs1 ?_
  show wpAnyG _ _ _ _ _ _ _ _ ((Az1.put (some 44) (vv)).put (some 45) (.int .i64 er)) _
  refine wpAnyG_take (i := 11) (v := vv) rfl (by kernel_rfl) (by kernel_rfl) (by kernel_rfl) (fun _ _ _ h => nomatch h.1) (yg_as (by simp [Region.wanted]) (.tmp 44) rfl ((ev_ne _ _ (by decide)).trans (ev_eq _ _ (by simp [szAz1])))) hs1 ?_
  show wpAnyG _ _ _ _ _ _ _ _ (((Az1.put (some 44) (vv)).put (some 45) (.int .i64 er)).put (some 13) (vv)) _
  refine wpAnyG_take (i := 12) (v := .int .i64 er) rfl (by kernel_rfl) (by kernel_rfl) (by kernel_rfl) (fun _ _ _ h => nomatch h.1) (yg_as (by simp [Region.wanted]) (.tmp 45) rfl ((ev_ne _ _ (by decide)).trans (ev_eq _ _ (by simp [put_sz, szAz1])))) hs1 ?_
  show wpAnyG _ _ _ _ _ _ _ _ ((((Az1.put (some 44) (vv)).put (some 45) (.int .i64 er)).put (some 13) (vv)).put (some 11) (.int .i64 er)) _
  refine wpAnyG_done (by kernel_rfl) ⟨rfl, vv, ?_, hP, hs1, hb1⟩ _
  show ((((Az1.put (some 44) (vv)).put (some 45) (.int .i64 er)).put (some 13) (vv)).put (some 11) (.int .i64 er)) = _
  rw [hAz1]
end Go.Proofs.YtomhcccjeadefaaGreatDoor
/- (*Tree).Seal, by contracts: what is sealed; too long a text; a tenant that is gone. -/
namespace Go.Proofs.YtomhcccjeadefaaGreatDoor
open Go.RowKit Go.Maps
set_option linter.unusedVariables false
set_option maxRecDepth 20000
structure OutJ (P : Nat → Prop) (w w' : World) : Prop where
  os : w'.os = w.os
  tape : w'.tape = w.tape
  output : w'.output = w.output
  size : w.heap.size ≤ w'.heap.size
  block : ∀ k, k < w.heap.size → ¬ P k → w'.heap[k]? = w.heap[k]?
theorem OutJ.of_below {P : Nat → Prop} {w w' : World} (h : Below w.heap.size w w') : OutJ P w w' := ⟨h.os, h.tape, h.output, h.size, fun k hk _ => h.block k hk⟩
theorem OutJ.trans {P : Nat → Prop} {a b c : World} (h : OutJ P a b) (k : OutJ P b c) : OutJ P a c :=
  ⟨k.os.trans h.os, k.tape.trans h.tape, k.output.trans h.output, Nat.le_trans h.size k.size, fun i hi hp => (k.block i (Nat.lt_of_lt_of_le hi h.size) hp).trans (h.block i hi hp)⟩
theorem OutJ.below {P : Nat → Prop} {w w' : World} (h : OutJ P w w') {B : Nat} (hB : B ≤ w.heap.size) (hP : ∀ k, P k → B ≤ k) : Below B w w' := ⟨h.os, h.tape, h.output, h.size, fun k hk => h.block k (by omega) (fun hp => by have := hP k hp; omega)⟩
theorem OutJ.setCell {P : Nat → Prop} (w : World) (a : Addr) (v : Value) (ha : P a.block) : OutJ P w (w.setCell a v) :=
  ⟨rfl, rfl, rfl, by simp [World.setCell], fun k hk hp => heap_setCell_other _ _ _ _ (fun e => hp (by rw [e]; exact ha))⟩
section
variable {w : World} {B g : Nat} {root : List UInt8} {mv mg nv ng : Nat} {V G : DataW Unit} {n : Nat}
theorem TreeAt.mvne (h : TreeAt w B g root mv mg nv ng V G n) : mv ≠ g ∧ mg ≠ g := by
  refine ⟨fun e => ?_, fun e => ?_⟩
  · obtain ⟨es, clock, hb, _⟩ := h.vm
    rw [e, h.obj] at hb
    cases hb
  · obtain ⟨es, clock, hb, _⟩ := h.gm
    rw [e, h.obj] at hb
    cases hb
theorem TreeAt.setN (h : TreeAt w B g root mv mg nv ng V G n) (m : Nat) : TreeAt (w.setCell ⟨g, 34, none⟩ (.int .i64 (m : Int))) B g root mv mg nv ng V G m := by
  obtain ⟨h1, h2⟩ := h.mvne
  refine ⟨?_, h.vm.setCell h1 _, h.gm.setCell h2 _, h.len, h.bg, h.bv, h.bm⟩
  rw [heap_setCell_same w g 34 _ _ _ h.obj, List.setIfInBounds_toArray]
  unfold treeC
  rw [List.set_append_right _ _ (by rw [cellsOf_length, h.len]; omega), cellsOf_length, h.len]
  rfl
end
theorem TreeAt.grown {w w' : World} {B g : Nat} {root : List UInt8} {mv mg nv ng : Nat} {V G : DataW Unit} {n : Nat} (h : TreeAt w B g root mv mg nv ng V G n) {R : Nat} (hg : w.grownBy w' (some R)) (hR : R ≠ g ∧ R ≠ mv ∧ R ≠ mg) : TreeAt w' B g root mv mg nv ng V G n :=
  ⟨(hg.block g h.lt (fun e => hR.1 (Option.some.inj e).symm)).trans h.obj, h.vm.kept hg (fun e => hR.2.1 (Option.some.inj e).symm), h.gm.kept hg (fun e => hR.2.2 (Option.some.inj e).symm), h.len, h.bg, h.bv, h.bm⟩
theorem own_lit1 (w : World) (B : Nat) (hB : B ≤ w.heap.size) (c : UInt8) : (w.alloc (.cells #[.int .u8 (c.toNat : Int)] 5)).ownsRow B 5 1 (.slice (some ⟨w.heap.size, 0, none⟩) 1 1) 1 (cellsOf [c]) :=
  ⟨rfl, .inr ⟨w.heap.size, 1, _, rfl, hB, heap_alloc_new w _, Nat.le_refl _, by decide, rfl, rfl⟩⟩
def SealPost (w : World) (B g : Nat) (root : List UInt8) (mv mg nv ng : Nat) (VM GM : DataW Unit) (k : Nat) (l : List UInt8) (e : Ending) (w' : World) : Prop := ∃ v, e = .returned (.tuple #[v, .int .i64 0]) ∧ w'.ownsRow w.heap.size 5 1 v l.length (cellsOf l) ∧ TreeAt w' B g root mv mg nv ng VM GM (k + 1) ∧ OutJ (fun j => j = g) w w'
set_option maxHeartbeats 4000000 in
theorem seal_ok {w : World} {B g : Nat} {root : List UInt8} {mv mg nv ng : Nat} {VM GM : DataW Unit} {k : Nat} (h : TreeAt w B g root mv mg nv ng VM GM k) (t u : ByteArray) (ht : t.size ≤ 100 ∧ nameB t.data.toList = true) (hu : u.size ≤ 100 ∧ nameB u.data.toList = true) (kl : Lit) (hk : Go.keyOf Tryz.prog 80 (.agg #[.string t, .string u]) = some kl) (c : Nat) (hc : VerIs VM kl (c : Int)) (h1 : 1 ≤ c) (h16 : c ≤ 200) (hb : Maps.has GM (.string t.data.toList) = false) (hke : keyErr [t, u, txtJ c] = 0) (hk9 : k < 1099511627776) (plain : List UInt8) (a : Option Addr) (n cap : Nat) (hn : n = plain.length) (hB : Bytes w a plain) (hl : plain.length ≤ 1024) (hT : TabAt w) (hKA : KAt w) :
    Calls Tryz.prog 9 #[.pointer (some ⟨g, 0, none⟩), .string t, .string u, .slice a n cap] w (SealPost w B g root mv mg nv ng VM GM k (UInt8.ofNat c :: sealB (derRes root [t, u, txtJ c]) k plain)) := by
  obtain ⟨Z, hZ⟩ : ∃ Z, Z = bvs (List.replicate 32 0) := ⟨_, rfl⟩
  have zh := (zero_of_info zero_hash).1
  rw [← hZ] at zh
  have hz : Hid (HV Z (List.replicate 32 0)) := by
    show HV _ _
    rw [hZ]; exact hv_zero
  have zh := hid zh
  have HC := hid (current_any h t u ⟨by unfold maxLen; have := ht.1; omega, ht.2⟩ ⟨by unfold maxLen; have := hu.1; omega, hu.2⟩ kl hk (c : Int) hc false hb)
  have HKy := hid (fun (W : World) (hW : Below w.heap.size w W) => by have := key_ok (h.below hW) t u ht hu kl hk (c : Int) hc hb c h1 (Int.le_refl _) (by omega) (TabAt.belowJ hT hW) (hKA.below hW); rw [hke] at this; exact this)
  obtain ⟨key, hkey⟩ : ∃ key, key = derRes root [t, u, txtJ c] := ⟨_, rfl⟩
  rw [← hkey] at HKy ⊢
  have H := hid h
  have HB := hid hB
  have Hn := hid hn
  have HKA := hid hKA
  have hcv : IntKind.u64.wrap (k : Int) = (k : Int) := by rw [IntKind.wrap_u64]; omega
  have Hcv := hid hcv
  have hc8 : ((UInt8.ofNat c).toNat : Int) = (c : Int) := by
    have : (UInt8.ofNat c).toNat = c := by simp; omega
    omega
  have Hc8 := hid hc8
  have g9 : ((k : Int) == 1099511627776) = false := by simp; omega
  clear h hc hb hk hZ hT hkey hB hn hKA hcv hc8 hke
  go_enter Tryz.func9, Tryz.ntmps9
  go_wp2_with (first
    | (go_at_call 23; refine HC.out.mono ?_; rintro _ w1 ⟨rfl, b1⟩; have B1 := hid b1; clear b1; unfold goneE; simp only [Bool.false_eq_true, if_false])
    | (go_at_call 24; refine (HKy.out w1 B1.out).mono ?_; rintro _ w2 ⟨O, rfl, hO, b2⟩; obtain rfl := hO.eq; have hlk := hid hO.len; have B2 := hid (Below.on' B1.out b2); have X2 : Hid ((w2.alloc (.cells Z 27)).heap[w2.heap.size]? = some (.cells Z 27 (0, 0))) := heap_alloc_new w2 _; have HI := hid hO.info; have HZ9 := hid (hz.out.size.trans hO.size.symm); have HO1 := hid hO.one; clear b2 hO)
    | (with_reducible show Go.wpList _ _ _ _ _ _; refine wpList_alloc_row rfl 27 rfl Z zh.out ?_)
    | (with_reducible show Go.wpList _ _ _ _ _ _; refine wpList_store_row rfl 27 _ _ rfl w2.heap.size (bvs key) rfl rfl 27 Z X2.out HI.out HZ9.out HO1.out ?_))
  obtain ⟨W3, hW3⟩ : ∃ W3, W3 = (w2.alloc (.cells Z 27)).setRow w2.heap.size (bvs key) := ⟨_, rfl⟩
  have b3 : Below w2.heap.size w2 W3 := by rw [hW3]; exact ((Below.refl _ w2).alloc (Nat.le_refl _) _).setRow (Nat.le_refl _) _
  have x3 : W3.heap[w2.heap.size]? = some (.cells (bvs key) 27 (0, 0)) := by rw [hW3]; exact setRow_heap _ _ _ _ _ _ X2.out
  rw [← hW3]
  obtain ⟨V0, hV0⟩ : ∃ V0, V0 = W3.drew := ⟨_, rfl⟩
  have b30 : Below W3.heap.size W3 V0 := by rw [hV0]; exact (Below.refl _ W3).drew
  have bw0 : Below w.heap.size w V0 := Below.on' (Below.on' B2.out b3) b30
  have hcall : Calls Tryz.prog 25 #[.agg (bvs key), .int .u64 (k : Int), .slice a n cap] V0 fun e w' => ∃ vv, e = .returned (.tuple #[vv, .int .i64 0]) ∧ w'.ownsRow V0.heap.size 5 1 vv (sealB key k plain).length (cellsOf (sealB key k plain)) ∧ Below V0.heap.size V0 w' := seal_any ⟨rfl, hlk.out⟩ k plain a n cap Hn.out (HB.out.below bw0) hl (HKA.out.below bw0)
  refine wp_act _ fun A hA => ?_
  have sz : A.tmps.size = 66 := by rw [hA]; rfl
  have e0 : A.eval (.tmp 0) = .pointer (some ⟨g, 0, none⟩) := by rw [hA]; rfl
  have e3 : A.eval (.tmp 3) = .slice a n cap := by rw [hA]; rfl
  have e12 : A.eval (.tmp 12) = .pointer (some ⟨w2.heap.size, 0, none⟩) := by rw [hA]; rfl
  refine wp_split _ (seal_region7 (P := fun vv w' => w'.ownsRow V0.heap.size 5 1 vv (sealB key k plain).length (cellsOf (sealB key k plain))) sz e0 e3 e12 hlk.out Hcv.out hcall hV0 ⟨H.out.below bw0, (b30.block _ (heap_lt x3)).trans x3⟩) ?_
  rintro _ V4 ⟨vv, rfl, hown, ⟨hT4, _⟩, b4⟩
  rw [hA]
  simp only [Act.put, List.setIfInBounds_toArray, List.set_cons_succ, List.set_cons_zero]
  have ls : (sealB key k plain).length = n + 24 := by rw [sealB_len, Hn.out]
  obtain ⟨gs, cs, rfl, hBs, hcs, hgs⟩ := own_some hown (by omega)
  have c34 := hT4.c34
  have f34 := hT4.fz 34
  have bw4 := Below.on' bw0 b4
  obtain ⟨V5, hV5⟩ : ∃ V5, V5 = V4.setCell ⟨g, 34, none⟩ (.int .i64 ((k + 1 : Nat) : Int)) := ⟨_, rfl⟩
  have hT5 := hT4.setN (k + 1)
  rw [← hV5] at hT5
  have hgl := H.out.lt
  have hgs4 : gs ≠ g := by have := bw0.size; omega
  have hB5 : Bytes V5 (some ⟨gs, 0, none⟩) (sealB key k plain) := fun i hi => by
    obtain ⟨b9, o9, e9, hc9⟩ := hBs i hi
    cases e9
    refine ⟨gs, 0, rfl, ?_⟩
    rw [hV5]
    have : (V4.setCell ⟨g, 34, none⟩ (.int .i64 ((k + 1 : Nat) : Int))).heap[gs]? = V4.heap[gs]? := heap_setCell_other _ _ _ _ hgs4
    unfold World.cell? at hc9 ⊢
    rw [this]
    exact hc9
  have hs5 : V5.heap.size = V4.heap.size := by rw [hV5]; simp [World.setCell]
  have O5 : Hid (OutJ (fun j => j = g) w V5) := (OutJ.of_below bw4).trans (by rw [hV5]; exact OutJ.setCell V4 ⟨g, 34, none⟩ _ rfl)
  have HT5 := hid hT5
  have HB5 := hid hB5
  have HV5 := hid hV5
  have Hls := hid ls
  have hsw : w.heap.size ≤ V5.heap.size := O5.out.size
  have hka : ((k : Int) + 1) = ((k + 1 : Nat) : Int) := by omega
  have Hka := hid hka
  have hlit := own_lit1 V5 w.heap.size hsw (UInt8.ofNat c)
  rw [hs5] at hlit
  have HLit := hid hlit
  clear hlit
  have hl9 : plain.length = n := Hn.out.symm
  rw [ls]
  clear sz e0 e3 e12 hA A hcall hown hT4 b4 bw4 bw0 b30 b3 x3 hV0 hW3 hBs hT5 hB5 hV5 hka ls
  go_wp2_with (first
    | (at_builtin; rw [Hka.out, ← HV5.out, ← Hc8.out]; refine app_srcG _ rfl (.tmp 63) (.tmp 64) rfl w.heap.size _ [UInt8.ofNat c] rfl HLit.out (some ⟨gs, 0, none⟩) (n + 24) cs (sealB key k plain) Hls.out.symm rfl (HB5.out.below ((Below.refl _ V5).alloc (Nat.le_refl _) _)) (fun e => by cases e) (by rw [Hls.out]; simp; omega) (by simp; omega) ?_; intro v6 W6 hown6 hg6))
  go_ret2
  have hg7 : (V5.alloc (.cells #[.int .u8 ((UInt8.ofNat c).toNat : Int)] 5)).grownBy W6 (some V4.heap.size) := hg6
  have bA := (Below.refl _ V5).alloc (Nat.le_refl _) (.cells #[.int .u8 ((UInt8.ofNat c).toNat : Int)] 5)
  have hlg := HT5.out.lt
  have hlv := HT5.out.vm.lt
  have hlm := HT5.out.gm.lt
  refine ⟨v6, rfl, hown6, (HT5.out.below bA).grown hg7 ⟨by omega, by omega, by omega⟩, ?_⟩
  refine ⟨hg7.os.trans O5.out.os, hg7.tape.trans O5.out.tape, hg7.output.trans O5.out.output, Nat.le_trans hsw (Nat.le_trans bA.size hg7.size), fun j hj hp => ?_⟩
  refine (hg7.block j (Nat.lt_of_lt_of_le (Nat.lt_of_lt_of_le hj hsw) bA.size) (fun e => ?_)).trans ((bA.block j (Nat.lt_of_lt_of_le hj hsw)).trans (O5.out.block j hj hp))
  have := Option.some.inj e
  omega
end Go.Proofs.YtomhcccjeadefaaGreatDoor
