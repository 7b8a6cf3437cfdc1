/- YtomhcccjeadefaaGreatDoorJ7 + YtomhcccjeadefaaGreatDoorJ8 + YtomhcccjeadefaaGreatDoorJ9 -/
import Derived.Test.YtomhcccjeadefaaGreatDoorJ6
/- (*Tree).Open, by contracts. (Printed by gen/jopen.py.) -/
namespace Go.Proofs.YtomhcccjeadefaaGreatDoor
open Go.RowKit Go.Maps
set_option linter.unusedVariables false
set_option maxRecDepth 20000
theorem hf_openJ : ∀ (args : Array Value) (w : World), (callFunc 28 args).run Tryz.prog w = .ok (.enter 28 args) w := fun args w => by simp [go_sem]
theorem y_slice1 {ops : Array Oper} {S : World → Prop} {op : Oper} {a : Act} (hw : Region.wanted op (yielded ops a.tmps) = true) (x : Operand) (ho : op.op = .slice 29 x (some (.const (.int .i64 1))) none none) (g m cap : Nat) (h1 : 1 ≤ m) (oo : Nat) (h2 : oo = if 1 < cap then 1 else 0) (h3 : m ≤ cap) (hx : a.eval x = .slice (some ⟨g, 0, none⟩) m cap) : YieldsIf Tryz.prog ops S op (.slice (some ⟨g, oo, none⟩) (m - 1) (cap - 1)) a := by
  refine .inl ⟨hw, fun w _ => ?_⟩
  unfold execOp
  simp only [ho, hx]
  have e2 : (1 : Int) ≤ (m : Int) := by omega
  by_cases hc : 1 < cap
  · rw [if_pos hc] at h2
    subst h2
    simp [go_sem, e2]
    omega
  · rw [if_neg hc] at h2
    obtain rfl : cap = 1 := by omega
    obtain rfl : m = 1 := by omega
    subst h2
    simp [go_sem]
noncomputable def codeOpen (n : Nat) : Code := ((Tryz.f12.body.bind (regionAt n)).getD .skip)
set_option maxHeartbeats 4000000 in
theorem open_region10 {V0 W5 : World} {R gs m cap k oo : Nat} {key : List UInt8} {er : Int} {P : Value → World → Prop} {A : Act} (sz : A.tmps.size = 59) (e3 : A.eval (.tmp 3) = .slice (some ⟨gs, 0, none⟩) m cap) (e14 : A.eval (.tmp 14) = .pointer (some ⟨R, 0, none⟩))
    (lk : key.length = 32) (h1m : 1 ≤ m) (hoo : oo = if 1 < cap then 1 else 0) (hmc : m ≤ cap) (hcall : Calls Tryz.prog 28 #[.agg (bvs key), .slice (some ⟨gs, oo, none⟩) (m - 1) (cap - 1)] V0 fun e w' => ∃ vv, e = .returned (.tuple #[vv, .int .u64 (k : Int), .int .i64 er]) ∧ P vv w' ∧ Below V0.heap.size V0 w') (hV0 : V0 = W5.drew) (hs0 : (fun V => V.heap[R]? = some (.cells (bvs key) 27 (0, 0))) V0) :
    (codeOpen 10).wp Tryz.prog (fun x b V => x = .normal ∧ ∃ vv, b = (((((((((((A.put (some 47) (.agg (bvs key))).put (some 48) (.slice (some ⟨gs, 0, none⟩) m cap)).put (some 49) (.slice (some ⟨gs, oo, none⟩) (m - 1) (cap - 1))).put (some 50) (.tuple #[vv, .int .u64 (k : Int), .int .i64 er])).put (some 46) (.tuple #[vv, .int .u64 (k : Int), .int .i64 er])).put (some 51) (vv)).put (some 52) (.int .u64 (k : Int))).put (some 53) (.int .i64 er)).put (some 16) (vv)).put (some 17) (.int .u64 (k : Int))).put (some 15) (.int .i64 er)) ∧ P vv V ∧ Below V0.heap.size V0 V) A W5 := by
  have hm : Tryz.prog.follows .mixedOrders = true := by kernel_rfl
  unfold codeOpen
  conv => arg 2; whnf
  refine wp_region_G (fun _ => false) ((fun V => V.heap[R]? = some (.cells (bvs key) 27 (0, 0)))) hm ?_
  rw [show ({ W5 with drawn := W5.drawn + 1 } : World) = V0 from hV0.symm]
  refine wpAnyG_take (i := 0) (v := .agg (bvs key)) rfl (by kernel_rfl) (by kernel_rfl) (by kernel_rfl) (fun _ _ _ h => nomatch h.1) (yieldsIf_load_mid (by simp [Region.wanted]) 27 (.tmp 14) rfl R 0 e14 (cellsOf key) _ (fun V hV => rangeJ hV) Tryz.underlying27 rfl (by rw [cellsOf_length, lk]; exact size_hash)) hs0 ?_
  show wpAnyG _ _ _ _ _ _ _ _ (A.put (some 47) (.agg (bvs key))) _
  refine wpAnyG_take (i := 1) (v := .slice (some ⟨gs, 0, none⟩) m cap) rfl (by kernel_rfl) (by kernel_rfl) (by kernel_rfl) (fun _ _ _ h => nomatch h.1) (yg_mv (by simp [Region.wanted]) (.tmp 3) rfl ((ev_ne _ _ (by decide)).trans e3)) hs0 ?_
  show wpAnyG _ _ _ _ _ _ _ _ ((A.put (some 47) (.agg (bvs key))).put (some 48) (.slice (some ⟨gs, 0, none⟩) m cap)) _
  refine wpAnyG_take (i := 2) (v := .slice (some ⟨gs, oo, none⟩) (m - 1) (cap - 1)) rfl (by kernel_rfl) (by kernel_rfl) (by kernel_rfl) (fun _ _ _ h => nomatch h.1) (y_slice1 (by simp [Region.wanted]) (.tmp 48) rfl gs m cap h1m oo hoo hmc (ev_eq _ _ (by simp [put_sz, sz]))) hs0 ?_
  show wpAnyG _ _ _ _ _ _ _ _ (((A.put (some 47) (.agg (bvs key))).put (some 48) (.slice (some ⟨gs, 0, none⟩) m cap)).put (some 49) (.slice (some ⟨gs, oo, none⟩) (m - 1) (cap - 1))) _
  refine wpAnyG_all (rs := [3]) (by kernel_rfl) (by simp) fun i1 hm1 => ?_
  obtain rfl : i1 = 3 := by simpa using hm1
  refine wpOp_own rfl rfl fun K1 hK1 => ?_
  refine wp_calls2 28 hf_openJ (.tmp 47) (.tmp 49) _ rfl (.agg (bvs key)) (.slice (some ⟨gs, oo, none⟩) (m - 1) (cap - 1)) ((ev_ne _ _ (by decide)).trans ((ev_ne _ _ (by decide)).trans (ev_eq _ _ (by simp [sz])))) (ev_eq _ _ (by simp [put_sz, sz])) ?_
  refine (hcall).mono ?_
  rintro _ V1 ⟨vv, rfl, hP, hb1⟩
  have hs1 := (hb1.block R (heap_lt hs0)).trans hs0
  refine ⟨_, rfl, hK1 _ _ ⟨.inr hs1, ?_⟩⟩
  clear hK1 K1 hm1
  show wpAnyG _ _ _ _ _ _ _ _ ((((A.put (some 47) (.agg (bvs key))).put (some 48) (.slice (some ⟨gs, 0, none⟩) m cap)).put (some 49) (.slice (some ⟨gs, oo, none⟩) (m - 1) (cap - 1))).put (some 50) (.tuple #[vv, .int .u64 (k : Int), .int .i64 er])) _
  refine wpAnyG_take (i := 4) (v := .tuple #[vv, .int .u64 (k : Int), .int .i64 er]) rfl (by kernel_rfl) (by kernel_rfl) (by kernel_rfl) (fun _ _ _ h => nomatch h.1) (yg_mv (by simp [Region.wanted]) (.tmp 50) rfl (ev_eq _ _ (by simp [put_sz, sz]))) hs1 ?_
  show wpAnyG _ _ _ _ _ _ _ _ (((((A.put (some 47) (.agg (bvs key))).put (some 48) (.slice (some ⟨gs, 0, none⟩) m cap)).put (some 49) (.slice (some ⟨gs, oo, none⟩) (m - 1) (cap - 1))).put (some 50) (.tuple #[vv, .int .u64 (k : Int), .int .i64 er])).put (some 46) (.tuple #[vv, .int .u64 (k : Int), .int .i64 er])) _
  refine wpAnyG_take (i := 5) (v := vv) rfl (by kernel_rfl) (by kernel_rfl) (by kernel_rfl) (fun _ _ _ h => nomatch h.1) (yg_ext (by simp [Region.wanted]) (.tmp 46) rfl (ev_eq _ _ (by simp [put_sz, sz])) (fun w => by simp [go_sem])) hs1 ?_
  show wpAnyG _ _ _ _ _ _ _ _ ((((((A.put (some 47) (.agg (bvs key))).put (some 48) (.slice (some ⟨gs, 0, none⟩) m cap)).put (some 49) (.slice (some ⟨gs, oo, none⟩) (m - 1) (cap - 1))).put (some 50) (.tuple #[vv, .int .u64 (k : Int), .int .i64 er])).put (some 46) (.tuple #[vv, .int .u64 (k : Int), .int .i64 er])).put (some 51) (vv)) _
  refine wpAnyG_take (i := 6) (v := .int .u64 (k : Int)) rfl (by kernel_rfl) (by kernel_rfl) (by kernel_rfl) (fun _ _ _ h => nomatch h.1) (yg_ext (by simp [Region.wanted]) (.tmp 46) rfl ((ev_ne _ _ (by decide)).trans (ev_eq _ _ (by simp [put_sz, sz]))) (fun w => by simp [go_sem])) hs1 ?_
  show wpAnyG _ _ _ _ _ _ _ _ (((((((A.put (some 47) (.agg (bvs key))).put (some 48) (.slice (some ⟨gs, 0, none⟩) m cap)).put (some 49) (.slice (some ⟨gs, oo, none⟩) (m - 1) (cap - 1))).put (some 50) (.tuple #[vv, .int .u64 (k : Int), .int .i64 er])).put (some 46) (.tuple #[vv, .int .u64 (k : Int), .int .i64 er])).put (some 51) (vv)).put (some 52) (.int .u64 (k : Int))) _
  refine wpAnyG_take (i := 7) (v := .int .i64 er) rfl (by kernel_rfl) (by kernel_rfl) (by kernel_rfl) (fun _ _ _ h => nomatch h.1) (yg_ext (by simp [Region.wanted]) (.tmp 46) rfl ((ev_ne _ _ (by decide)).trans ((ev_ne _ _ (by decide)).trans (ev_eq _ _ (by simp [put_sz, sz])))) (fun w => by simp [go_sem])) hs1 ?_
  show wpAnyG _ _ _ _ _ _ _ _ ((((((((A.put (some 47) (.agg (bvs key))).put (some 48) (.slice (some ⟨gs, 0, none⟩) m cap)).put (some 49) (.slice (some ⟨gs, oo, none⟩) (m - 1) (cap - 1))).put (some 50) (.tuple #[vv, .int .u64 (k : Int), .int .i64 er])).put (some 46) (.tuple #[vv, .int .u64 (k : Int), .int .i64 er])).put (some 51) (vv)).put (some 52) (.int .u64 (k : Int))).put (some 53) (.int .i64 er)) _
  refine wpAnyG_take (i := 8) (v := vv) rfl (by kernel_rfl) (by kernel_rfl) (by kernel_rfl) (fun _ _ _ h => nomatch h.1) (yg_as (by simp [Region.wanted]) (.tmp 51) rfl ((ev_ne _ _ (by decide)).trans ((ev_ne _ _ (by decide)).trans (ev_eq _ _ (by simp [put_sz, sz]))))) hs1 ?_
  show wpAnyG _ _ _ _ _ _ _ _ (((((((((A.put (some 47) (.agg (bvs key))).put (some 48) (.slice (some ⟨gs, 0, none⟩) m cap)).put (some 49) (.slice (some ⟨gs, oo, none⟩) (m - 1) (cap - 1))).put (some 50) (.tuple #[vv, .int .u64 (k : Int), .int .i64 er])).put (some 46) (.tuple #[vv, .int .u64 (k : Int), .int .i64 er])).put (some 51) (vv)).put (some 52) (.int .u64 (k : Int))).put (some 53) (.int .i64 er)).put (some 16) (vv)) _
  obtain ⟨Az1, hAz1⟩ : ∃ Az1, Az1 = (((((((((A.put (some 47) (.agg (bvs key))).put (some 48) (.slice (some ⟨gs, 0, none⟩) m cap)).put (some 49) (.slice (some ⟨gs, oo, none⟩) (m - 1) (cap - 1))).put (some 50) (.tuple #[vv, .int .u64 (k : Int), .int .i64 er])).put (some 46) (.tuple #[vv, .int .u64 (k : Int), .int .i64 er])).put (some 51) (vv)).put (some 52) (.int .u64 (k : Int))).put (some 53) (.int .i64 er)).put (some 16) (vv)) := ⟨_, rfl⟩
  have szAz1 : Az1.tmps.size = 59 := by rw [hAz1]; simp [put_sz, sz]
  have eAz152 : Az1.eval (.tmp 52) = .int .u64 (k : Int) := by rw [hAz1]; exact ((ev_ne _ _ (by decide)).trans ((ev_ne _ _ (by decide)).trans (ev_eq _ _ (by simp [put_sz, sz]))))
  have eAz153 : Az1.eval (.tmp 53) = .int .i64 er := by rw [hAz1]; exact ((ev_ne _ _ (by decide)).trans (ev_eq _ _ (by simp [put_sz, sz])))
  rw [← hAz1]
  refine wpAnyG_take (i := 9) (v := .int .u64 (k : Int)) rfl (by kernel_rfl) (by kernel_rfl) (by kernel_rfl) (fun _ _ _ h => nomatch h.1) (yg_as (by simp [Region.wanted]) (.tmp 52) rfl eAz152) hs1 ?_
  show wpAnyG _ _ _ _ _ _ _ _ (Az1.put (some 17) (.int .u64 (k : Int))) _
  refine wpAnyG_take (i := 10) (v := .int .i64 er) rfl (by kernel_rfl) (by kernel_rfl) (by kernel_rfl) (fun _ _ _ h => nomatch h.1) (yg_as (by simp [Region.wanted]) (.tmp 53) rfl ((ev_ne _ _ (by decide)).trans eAz153)) hs1 ?_
  show wpAnyG _ _ _ _ _ _ _ _ ((Az1.put (some 17) (.int .u64 (k : Int))).put (some 15) (.int .i64 er)) _
  refine wpAnyG_done (by kernel_rfl) ⟨rfl, vv, ?_, hP, hb1⟩ _
  show ((Az1.put (some 17) (.int .u64 (k : Int))).put (some 15) (.int .i64 er)) = _
  rw [hAz1]
end Go.Proofs.YtomhcccjeadefaaGreatDoor
/- (*Tree): New and Rotate, by contracts; a nil tree. -/
namespace Go.Proofs.YtomhcccjeadefaaGreatDoor
open Go.RowKit Go.Maps
set_option linter.unusedVariables false
set_option maxRecDepth 20000
theorem len32J {α : Type} (l : List α) (h : l.length = 32) : ∃ x0 x1 x2 x3 x4 x5 x6 x7 x8 x9 x10 x11 x12 x13 x14 x15 x16 x17 x18 x19 x20 x21 x22 x23 x24 x25 x26 x27 x28 x29 x30 x31, l = [x0, x1, x2, x3, x4, x5, x6, x7, x8, x9, x10, x11, x12, x13, x14, x15, x16, x17, x18, x19, x20, x21, x22, x23, x24, x25, x26, x27, x28, x29, x30, x31] := by
  match l, h with
  | [x0, x1, x2, x3, x4, x5, x6, x7, x8, x9, x10, x11, x12, x13, x14, x15, x16, x17, x18, x19, x20, x21, x22, x23, x24, x25, x26, x27, x28, x29, x30, x31], _ => exact ⟨x0, x1, x2, x3, x4, x5, x6, x7, x8, x9, x10, x11, x12, x13, x14, x15, x16, x17, x18, x19, x20, x21, x22, x23, x24, x25, x26, x27, x28, x29, x30, x31, rfl⟩
theorem built_tree (root : List UInt8) (h : root.length = 32) (a b : Nat) : Tryz.prog.built 58 [(0, .agg (bvs root)), (1, .map (some a)), (2, .map (some b))] = some (treeC root a b 0).toArray := by
  obtain ⟨x0, x1, x2, x3, x4, x5, x6, x7, x8, x9, x10, x11, x12, x13, x14, x15, x16, x17, x18, x19, x20, x21, x22, x23, x24, x25, x26, x27, x28, x29, x30, x31, rfl⟩ := len32J root h
  kernel_rfl
def buildTr (ps : Array (Nat × Value)) : Sem Value := Instr.build 58 ps
theorem buildTr_fold (ps : Array (Nat × Value)) : Instr.build 58 ps = buildTr ps := rfl
section
attribute [local go_sem ↓] buildTr_fold
set_option maxHeartbeats 2000000 in
theorem new_any (w : World) (root : List UInt8) (hl : root.length = 32) : Calls Tryz.prog 5 #[.agg (bvs root)] w fun e w' => ∃ g mv mg, e = .returned (.pointer (some ⟨g, 0, none⟩)) ∧ TreeAt w' w.heap.size g root mv mg 0 0 (.map []) (.map []) 0 ∧ Below w.heap.size w w' ∧ mv ≠ mg := by
  obtain ⟨O, hO⟩ : ∃ O, O = bvs root := ⟨_, rfl⟩
  obtain ⟨W, hW⟩ : ∃ W, W = w.alloc (.cells O 27) := ⟨_, rfl⟩
  have x0 : W.heap[w.heap.size]? = some (.cells O 27 (0, 0)) := by rw [hW]; exact heap_alloc_new w _
  have hI : (Tryz.prog.info? 27).map (·.size) = some O.size := by rw [hO]; exact (show HV (bvs root) root from ⟨rfl, hl⟩).info
  obtain ⟨RC, hRC⟩ : ∃ RC : Nat → Nat → Array Value, RC = fun a b => (treeC root a b 0).toArray := ⟨_, rfl⟩
  have hB6 : ∀ (W : World) (a b : Nat), (buildTr #[(0, .agg O), (1, .map (some a)), (2, .map (some b))]).run Tryz.prog W = .ok (.agg (RC a b)) W := fun W a b => by
    rw [hO, hRC]
    exact run_build (P := Tryz.prog) W 58 #[(0, .agg (bvs root)), (1, .map (some a)), (2, .map (some b))] _ (built_tree root hl a b)
  have hmm := @run_makeMap Tryz.prog
  have HX0 := hid x0
  have HI := hid hI
  have HW := hid hW
  have HRC := hid hRC
  have Hl := hid hl
  have hb0 : Below w.heap.size w W := by rw [hW]; exact (Below.refl _ w).alloc (Nat.le_refl _) _
  have HB0 := hid hb0
  rw [← hO]
  clear hO hW x0 hI hRC hl hb0
  go_enter Tryz.func5, Tryz.ntmps5
  go_wp2_with (with_reducible show Go.wpList _ _ _ _ _ _; rw [← HW.out]; refine wpList_load_row rfl 27 _ rfl w.heap.size rfl _ _ _ _ HX0.out Tryz.underlying27 rfl HI.out ?_)
  go_ret
  have z1 : (W.alloc (.map #[] 0)).heap.size = W.heap.size + 1 := by simp
  have z2 : ((W.alloc (.map #[] 0)).alloc (.map #[] 0)).heap.size = W.heap.size + 1 + 1 := by simp
  have m1 := World.ownsMap_made W Tryz.prog 80 (plainElem (H := Unit) Tryz.prog 3)
  have m2 := World.ownsMap_made (W.alloc (.map #[] 0)) Tryz.prog 9 (unitElem (H := Unit))
  rw [z1] at m2
  have hbw := HB0.out.size
  refine ⟨W.heap.size + 1 + 1, W.heap.size, W.heap.size + 1, rfl, ⟨?_, (m1.alloc _).alloc _, m2.alloc _, Hl.out, by omega, by omega, by omega⟩, ?_, by omega⟩
  · rw [← z2, HRC.out]
    exact heap_alloc_new _ _
  · exact ((HB0.out.alloc hbw _).alloc (by simp; omega) _).alloc (by simp; omega) _
end
def RotPost (w : World) (B g : Nat) (root : List UInt8) (mv mg nv ng : Nat) (VM GM : DataW Unit) (k : Nat) (kl : Lit) (c : Nat) (e : Ending) (w' : World) : Prop := e = .returned (.tuple #[.int .i64 ((c + 1 : Nat) : Int), .int .i64 0]) ∧ TreeAt w' B g root mv mg (nv + 1) ng (VM.put kl (.lit (.int .i64 ((c + 1 : Nat) : Int)))) GM k ∧ OutJ (fun j => j = mv) w w'
theorem rot_end {w w1 w2 : World} {B g : Nat} {root : List UInt8} {mv mg nv ng : Nat} {VM GM : DataW Unit} {k : Nat} {kl : Lit} {c : Nat} (h : TreeAt w1 B g root mv mg nv ng VM GM k) (b1 : Below w.heap.size w w1) (hne : mv ≠ mg) (hown : w2.ownsMap Tryz.prog 80 (plainElem Tryz.prog 3) mv (nv + 1) (VM.put kl (.lit (.int .i64 ((c + 1 : Nat) : Int))))) (hg : w1.grownBy w2 (some mv)) : RotPost w B g root mv mg nv ng VM GM k kl c (.returned (.tuple #[.int .i64 ((c : Int) + 1), .int .i64 0])) w2 := by
  refine ⟨by rw [show ((c : Int) + 1) = ((c + 1 : Nat) : Int) by omega], ⟨(hg.block g h.lt (fun e => h.mvne.1 (Option.some.inj e).symm)).trans h.obj, hown, h.gm.kept hg (fun e => hne (Option.some.inj e).symm), h.len, h.bg, h.bv, h.bm⟩, ?_⟩
  exact (OutJ.of_below b1).trans ⟨hg.os, hg.tape, hg.output, hg.size, fun j hj hp => hg.block j hj (fun e => hp (Option.some.inj e))⟩
set_option maxHeartbeats 4000000 in
theorem rotate_ok {w : World} {B g : Nat} {root : List UInt8} {mv mg nv ng : Nat} {VM GM : DataW Unit} {k : Nat} (h : TreeAt w B g root mv mg nv ng VM GM k) (t u : ByteArray) (ht : t.size ≤ 100 ∧ nameB t.data.toList = true) (hu : u.size ≤ 100 ∧ nameB u.data.toList = true) (kl : Lit) (hk : Go.keyOf Tryz.prog 80 (.agg #[.string t, .string u]) = some kl) (c : Nat) (hc : VerIs VM kl (c : Int)) (h1 : 1 ≤ c) (h16 : c < 16) (hb : Maps.has GM (.string t.data.toList) = false) (hsz : c = 1 → Maps.size VM < 16) (hnv : nv ≤ 1000) (hne : mv ≠ mg) :
    Calls Tryz.prog 10 #[.pointer (some ⟨g, 0, none⟩), .string t, .string u] w (RotPost w B g root mv mg nv ng VM GM k kl c) := by
  have HC := hid (current_any h t u ⟨by unfold maxLen; have := ht.1; omega, ht.2⟩ ⟨by unfold maxLen; have := hu.1; omega, hu.2⟩ kl hk (c : Int) hc false hb)
  have H := hid h
  have Hk := hid hk
  have g1 : ((c : Int) == 16) = false := by simp; omega
  have hca : ((c : Int) + 1) = ((c + 1 : Nat) : Int) := by omega
  have Hca := hid hca
  have hwf : (Lit.int .i64 ((c + 1 : Nat) : Int)).wf = true := by simp [Lit.wf, IntKind.min, IntKind.max, IntKind.signed, IntKind.bits]; omega
  have Hwf := hid hwf
  clear h hc hb hk hca hwf
  by_cases hc1 : c = 1
  · have g2 : ((Maps.size VM : Int) == 16) = false := by have := hsz hc1; simp; omega
    have g3 : ((c : Int) == 1) = true := by simp; omega
    clear hsz
    go_enter Tryz.func10, Tryz.ntmps10
    clear hc1
    go_wp2_with (first
      | (go_at_call 23; refine HC.out.mono ?_; rintro _ w1 ⟨rfl, b1⟩; have B1 := hid b1; have hT1 := H.out.below b1; have c32 := hT1.c32; have hlen := hT1.vm.len Tryz.underlying55 3; have HT1 := hid hT1; clear b1 hT1; unfold goneE; simp only [Bool.false_eq_true, if_false])
      | (at_mapUpdate; rw [Hca.out]; refine wpList_mapUpdate_own _ rfl _ _ _ 55 rfl 80 3 lawPlace Tryz.underlying55 _ mv nv VM rfl HT1.out.vm (by unfold maxLen; omega) _ _ kl rfl rfl Hk.out _ [] (plainElem_int Tryz.underlying3 Hwf.out) ?_; intro w2 hown2 hg2))
    go_ret2
    exact rot_end HT1.out B1.out hne hown2 hg2
  · have g3 : ((c : Int) == 1) = false := by simp; omega
    clear hsz
    go_enter Tryz.func10, Tryz.ntmps10
    clear hc1
    go_wp2_with (first
      | (go_at_call 23; refine HC.out.mono ?_; rintro _ w1 ⟨rfl, b1⟩; have B1 := hid b1; have hT1 := H.out.below b1; have c32 := hT1.c32; have hlen := hT1.vm.len Tryz.underlying55 3; have HT1 := hid hT1; clear b1 hT1; unfold goneE; simp only [Bool.false_eq_true, if_false])
      | (at_mapUpdate; rw [Hca.out]; refine wpList_mapUpdate_own _ rfl _ _ _ 55 rfl 80 3 lawPlace Tryz.underlying55 _ mv nv VM rfl HT1.out.vm (by unfold maxLen; omega) _ _ kl rfl rfl Hk.out _ [] (plainElem_int Tryz.underlying3 Hwf.out) ?_; intro w2 hown2 hg2))
    go_ret2
    exact rot_end HT1.out B1.out hne hown2 hg2
end Go.Proofs.YtomhcccjeadefaaGreatDoor
/- live of the laws on keys. -/
namespace Go.Proofs.YtomhcccjeadefaaGreatDoor
open Go.RowKit Go.Maps
set_option linter.unusedVariables false
set_option maxRecDepth 20000
theorem TreeAt.mlt {w : World} {B g : Nat} {root : List UInt8} {mv mg nv ng : Nat} {V G : DataW Unit} {n : Nat} (h : TreeAt w B g root mv mg nv ng V G n) : mv < w.heap.size ∧ mg < w.heap.size := by
  refine ⟨?_, ?_⟩
  · obtain ⟨es, clock, hb, _⟩ := h.vm
    exact heap_lt hb
  · obtain ⟨es, clock, hb, _⟩ := h.gm
    exact heap_lt hb
theorem Bytes.outJ {P : Nat → Prop} {w w' : World} {g : Nat} {l : List UInt8} (h : Bytes w (some ⟨g, 0, none⟩) l) (ho : OutJ P w w') (hp : ¬ P g) : Bytes w' (some ⟨g, 0, none⟩) l := fun i hi => by
  obtain ⟨b, o, e, hc⟩ := h i hi
  cases e
  refine ⟨_, _, rfl, ?_⟩
  have hlt := World.block_lt_of_cell? _ _ hc
  rw [← hc]
  unfold World.cell?
  rw [ho.block _ hlt hp]
end Go.Proofs.YtomhcccjeadefaaGreatDoor
