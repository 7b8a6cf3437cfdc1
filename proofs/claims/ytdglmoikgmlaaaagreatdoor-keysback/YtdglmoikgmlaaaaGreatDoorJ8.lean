/- YtdglmoikgmlaaaaGreatDoorJ7 + YtdglmoikgmlaaaaGreatDoorJ8 -/
import Derived.Test.YtdglmoikgmlaaaaGreatDoorJ6
/- (*Tree).Open, by contracts. (Printed by gen/jopen.py.) -/
namespace Go.Proofs.YtdglmoikgmlaaaaGreatDoor
open Go.RowKit Go.Maps
set_option linter.unusedVariables false
set_option maxRecDepth 20000
theorem hf_openJ : ∀ (args : Array Value) (w : World), (callFunc 43 args).run Tryz.prog w = .ok (.enter 43 args) w := fun args w => by simp [go_sem]
theorem y_slice1 {ops : Array Oper} {S : World → Prop} {op : Oper} {a : Act} (hw : Region.wanted op (yielded ops a.tmps) = true) (x : Operand) (ho : op.op = .slice 41 x (some (.const (.int .i64 1))) none none) (g m cap : Nat) (h1 : 1 ≤ m) (oo : Nat) (h2 : oo = if 1 < cap then 1 else 0) (h3 : m ≤ cap) (hx : a.eval x = .slice (some ⟨g, 0, none⟩) m cap) : YieldsIf Tryz.prog ops S op (.slice (some ⟨g, oo, none⟩) (m - 1) (cap - 1)) a := by
  refine .inl ⟨hw, fun w _ => ?_⟩
  unfold execOp
  simp only [ho, hx]
  have e2 : (1 : Int) ≤ (m : Int) := by omega
  by_cases hc : 1 < cap
  · rw [if_pos hc] at h2
    subst h2
    simp [go_sem, e2]
    omega
  · rw [if_neg hc] at h2
    obtain rfl : cap = 1 := by omega
    obtain rfl : m = 1 := by omega
    subst h2
    simp [go_sem]
theorem open_sealed1 {w : World} {K : Array Value} {key : List UInt8} (hK : HV K key) (once : Nat) (ho : once < 2 ^ 64) (plain : List UInt8) (hl : plain.length ≤ 1024) (g n cap : Nat) (hn : n = plain.length + 24) (hB : Bytes w (some ⟨g, 1, none⟩) (sealB key once plain)) (hcap : n ≤ cap) (hT : KAt w) :
    Calls Tryz.prog 43 #[.agg K, .slice (some ⟨g, 1, none⟩) n cap] w fun e w' => ∃ v, e = .returned (.tuple #[v, .int .u64 (once : Int), .int .i64 0]) ∧ w'.ownsRow w.heap.size 5 1 v plain.length (cellsOf plain) ∧ Below w.heap.size w w' := by
  have h1 := sealB_len key once plain
  refine (open_any hK (sealB key once plain) g 1 n cap (by omega) hB (by omega) (by omega) hcap hT).mono fun e w' h => ?_
  obtain ⟨v, he, hown⟩ := h.right (by rw [seal_take, seal_drop])
  rw [seal_take, seal_eight, numB_be8 once ho, head_drop, cross_back] at hown
  rw [seal_eight, numB_be8 once ho] at he
  exact ⟨v, he, hown, h.below⟩
noncomputable def codeOpen (n : Nat) : Code := ((Tryz.f17.body.bind (regionAt n)).getD .skip)
set_option maxHeartbeats 4000000 in
theorem open_region10 {V0 W5 : World} {R gs m cap k oo : Nat} {key : List UInt8} {er : Int} {P : Value → World → Prop} {A : Act} (sz : A.tmps.size = 59) (e3 : A.eval (.tmp 3) = .slice (some ⟨gs, 0, none⟩) m cap) (e14 : A.eval (.tmp 14) = .pointer (some ⟨R, 0, none⟩))
    (lk : key.length = 32) (h1m : 1 ≤ m) (hoo : oo = if 1 < cap then 1 else 0) (hmc : m ≤ cap) (hcall : Calls Tryz.prog 43 #[.agg (bvs key), .slice (some ⟨gs, oo, none⟩) (m - 1) (cap - 1)] V0 fun e w' => ∃ vv, e = .returned (.tuple #[vv, .int .u64 (k : Int), .int .i64 er]) ∧ P vv w' ∧ Below V0.heap.size V0 w') (hV0 : V0 = W5.drew) (hs0 : (fun V => V.heap[R]? = some (.cells (bvs key) 23 (0, 0))) V0) :
    (codeOpen 10).wp Tryz.prog (fun x b V => x = .normal ∧ ∃ vv, b = (((((((((((A.put (some 47) (.agg (bvs key))).put (some 48) (.slice (some ⟨gs, 0, none⟩) m cap)).put (some 49) (.slice (some ⟨gs, oo, none⟩) (m - 1) (cap - 1))).put (some 50) (.tuple #[vv, .int .u64 (k : Int), .int .i64 er])).put (some 46) (.tuple #[vv, .int .u64 (k : Int), .int .i64 er])).put (some 51) (vv)).put (some 52) (.int .u64 (k : Int))).put (some 53) (.int .i64 er)).put (some 16) (vv)).put (some 17) (.int .u64 (k : Int))).put (some 15) (.int .i64 er)) ∧ P vv V ∧ Below V0.heap.size V0 V) A W5 := by
  have hm : Tryz.prog.follows .mixedOrders = true := by kernel_rfl
  unfold codeOpen
  conv => arg 2; whnf
  refine wp_region_G (fun _ => false) ((fun V => V.heap[R]? = some (.cells (bvs key) 23 (0, 0)))) hm ?_
  rw [show ({ W5 with drawn := W5.drawn + 1 } : World) = V0 from hV0.symm]
  refine wpAnyG_take (i := 0) (v := .agg (bvs key)) rfl (by kernel_rfl) (by kernel_rfl) (by kernel_rfl) (fun _ _ _ h => nomatch h.1) (yieldsIf_load_mid (by simp [Region.wanted]) 23 (.tmp 14) rfl R 0 e14 (cellsOf key) _ (fun V hV => rangeJ hV) Tryz.underlying23 rfl (by rw [cellsOf_length, lk]; exact size_hash)) hs0 ?_
  show wpAnyG _ _ _ _ _ _ _ _ (A.put (some 47) (.agg (bvs key))) _
  refine wpAnyG_take (i := 1) (v := .slice (some ⟨gs, 0, none⟩) m cap) rfl (by kernel_rfl) (by kernel_rfl) (by kernel_rfl) (fun _ _ _ h => nomatch h.1) (yg_mv (by simp [Region.wanted]) (.tmp 3) rfl ((ev_ne _ _ (by decide)).trans e3)) hs0 ?_
  show wpAnyG _ _ _ _ _ _ _ _ ((A.put (some 47) (.agg (bvs key))).put (some 48) (.slice (some ⟨gs, 0, none⟩) m cap)) _
  refine wpAnyG_take (i := 2) (v := .slice (some ⟨gs, oo, none⟩) (m - 1) (cap - 1)) rfl (by kernel_rfl) (by kernel_rfl) (by kernel_rfl) (fun _ _ _ h => nomatch h.1) (y_slice1 (by simp [Region.wanted]) (.tmp 48) rfl gs m cap h1m oo hoo hmc (ev_eq _ _ (by simp [put_sz, sz]))) hs0 ?_
  show wpAnyG _ _ _ _ _ _ _ _ (((A.put (some 47) (.agg (bvs key))).put (some 48) (.slice (some ⟨gs, 0, none⟩) m cap)).put (some 49) (.slice (some ⟨gs, oo, none⟩) (m - 1) (cap - 1))) _
  refine wpAnyG_all (rs := [3]) (by kernel_rfl) (by simp) fun i1 hm1 => ?_
  obtain rfl : i1 = 3 := by simpa using hm1
  refine wpOp_own rfl rfl fun K1 hK1 => ?_
  refine wp_calls2 43 hf_openJ (.tmp 47) (.tmp 49) _ rfl (.agg (bvs key)) (.slice (some ⟨gs, oo, none⟩) (m - 1) (cap - 1)) ((ev_ne _ _ (by decide)).trans ((ev_ne _ _ (by decide)).trans (ev_eq _ _ (by simp [sz])))) (ev_eq _ _ (by simp [put_sz, sz])) ?_
  refine (hcall).mono ?_
  rintro _ V1 ⟨vv, rfl, hP, hb1⟩
  have hs1 := (hb1.block R (heap_lt hs0)).trans hs0
  refine ⟨_, rfl, hK1 _ _ ⟨.inr hs1, ?_⟩⟩
  clear hK1 K1 hm1
  show wpAnyG _ _ _ _ _ _ _ _ ((((A.put (some 47) (.agg (bvs key))).put (some 48) (.slice (some ⟨gs, 0, none⟩) m cap)).put (some 49) (.slice (some ⟨gs, oo, none⟩) (m - 1) (cap - 1))).put (some 50) (.tuple #[vv, .int .u64 (k : Int), .int .i64 er])) _
  refine wpAnyG_take (i := 4) (v := .tuple #[vv, .int .u64 (k : Int), .int .i64 er]) rfl (by kernel_rfl) (by kernel_rfl) (by kernel_rfl) (fun _ _ _ h => nomatch h.1) (yg_mv (by simp [Region.wanted]) (.tmp 50) rfl (ev_eq _ _ (by simp [put_sz, sz]))) hs1 ?_
  show wpAnyG _ _ _ _ _ _ _ _ (((((A.put (some 47) (.agg (bvs key))).put (some 48) (.slice (some ⟨gs, 0, none⟩) m cap)).put (some 49) (.slice (some ⟨gs, oo, none⟩) (m - 1) (cap - 1))).put (some 50) (.tuple #[vv, .int .u64 (k : Int), .int .i64 er])).put (some 46) (.tuple #[vv, .int .u64 (k : Int), .int .i64 er])) _
  refine wpAnyG_take (i := 5) (v := vv) rfl (by kernel_rfl) (by kernel_rfl) (by kernel_rfl) (fun _ _ _ h => nomatch h.1) (yg_ext (by simp [Region.wanted]) (.tmp 46) rfl (ev_eq _ _ (by simp [put_sz, sz])) (fun w => by simp [go_sem])) hs1 ?_
  show wpAnyG _ _ _ _ _ _ _ _ ((((((A.put (some 47) (.agg (bvs key))).put (some 48) (.slice (some ⟨gs, 0, none⟩) m cap)).put (some 49) (.slice (some ⟨gs, oo, none⟩) (m - 1) (cap - 1))).put (some 50) (.tuple #[vv, .int .u64 (k : Int), .int .i64 er])).put (some 46) (.tuple #[vv, .int .u64 (k : Int), .int .i64 er])).put (some 51) (vv)) _
  refine wpAnyG_take (i := 6) (v := .int .u64 (k : Int)) rfl (by kernel_rfl) (by kernel_rfl) (by kernel_rfl) (fun _ _ _ h => nomatch h.1) (yg_ext (by simp [Region.wanted]) (.tmp 46) rfl ((ev_ne _ _ (by decide)).trans (ev_eq _ _ (by simp [put_sz, sz]))) (fun w => by simp [go_sem])) hs1 ?_
  show wpAnyG _ _ _ _ _ _ _ _ (((((((A.put (some 47) (.agg (bvs key))).put (some 48) (.slice (some ⟨gs, 0, none⟩) m cap)).put (some 49) (.slice (some ⟨gs, oo, none⟩) (m - 1) (cap - 1))).put (some 50) (.tuple #[vv, .int .u64 (k : Int), .int .i64 er])).put (some 46) (.tuple #[vv, .int .u64 (k : Int), .int .i64 er])).put (some 51) (vv)).put (some 52) (.int .u64 (k : Int))) _
  refine wpAnyG_take (i := 7) (v := .int .i64 er) rfl (by kernel_rfl) (by kernel_rfl) (by kernel_rfl) (fun _ _ _ h => nomatch h.1) (yg_ext (by simp [Region.wanted]) (.tmp 46) rfl ((ev_ne _ _ (by decide)).trans ((ev_ne _ _ (by decide)).trans (ev_eq _ _ (by simp [put_sz, sz])))) (fun w => by simp [go_sem])) hs1 ?_
  show wpAnyG _ _ _ _ _ _ _ _ ((((((((A.put (some 47) (.agg (bvs key))).put (some 48) (.slice (some ⟨gs, 0, none⟩) m cap)).put (some 49) (.slice (some ⟨gs, oo, none⟩) (m - 1) (cap - 1))).put (some 50) (.tuple #[vv, .int .u64 (k : Int), .int .i64 er])).put (some 46) (.tuple #[vv, .int .u64 (k : Int), .int .i64 er])).put (some 51) (vv)).put (some 52) (.int .u64 (k : Int))).put (some 53) (.int .i64 er)) _
  refine wpAnyG_take (i := 8) (v := vv) rfl (by kernel_rfl) (by kernel_rfl) (by kernel_rfl) (fun _ _ _ h => nomatch h.1) (yg_as (by simp [Region.wanted]) (.tmp 51) rfl ((ev_ne _ _ (by decide)).trans ((ev_ne _ _ (by decide)).trans (ev_eq _ _ (by simp [put_sz, sz]))))) hs1 ?_
  show wpAnyG _ _ _ _ _ _ _ _ (((((((((A.put (some 47) (.agg (bvs key))).put (some 48) (.slice (some ⟨gs, 0, none⟩) m cap)).put (some 49) (.slice (some ⟨gs, oo, none⟩) (m - 1) (cap - 1))).put (some 50) (.tuple #[vv, .int .u64 (k : Int), .int .i64 er])).put (some 46) (.tuple #[vv, .int .u64 (k : Int), .int .i64 er])).put (some 51) (vv)).put (some 52) (.int .u64 (k : Int))).put (some 53) (.int .i64 er)).put (some 16) (vv)) _
  obtain ⟨Az1, hAz1⟩ : ∃ Az1, Az1 = (((((((((A.put (some 47) (.agg (bvs key))).put (some 48) (.slice (some ⟨gs, 0, none⟩) m cap)).put (some 49) (.slice (some ⟨gs, oo, none⟩) (m - 1) (cap - 1))).put (some 50) (.tuple #[vv, .int .u64 (k : Int), .int .i64 er])).put (some 46) (.tuple #[vv, .int .u64 (k : Int), .int .i64 er])).put (some 51) (vv)).put (some 52) (.int .u64 (k : Int))).put (some 53) (.int .i64 er)).put (some 16) (vv)) := ⟨_, rfl⟩
  have szAz1 : Az1.tmps.size = 59 := by rw [hAz1]; simp [put_sz, sz]
  have eAz152 : Az1.eval (.tmp 52) = .int .u64 (k : Int) := by rw [hAz1]; exact ((ev_ne _ _ (by decide)).trans ((ev_ne _ _ (by decide)).trans (ev_eq _ _ (by simp [put_sz, sz]))))
  have eAz153 : Az1.eval (.tmp 53) = .int .i64 er := by rw [hAz1]; exact ((ev_ne _ _ (by decide)).trans (ev_eq _ _ (by simp [put_sz, sz])))
  rw [← hAz1]
  refine wpAnyG_take (i := 9) (v := .int .u64 (k : Int)) rfl (by kernel_rfl) (by kernel_rfl) (by kernel_rfl) (fun _ _ _ h => nomatch h.1) (yg_as (by simp [Region.wanted]) (.tmp 52) rfl eAz152) hs1 ?_
  show wpAnyG _ _ _ _ _ _ _ _ (Az1.put (some 17) (.int .u64 (k : Int))) _
  refine wpAnyG_take (i := 10) (v := .int .i64 er) rfl (by kernel_rfl) (by kernel_rfl) (by kernel_rfl) (fun _ _ _ h => nomatch h.1) (yg_as (by simp [Region.wanted]) (.tmp 53) rfl ((ev_ne _ _ (by decide)).trans eAz153)) hs1 ?_
  show wpAnyG _ _ _ _ _ _ _ _ ((Az1.put (some 17) (.int .u64 (k : Int))).put (some 15) (.int .i64 er)) _
  refine wpAnyG_done (by kernel_rfl) ⟨rfl, vv, ?_, hP, hb1⟩ _
  show ((Az1.put (some 17) (.int .u64 (k : Int))).put (some 15) (.int .i64 er)) = _
  rw [hAz1]
/-- what Open answers, if it opens -/
def OpenP (w : World) (ver : Nat) (plain : List UInt8) (e : Ending) (w' : World) : Prop := ∃ v, e = .returned (.tuple #[v, .int .i64 (ver : Int), .int .i64 0]) ∧ w'.ownsRow w.heap.size 5 1 v plain.length (cellsOf plain) ∧ Below w.heap.size w w'
set_option maxHeartbeats 4000000 in
theorem open_ok {w : World} {B g : Nat} {root : List UInt8} {mv mg nv ng : Nat} {VM GM : DataW Unit} {k : Nat} (h : TreeAt w B g root mv mg nv ng VM GM k) (t u : ByteArray) (ht : t.size ≤ 100 ∧ nameB t.data.toList = true) (hu : u.size ≤ 100 ∧ nameB u.data.toList = true) (kl : Lit) (hk : Go.keyOf Tryz.prog 71 (.agg #[.string t, .string u]) = some kl) (c : Int) (hc : VerIs VM kl c) (hb : Maps.has GM (.string t.data.toList) = false) (v : Nat) (h1 : 1 ≤ v) (hvc : (v : Int) ≤ c) (h16 : v ≤ 200) (hke : keyErr [t, u, txtJ v] = 0) (once : Nat) (hon : once ≤ 1000) (plain : List UInt8) (hl : plain.length ≤ 1024) (gs m cap : Nat) (hm : m = plain.length + 25) (hmc : m ≤ cap) (hB : Bytes w (some ⟨gs, 0, none⟩) (UInt8.ofNat v :: sealB (derRes root [t, u, txtJ v]) once plain)) (hT : TabAt w) (hKA : KAt w) :
    Calls Tryz.prog 17 #[.pointer (some ⟨g, 0, none⟩), .string t, .string u, .slice (some ⟨gs, 0, none⟩) m cap] w (OpenP w v plain) := by
  obtain ⟨Z, hZ⟩ : ∃ Z, Z = bvs (List.replicate 32 0) := ⟨_, rfl⟩
  have zh := (zero_of_info zero_hash).1
  rw [← hZ] at zh
  have hz : Hid (HV Z (List.replicate 32 0)) := by
    show HV _ _
    rw [hZ]; exact hv_zero
  have zh := hid zh
  have HC := hid (current_any h t u ⟨by unfold maxLen; have := ht.1; omega, ht.2⟩ ⟨by unfold maxLen; have := hu.1; omega, hu.2⟩ kl hk c hc false hb)
  have HKy := hid (fun (W : World) (hW : Below w.heap.size w W) => by have := key_ok (h.below hW) t u ht hu kl hk c hc hb v h1 hvc (by omega) (TabAt.belowJ hT hW) (hKA.below hW); rw [hke] at this; exact this)
  obtain ⟨key, hkey⟩ : ∃ key, key = derRes root [t, u, txtJ v] := ⟨_, rfl⟩
  rw [← hkey] at HKy hB
  have hv8 : ((UInt8.ofNat v).toNat : Int) = (v : Int) := by
    have : (UInt8.ofNat v).toNat = v := by simp; omega
    omega
  have q0 : w.cell? ⟨gs, 0, none⟩ = some (.int .u8 (v : Int)) := by
    obtain ⟨b9, o9, e9, hc9⟩ := hB 0 (by simp)
    cases e9
    rw [← hv8]
    exact hc9
  have hB1 : Bytes w (some ⟨gs, 1, none⟩) (sealB key once plain) := fun i hi => by
    obtain ⟨b9, o9, e9, hc9⟩ := hB (i + 1) (by simp; omega)
    cases e9
    refine ⟨gs, 1, rfl, ?_⟩
    rw [show 1 + i = 0 + (i + 1) by omega]
    exact hc9
  have HB1 := hid hB1
  have H := hid h
  have HKA := hid hKA
  have Q0 := hid q0
  have gm0 : ((m : Int) == 0) = false := by simp; omega
  have hm0 : 0 < m := by omega
  have Hm := hid hm
  clear hm h hc hb hk hZ hT hkey hB hB1 hKA hke hv8 q0
  go_enter Tryz.func17, Tryz.ntmps17
  go_wp2_with (first
    | (go_at_call 29; refine HC.out.mono ?_; rintro _ w1 ⟨rfl, b1⟩; have B1 := hid b1; have q1 := (b1.cell (World.block_lt_of_cell? _ _ Q0.out)).trans Q0.out; clear b1; unfold goneE; simp only [Bool.false_eq_true, if_false])
    | (go_at_call 27; refine (HKy.out w1 B1.out).mono ?_; rintro _ w2 ⟨O, rfl, hO, b2⟩; obtain rfl := hO.eq; have hlk := hid hO.len; have B2 := hid (Below.on' B1.out b2); have X2 : Hid ((w2.alloc (.cells Z 23)).heap[w2.heap.size]? = some (.cells Z 23 (0, 0))) := heap_alloc_new w2 _; have HI := hid hO.info; have HZ9 := hid (hz.out.size.trans hO.size.symm); have HO1 := hid hO.one; clear b2 hO)
    | (with_reducible show Go.wpList _ _ _ _ _ _; refine wpList_alloc_row rfl 23 rfl Z zh.out ?_)
    | (with_reducible show Go.wpList _ _ _ _ _ _; refine wpList_store_row rfl 23 _ _ rfl w2.heap.size (bvs key) rfl rfl 23 Z X2.out HI.out HZ9.out HO1.out ?_))
  obtain ⟨W3, hW3⟩ : ∃ W3, W3 = (w2.alloc (.cells Z 23)).setRow w2.heap.size (bvs key) := ⟨_, rfl⟩
  have b3 : Below w2.heap.size w2 W3 := by rw [hW3]; exact ((Below.refl _ w2).alloc (Nat.le_refl _) _).setRow (Nat.le_refl _) _
  have x3 : W3.heap[w2.heap.size]? = some (.cells (bvs key) 23 (0, 0)) := by rw [hW3]; exact setRow_heap _ _ _ _ _ _ X2.out
  rw [← hW3]
  obtain ⟨V0, hV0⟩ : ∃ V0, V0 = W3.drew := ⟨_, rfl⟩
  have b30 : Below W3.heap.size W3 V0 := by rw [hV0]; exact (Below.refl _ W3).drew
  have bw0 : Below w.heap.size w V0 := Below.on' (Below.on' B2.out b3) b30
  have hcall : Calls Tryz.prog 43 #[.agg (bvs key), .slice (some ⟨gs, 1, none⟩) (m - 1) (cap - 1)] V0 fun e w' => ∃ vv, e = .returned (.tuple #[vv, .int .u64 (once : Int), .int .i64 0]) ∧ w'.ownsRow V0.heap.size 5 1 vv plain.length (cellsOf plain) ∧ Below V0.heap.size V0 w' := open_sealed1 ⟨rfl, hlk.out⟩ once (by omega) plain hl gs (m - 1) (cap - 1) (by have := Hm.out; omega) (HB1.out.below bw0) (by omega) (HKA.out.below bw0)
  refine wp_act _ fun A hA => ?_
  have sz : A.tmps.size = 59 := by rw [hA]; rfl
  have e3 : A.eval (.tmp 3) = .slice (some ⟨gs, 0, none⟩) m cap := by rw [hA]; rfl
  have e14 : A.eval (.tmp 14) = .pointer (some ⟨w2.heap.size, 0, none⟩) := by rw [hA]; rfl
  refine wp_split _ (open_region10 (P := fun vv w' => w'.ownsRow V0.heap.size 5 1 vv plain.length (cellsOf plain)) sz e3 e14 hlk.out (by omega) (by rw [if_pos (by have := Hm.out; omega)]) (by omega) hcall hV0 ((b30.block _ (heap_lt x3)).trans x3)) ?_
  rintro _ V4 ⟨vv, rfl, hown, b4⟩
  rw [hA]
  simp only [Act.put, List.setIfInBounds_toArray, List.set_cons_succ, List.set_cons_zero]
  have HOwn := hid (own_mono hown bw0.size)
  have BF := hid (Below.on' bw0 b4)
  clear sz e3 e14 hA A hcall hown b4 bw0 b30 b3 x3 hV0 hW3
  go_wp2
  go_ret3
  exact ⟨vv, rfl, HOwn.out, BF.out⟩
end Go.Proofs.YtdglmoikgmlaaaaGreatDoor

/- (*Tree): New and Rotate, by contracts; a nil tree. -/
namespace Go.Proofs.YtdglmoikgmlaaaaGreatDoor
open Go.RowKit Go.Maps
set_option linter.unusedVariables false
set_option maxRecDepth 20000
theorem len32J {α : Type} (l : List α) (h : l.length = 32) : ∃ x0 x1 x2 x3 x4 x5 x6 x7 x8 x9 x10 x11 x12 x13 x14 x15 x16 x17 x18 x19 x20 x21 x22 x23 x24 x25 x26 x27 x28 x29 x30 x31, l = [x0, x1, x2, x3, x4, x5, x6, x7, x8, x9, x10, x11, x12, x13, x14, x15, x16, x17, x18, x19, x20, x21, x22, x23, x24, x25, x26, x27, x28, x29, x30, x31] := by
  obtain ⟨x0, l, rfl⟩ := List.exists_cons_of_length_eq_add_one (n := 31) h
  have h : l.length = 31 := by simpa using h
  obtain ⟨x1, l, rfl⟩ := List.exists_cons_of_length_eq_add_one (n := 30) h
  have h : l.length = 30 := by simpa using h
  obtain ⟨x2, l, rfl⟩ := List.exists_cons_of_length_eq_add_one (n := 29) h
  have h : l.length = 29 := by simpa using h
  obtain ⟨x3, l, rfl⟩ := List.exists_cons_of_length_eq_add_one (n := 28) h
  have h : l.length = 28 := by simpa using h
  obtain ⟨x4, l, rfl⟩ := List.exists_cons_of_length_eq_add_one (n := 27) h
  have h : l.length = 27 := by simpa using h
  obtain ⟨x5, l, rfl⟩ := List.exists_cons_of_length_eq_add_one (n := 26) h
  have h : l.length = 26 := by simpa using h
  obtain ⟨x6, l, rfl⟩ := List.exists_cons_of_length_eq_add_one (n := 25) h
  have h : l.length = 25 := by simpa using h
  obtain ⟨x7, l, rfl⟩ := List.exists_cons_of_length_eq_add_one (n := 24) h
  have h : l.length = 24 := by simpa using h
  obtain ⟨x8, l, rfl⟩ := List.exists_cons_of_length_eq_add_one (n := 23) h
  have h : l.length = 23 := by simpa using h
  obtain ⟨x9, l, rfl⟩ := List.exists_cons_of_length_eq_add_one (n := 22) h
  have h : l.length = 22 := by simpa using h
  obtain ⟨x10, l, rfl⟩ := List.exists_cons_of_length_eq_add_one (n := 21) h
  have h : l.length = 21 := by simpa using h
  obtain ⟨x11, l, rfl⟩ := List.exists_cons_of_length_eq_add_one (n := 20) h
  have h : l.length = 20 := by simpa using h
  obtain ⟨x12, l, rfl⟩ := List.exists_cons_of_length_eq_add_one (n := 19) h
  have h : l.length = 19 := by simpa using h
  obtain ⟨x13, l, rfl⟩ := List.exists_cons_of_length_eq_add_one (n := 18) h
  have h : l.length = 18 := by simpa using h
  obtain ⟨x14, l, rfl⟩ := List.exists_cons_of_length_eq_add_one (n := 17) h
  have h : l.length = 17 := by simpa using h
  obtain ⟨x15, l, rfl⟩ := List.exists_cons_of_length_eq_add_one (n := 16) h
  have h : l.length = 16 := by simpa using h
  obtain ⟨x16, l, rfl⟩ := List.exists_cons_of_length_eq_add_one (n := 15) h
  have h : l.length = 15 := by simpa using h
  obtain ⟨x17, l, rfl⟩ := List.exists_cons_of_length_eq_add_one (n := 14) h
  have h : l.length = 14 := by simpa using h
  obtain ⟨x18, l, rfl⟩ := List.exists_cons_of_length_eq_add_one (n := 13) h
  have h : l.length = 13 := by simpa using h
  obtain ⟨x19, l, rfl⟩ := List.exists_cons_of_length_eq_add_one (n := 12) h
  have h : l.length = 12 := by simpa using h
  obtain ⟨x20, l, rfl⟩ := List.exists_cons_of_length_eq_add_one (n := 11) h
  have h : l.length = 11 := by simpa using h
  obtain ⟨x21, l, rfl⟩ := List.exists_cons_of_length_eq_add_one (n := 10) h
  have h : l.length = 10 := by simpa using h
  obtain ⟨x22, l, rfl⟩ := List.exists_cons_of_length_eq_add_one (n := 9) h
  have h : l.length = 9 := by simpa using h
  obtain ⟨x23, l, rfl⟩ := List.exists_cons_of_length_eq_add_one (n := 8) h
  have h : l.length = 8 := by simpa using h
  obtain ⟨x24, l, rfl⟩ := List.exists_cons_of_length_eq_add_one (n := 7) h
  have h : l.length = 7 := by simpa using h
  obtain ⟨x25, l, rfl⟩ := List.exists_cons_of_length_eq_add_one (n := 6) h
  have h : l.length = 6 := by simpa using h
  obtain ⟨x26, l, rfl⟩ := List.exists_cons_of_length_eq_add_one (n := 5) h
  have h : l.length = 5 := by simpa using h
  obtain ⟨x27, l, rfl⟩ := List.exists_cons_of_length_eq_add_one (n := 4) h
  have h : l.length = 4 := by simpa using h
  obtain ⟨x28, l, rfl⟩ := List.exists_cons_of_length_eq_add_one (n := 3) h
  have h : l.length = 3 := by simpa using h
  obtain ⟨x29, l, rfl⟩ := List.exists_cons_of_length_eq_add_one (n := 2) h
  have h : l.length = 2 := by simpa using h
  obtain ⟨x30, l, rfl⟩ := List.exists_cons_of_length_eq_add_one (n := 1) h
  have h : l.length = 1 := by simpa using h
  obtain ⟨x31, l, rfl⟩ := List.exists_cons_of_length_eq_add_one (n := 0) h
  have h : l.length = 0 := by simpa using h
  obtain rfl := List.eq_nil_of_length_eq_zero h
  exact ⟨_, _, _, _, _, _, _, _, _, _, _, _, _, _, _, _, _, _, _, _, _, _, _, _, _, _, _, _, _, _, _, _, rfl⟩
theorem built_tree (root : List UInt8) (h : root.length = 32) (a b : Nat) : Tryz.prog.built 55 [(0, .agg (bvs root)), (1, .map (some a)), (2, .map (some b))] = some (treeC root a b 0).toArray := by
  obtain ⟨x0, x1, x2, x3, x4, x5, x6, x7, x8, x9, x10, x11, x12, x13, x14, x15, x16, x17, x18, x19, x20, x21, x22, x23, x24, x25, x26, x27, x28, x29, x30, x31, rfl⟩ := len32J root h
  kernel_rfl
def buildTr (ps : Array (Nat × Value)) : Sem Value := Instr.build 55 ps
theorem buildTr_fold (ps : Array (Nat × Value)) : Instr.build 55 ps = buildTr ps := rfl
section
attribute [local go_sem ↓] buildTr_fold
set_option maxHeartbeats 2000000 in
theorem new_any (w : World) (root : List UInt8) (hl : root.length = 32) : Calls Tryz.prog 6 #[.agg (bvs root)] w fun e w' => ∃ g mv mg, e = .returned (.pointer (some ⟨g, 0, none⟩)) ∧ TreeAt w' w.heap.size g root mv mg 0 0 (.map []) (.map []) 0 ∧ Below w.heap.size w w' ∧ mv ≠ mg := by
  obtain ⟨O, hO⟩ : ∃ O, O = bvs root := ⟨_, rfl⟩
  obtain ⟨W, hW⟩ : ∃ W, W = w.alloc (.cells O 23) := ⟨_, rfl⟩
  have x0 : W.heap[w.heap.size]? = some (.cells O 23 (0, 0)) := by rw [hW]; exact heap_alloc_new w _
  have hI : (Tryz.prog.info? 23).map (·.size) = some O.size := by rw [hO]; exact (show HV (bvs root) root from ⟨rfl, hl⟩).info
  obtain ⟨RC, hRC⟩ : ∃ RC : Nat → Nat → Array Value, RC = fun a b => (treeC root a b 0).toArray := ⟨_, rfl⟩
  have hB6 : ∀ (W : World) (a b : Nat), (buildTr #[(0, .agg O), (1, .map (some a)), (2, .map (some b))]).run Tryz.prog W = .ok (.agg (RC a b)) W := fun W a b => by
    rw [hO, hRC]
    exact run_build (P := Tryz.prog) W 55 #[(0, .agg (bvs root)), (1, .map (some a)), (2, .map (some b))] _ (built_tree root hl a b)
  have hmm := @run_makeMap Tryz.prog
  have HX0 := hid x0
  have HI := hid hI
  have HW := hid hW
  have HRC := hid hRC
  have Hl := hid hl
  have hb0 : Below w.heap.size w W := by rw [hW]; exact (Below.refl _ w).alloc (Nat.le_refl _) _
  have HB0 := hid hb0
  rw [← hO]
  clear hO hW x0 hI hRC hl hb0
  go_enter Tryz.func6, Tryz.ntmps6
  go_wp2_with (with_reducible show Go.wpList _ _ _ _ _ _; rw [← HW.out]; refine wpList_load_row rfl 23 _ rfl w.heap.size rfl _ _ _ _ HX0.out Tryz.underlying23 rfl HI.out ?_)
  go_ret
  have z1 : (W.alloc (.map #[] 0)).heap.size = W.heap.size + 1 := by simp
  have z2 : ((W.alloc (.map #[] 0)).alloc (.map #[] 0)).heap.size = W.heap.size + 1 + 1 := by simp
  have m1 := World.ownsMap_made W Tryz.prog 71 (plainElem (H := Unit) Tryz.prog 3)
  have m2 := World.ownsMap_made (W.alloc (.map #[] 0)) Tryz.prog 9 (unitElem (H := Unit))
  rw [z1] at m2
  have hbw := HB0.out.size
  refine ⟨W.heap.size + 1 + 1, W.heap.size, W.heap.size + 1, rfl, ⟨?_, (m1.alloc _).alloc _, m2.alloc _, Hl.out, by omega, by omega, by omega⟩, ?_, by omega⟩
  · rw [← z2, HRC.out]
    exact heap_alloc_new _ _
  · exact ((HB0.out.alloc hbw _).alloc (by simp; omega) _).alloc (by simp; omega) _
end
def RotPost (w : World) (B g : Nat) (root : List UInt8) (mv mg nv ng : Nat) (VM GM : DataW Unit) (k : Nat) (kl : Lit) (c : Nat) (e : Ending) (w' : World) : Prop := e = .returned (.tuple #[.int .i64 ((c + 1 : Nat) : Int), .int .i64 0]) ∧ TreeAt w' B g root mv mg (nv + 1) ng (VM.put kl (.lit (.int .i64 ((c + 1 : Nat) : Int)))) GM k ∧ OutJ (fun j => j = mv) w w'
theorem rot_end {w w1 w2 : World} {B g : Nat} {root : List UInt8} {mv mg nv ng : Nat} {VM GM : DataW Unit} {k : Nat} {kl : Lit} {c : Nat} (h : TreeAt w1 B g root mv mg nv ng VM GM k) (b1 : Below w.heap.size w w1) (hne : mv ≠ mg) (hown : w2.ownsMap Tryz.prog 71 (plainElem Tryz.prog 3) mv (nv + 1) (VM.put kl (.lit (.int .i64 ((c + 1 : Nat) : Int))))) (hg : w1.grownBy w2 (some mv)) : RotPost w B g root mv mg nv ng VM GM k kl c (.returned (.tuple #[.int .i64 ((c : Int) + 1), .int .i64 0])) w2 := by
  refine ⟨by rw [show ((c : Int) + 1) = ((c + 1 : Nat) : Int) by omega], ⟨(hg.block g h.lt (fun e => h.mvne.1 (Option.some.inj e).symm)).trans h.obj, hown, h.gm.kept hg (fun e => hne (Option.some.inj e).symm), h.len, h.bg, h.bv, h.bm⟩, ?_⟩
  exact (OutJ.of_below b1).trans ⟨hg.os, hg.tape, hg.output, hg.size, fun j hj hp => hg.block j hj (fun e => hp (Option.some.inj e))⟩
set_option maxHeartbeats 4000000 in
theorem rotate_ok {w : World} {B g : Nat} {root : List UInt8} {mv mg nv ng : Nat} {VM GM : DataW Unit} {k : Nat} (h : TreeAt w B g root mv mg nv ng VM GM k) (t u : ByteArray) (ht : t.size ≤ 100 ∧ nameB t.data.toList = true) (hu : u.size ≤ 100 ∧ nameB u.data.toList = true) (kl : Lit) (hk : Go.keyOf Tryz.prog 71 (.agg #[.string t, .string u]) = some kl) (c : Nat) (hc : VerIs VM kl (c : Int)) (h1 : 1 ≤ c) (h16 : c < 16) (hb : Maps.has GM (.string t.data.toList) = false) (hsz : c = 1 → Maps.size VM < 16) (hnv : nv ≤ 1000) (hne : mv ≠ mg) :
    Calls Tryz.prog 16 #[.pointer (some ⟨g, 0, none⟩), .string t, .string u] w (RotPost w B g root mv mg nv ng VM GM k kl c) := by
  have HC := hid (current_any h t u ⟨by unfold maxLen; have := ht.1; omega, ht.2⟩ ⟨by unfold maxLen; have := hu.1; omega, hu.2⟩ kl hk (c : Int) hc false hb)
  have H := hid h
  have Hk := hid hk
  have g1 : ((c : Int) == 16) = false := by simp; omega
  have hca : ((c : Int) + 1) = ((c + 1 : Nat) : Int) := by omega
  have Hca := hid hca
  have hwf : (Lit.int .i64 ((c + 1 : Nat) : Int)).wf = true := by simp [Lit.wf, IntKind.min, IntKind.max, IntKind.signed, IntKind.bits]; omega
  have Hwf := hid hwf
  clear h hc hb hk hca hwf
  by_cases hc1 : c = 1
  · have g2 : ((Maps.size VM : Int) == 16) = false := by have := hsz hc1; simp; omega
    have g3 : ((c : Int) == 1) = true := by simp; omega
    clear hsz
    go_enter Tryz.func16, Tryz.ntmps16
    clear hc1
    go_wp2_with (first
      | (go_at_call 29; refine HC.out.mono ?_; rintro _ w1 ⟨rfl, b1⟩; have B1 := hid b1; have hT1 := H.out.below b1; have c32 := hT1.c32; have hlen := hT1.vm.len Tryz.underlying52 3; have HT1 := hid hT1; clear b1 hT1; unfold goneE; simp only [Bool.false_eq_true, if_false])
      | (at_mapUpdate; rw [Hca.out]; refine wpList_mapUpdate_own _ rfl _ _ _ 52 rfl 71 3 lawPlace Tryz.underlying52 _ mv nv VM rfl HT1.out.vm (by unfold maxLen; omega) _ _ kl rfl rfl Hk.out _ [] (plainElem_int Tryz.underlying3 Hwf.out) ?_; intro w2 hown2 hg2))
    go_ret2
    exact rot_end HT1.out B1.out hne hown2 hg2
  · have g3 : ((c : Int) == 1) = false := by simp; omega
    clear hsz
    go_enter Tryz.func16, Tryz.ntmps16
    clear hc1
    go_wp2_with (first
      | (go_at_call 29; refine HC.out.mono ?_; rintro _ w1 ⟨rfl, b1⟩; have B1 := hid b1; have hT1 := H.out.below b1; have c32 := hT1.c32; have hlen := hT1.vm.len Tryz.underlying52 3; have HT1 := hid hT1; clear b1 hT1; unfold goneE; simp only [Bool.false_eq_true, if_false])
      | (at_mapUpdate; rw [Hca.out]; refine wpList_mapUpdate_own _ rfl _ _ _ 52 rfl 71 3 lawPlace Tryz.underlying52 _ mv nv VM rfl HT1.out.vm (by unfold maxLen; omega) _ _ kl rfl rfl Hk.out _ [] (plainElem_int Tryz.underlying3 Hwf.out) ?_; intro w2 hown2 hg2))
    go_ret2
    exact rot_end HT1.out B1.out hne hown2 hg2
end Go.Proofs.YtdglmoikgmlaaaaGreatDoor
