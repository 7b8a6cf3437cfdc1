/- YtdglmoikgmlaaaaGreatDoorJR8 + YtdglmoikgmlaaaaGreatDoorJR9 -/
import Derived.Test.YtdglmoikgmlaaaaGreatDoorJR7
import Derived.Test.YtdglmoikgmlaaaaGreatDoorJRD
import Derived.Test.YtdglmoikgmlaaaaGreatDoorERef4
/- The reference's Seal, by contracts. (Printed by gen/jrseal.py.) -/
namespace Go.Proofs.YtdglmoikgmlaaaaGreatDoor
open Go.RowKit Go.Maps
set_option linter.unusedVariables false
set_option maxRecDepth 20000
theorem hf_rsealJ : ∀ (args : Array Value) (w : World), (callFunc 47 args).run Tryz.prog w = .ok (.enter 47 args) w := fun args w => by simp [go_sem]
noncomputable def codeRSeal (n : Nat) : Code := ((Tryz.f24.body.bind (regionAt n)).getD .skip)
set_option maxHeartbeats 4000000 in
theorem rseal_region5 {V0 W5 : World} {B g R : Nat} {root key : List UInt8} {s : TS} {gv lv : Value} {n cap : Nat} {a : Option Addr} {er : Int} {P : Value → World → Prop} {A : Act} (sz : A.tmps.size = 64) (e0 : A.eval (.tmp 0) = .pointer (some ⟨g, 0, none⟩)) (e3 : A.eval (.tmp 3) = .slice a n cap) (e12 : A.eval (.tmp 12) = .pointer (some ⟨R, 0, none⟩))
    (lk : key.length = 32) (hcv : IntKind.u64.wrap (s.n : Int) = (s.n : Int)) (hcall : Calls Tryz.prog 47 #[.agg (bvs key), .int .u64 (s.n : Int), .slice a n cap] V0 fun e w' => ∃ vv, e = .returned (.tuple #[vv, .int .i64 er]) ∧ P vv w' ∧ Below V0.heap.size V0 w') (hV0 : V0 = W5.drew) (hs0 : (fun V => RTree V B g root s gv lv ∧ V.heap[R]? = some (.cells (bvs key) 23 (0, 0))) V0) :
    (codeRSeal 5).wp Tryz.prog (fun x b V => x = .normal ∧ ∃ vv, b = (((((((((((((A.put (some 34) (.agg (bvs key))).put (some 35) (.pointer (some ⟨g, 0, none⟩))).put (some 36) (.pointer (some ⟨g, 0, none⟩))).put (some 37) (.pointer (some ⟨g, 32, none⟩))).put (some 38) (.int .i64 (s.n : Int))).put (some 39) (.int .u64 (s.n : Int))).put (some 40) (.slice a n cap)).put (some 41) (.tuple #[vv, .int .i64 er])).put (some 33) (.tuple #[vv, .int .i64 er])).put (some 42) (vv)).put (some 43) (.int .i64 er)).put (some 14) (vv)).put (some 11) (.int .i64 er)) ∧ P vv V ∧ (fun V => RTree V B g root s gv lv ∧ V.heap[R]? = some (.cells (bvs key) 23 (0, 0))) V ∧ Below V0.heap.size V0 V) A W5 := by
  have hm : Tryz.prog.follows .mixedOrders = true := by kernel_rfl
  unfold codeRSeal
  conv => arg 2; whnf
  refine wp_region_G (fun _ => false) ((fun V => RTree V B g root s gv lv ∧ V.heap[R]? = some (.cells (bvs key) 23 (0, 0)))) hm ?_
  rw [show ({ W5 with drawn := W5.drawn + 1 } : World) = V0 from hV0.symm]
  refine wpAnyG_take (i := 0) (v := .agg (bvs key)) rfl (by kernel_rfl) (by kernel_rfl) (by kernel_rfl) (fun _ _ _ h => nomatch h.1) (yieldsIf_load_mid (by simp [Region.wanted]) 23 (.tmp 12) rfl R 0 e12 (cellsOf key) _ (fun V hV => rangeJ hV.2) Tryz.underlying23 rfl (by rw [cellsOf_length, lk]; exact size_hash)) hs0 ?_
  show wpAnyG _ _ _ _ _ _ _ _ (A.put (some 34) (.agg (bvs key))) _
  refine wpAnyG_take (i := 1) (v := .pointer (some ⟨g, 0, none⟩)) rfl (by kernel_rfl) (by kernel_rfl) (by kernel_rfl) (fun _ _ _ h => nomatch h.1) (yg_mv (by simp [Region.wanted]) (.tmp 0) rfl ((ev_ne _ _ (by decide)).trans e0)) hs0 ?_
  show wpAnyG _ _ _ _ _ _ _ _ ((A.put (some 34) (.agg (bvs key))).put (some 35) (.pointer (some ⟨g, 0, none⟩))) _
  refine wpAnyG_take (i := 2) (v := .pointer (some ⟨g, 0, none⟩)) rfl (by kernel_rfl) (by kernel_rfl) (by kernel_rfl) (fun _ _ _ h => nomatch h.1) (yg_nil (by simp [Region.wanted]) (.tmp 35) rfl (ev_eq _ _ (by simp [put_sz, sz]))) hs0 ?_
  show wpAnyG _ _ _ _ _ _ _ _ (((A.put (some 34) (.agg (bvs key))).put (some 35) (.pointer (some ⟨g, 0, none⟩))).put (some 36) (.pointer (some ⟨g, 0, none⟩))) _
  refine wpAnyG_take (i := 3) (v := .pointer (some ⟨g, 32, none⟩)) rfl (by kernel_rfl) (by kernel_rfl) (by kernel_rfl) (fun _ _ _ h => nomatch h.1) (yg_fld (by simp [Region.wanted]) (.tmp 36) rfl (ev_eq _ _ (by simp [put_sz, sz])) (fun w => by simp [go_sem])) hs0 ?_
  show wpAnyG _ _ _ _ _ _ _ _ ((((A.put (some 34) (.agg (bvs key))).put (some 35) (.pointer (some ⟨g, 0, none⟩))).put (some 36) (.pointer (some ⟨g, 0, none⟩))).put (some 37) (.pointer (some ⟨g, 32, none⟩))) _
  refine wpAnyG_take (i := 4) (v := .int .i64 (s.n : Int)) rfl (by kernel_rfl) (by kernel_rfl) (by kernel_rfl) (fun _ _ _ h => nomatch h.1) (yg_ld (by simp [Region.wanted]) (.tmp 37) rfl (ev_eq _ _ (by simp [put_sz, sz])) (fun w hw => by have h1 := hw.1.c32; simp [go_sem, h1])) hs0 ?_
  show wpAnyG _ _ _ _ _ _ _ _ (((((A.put (some 34) (.agg (bvs key))).put (some 35) (.pointer (some ⟨g, 0, none⟩))).put (some 36) (.pointer (some ⟨g, 0, none⟩))).put (some 37) (.pointer (some ⟨g, 32, none⟩))).put (some 38) (.int .i64 (s.n : Int))) _
  refine wpAnyG_take (i := 5) (v := .int .u64 (s.n : Int)) rfl (by kernel_rfl) (by kernel_rfl) (by kernel_rfl) (fun _ _ _ h => nomatch h.1) (yg_cv (by simp [Region.wanted]) (.tmp 38) rfl (ev_eq _ _ (by simp [put_sz, sz])) (fun w => by simp [go_sem, hcv])) hs0 ?_
  show wpAnyG _ _ _ _ _ _ _ _ ((((((A.put (some 34) (.agg (bvs key))).put (some 35) (.pointer (some ⟨g, 0, none⟩))).put (some 36) (.pointer (some ⟨g, 0, none⟩))).put (some 37) (.pointer (some ⟨g, 32, none⟩))).put (some 38) (.int .i64 (s.n : Int))).put (some 39) (.int .u64 (s.n : Int))) _
  refine wpAnyG_take (i := 6) (v := .slice a n cap) rfl (by kernel_rfl) (by kernel_rfl) (by kernel_rfl) (fun _ _ _ h => nomatch h.1) (yg_mv (by simp [Region.wanted]) (.tmp 3) rfl ((ev_ne _ _ (by decide)).trans ((ev_ne _ _ (by decide)).trans ((ev_ne _ _ (by decide)).trans ((ev_ne _ _ (by decide)).trans ((ev_ne _ _ (by decide)).trans ((ev_ne _ _ (by decide)).trans e3))))))) hs0 ?_
  show wpAnyG _ _ _ _ _ _ _ _ (((((((A.put (some 34) (.agg (bvs key))).put (some 35) (.pointer (some ⟨g, 0, none⟩))).put (some 36) (.pointer (some ⟨g, 0, none⟩))).put (some 37) (.pointer (some ⟨g, 32, none⟩))).put (some 38) (.int .i64 (s.n : Int))).put (some 39) (.int .u64 (s.n : Int))).put (some 40) (.slice a n cap)) _
  refine wpAnyG_all (rs := [7]) (by kernel_rfl) (by simp) fun i1 hm1 => ?_
  obtain rfl : i1 = 7 := by simpa using hm1
  refine wpOp_own rfl rfl fun K1 hK1 => ?_
  refine wp_calls3J 47 hf_rsealJ (.tmp 34) (.tmp 39) (.tmp 40) _ rfl (.agg (bvs key)) (.int .u64 (s.n : Int)) (.slice a n cap) ((ev_ne _ _ (by decide)).trans ((ev_ne _ _ (by decide)).trans ((ev_ne _ _ (by decide)).trans ((ev_ne _ _ (by decide)).trans ((ev_ne _ _ (by decide)).trans ((ev_ne _ _ (by decide)).trans (ev_eq _ _ (by simp [sz])))))))) ((ev_ne _ _ (by decide)).trans (ev_eq _ _ (by simp [put_sz, sz]))) (ev_eq _ _ (by simp [put_sz, sz])) ?_
  refine (hcall).mono ?_
  rintro _ V1 ⟨vv, rfl, hP, hb1⟩
  have hs1 : RTree V1 B g root s gv lv ∧ V1.heap[R]? = some (.cells (bvs key) 23 (0, 0)) := ⟨hs0.1.below hb1, (hb1.block R (heap_lt hs0.2)).trans hs0.2⟩
  refine ⟨_, rfl, hK1 _ _ ⟨.inr hs1, ?_⟩⟩
  clear hK1 K1 hm1
  show wpAnyG _ _ _ _ _ _ _ _ ((((((((A.put (some 34) (.agg (bvs key))).put (some 35) (.pointer (some ⟨g, 0, none⟩))).put (some 36) (.pointer (some ⟨g, 0, none⟩))).put (some 37) (.pointer (some ⟨g, 32, none⟩))).put (some 38) (.int .i64 (s.n : Int))).put (some 39) (.int .u64 (s.n : Int))).put (some 40) (.slice a n cap)).put (some 41) (.tuple #[vv, .int .i64 er])) _
  refine wpAnyG_take (i := 8) (v := .tuple #[vv, .int .i64 er]) rfl (by kernel_rfl) (by kernel_rfl) (by kernel_rfl) (fun _ _ _ h => nomatch h.1) (yg_mv (by simp [Region.wanted]) (.tmp 41) rfl (ev_eq _ _ (by simp [put_sz, sz]))) hs1 ?_
  show wpAnyG _ _ _ _ _ _ _ _ (((((((((A.put (some 34) (.agg (bvs key))).put (some 35) (.pointer (some ⟨g, 0, none⟩))).put (some 36) (.pointer (some ⟨g, 0, none⟩))).put (some 37) (.pointer (some ⟨g, 32, none⟩))).put (some 38) (.int .i64 (s.n : Int))).put (some 39) (.int .u64 (s.n : Int))).put (some 40) (.slice a n cap)).put (some 41) (.tuple #[vv, .int .i64 er])).put (some 33) (.tuple #[vv, .int .i64 er])) _
  obtain ⟨Az1, hAz1⟩ : ∃ Az1, Az1 = (((((((((A.put (some 34) (.agg (bvs key))).put (some 35) (.pointer (some ⟨g, 0, none⟩))).put (some 36) (.pointer (some ⟨g, 0, none⟩))).put (some 37) (.pointer (some ⟨g, 32, none⟩))).put (some 38) (.int .i64 (s.n : Int))).put (some 39) (.int .u64 (s.n : Int))).put (some 40) (.slice a n cap)).put (some 41) (.tuple #[vv, .int .i64 er])).put (some 33) (.tuple #[vv, .int .i64 er])) := ⟨_, rfl⟩
  have szAz1 : Az1.tmps.size = 64 := by rw [hAz1]; simp [put_sz, sz]
  have eAz133 : Az1.eval (.tmp 33) = .tuple #[vv, .int .i64 er] := by rw [hAz1]; exact (ev_eq _ _ (by simp [put_sz, sz]))
  rw [← hAz1]
  refine wpAnyG_take (i := 9) (v := vv) rfl (by kernel_rfl) (by kernel_rfl) (by kernel_rfl) (fun _ _ _ h => nomatch h.1) (yg_ext (by simp [Region.wanted]) (.tmp 33) rfl eAz133 (fun w => by simp [go_sem])) hs1 ?_
  show wpAnyG _ _ _ _ _ _ _ _ (Az1.put (some 42) (vv)) _
  refine wpAnyG_take (i := 10) (v := .int .i64 er) rfl (by kernel_rfl) (by kernel_rfl) (by kernel_rfl) (fun _ _ _ h => nomatch h.1) (yg_ext (by simp [Region.wanted]) (.tmp 33) rfl ((ev_ne _ _ (by decide)).trans eAz133) (fun w => by simp [go_sem])) hs1 ?_
  show wpAnyG _ _ _ _ _ _ _ _ ((Az1.put (some 42) (vv)).put (some 43) (.int .i64 er)) _
  refine wpAnyG_take (i := 11) (v := vv) rfl (by kernel_rfl) (by kernel_rfl) (by kernel_rfl) (fun _ _ _ h => nomatch h.1) (yg_as (by simp [Region.wanted]) (.tmp 42) rfl ((ev_ne _ _ (by decide)).trans (ev_eq _ _ (by simp [szAz1])))) hs1 ?_
  show wpAnyG _ _ _ _ _ _ _ _ (((Az1.put (some 42) (vv)).put (some 43) (.int .i64 er)).put (some 14) (vv)) _
  refine wpAnyG_take (i := 12) (v := .int .i64 er) rfl (by kernel_rfl) (by kernel_rfl) (by kernel_rfl) (fun _ _ _ h => nomatch h.1) (yg_as (by simp [Region.wanted]) (.tmp 43) rfl ((ev_ne _ _ (by decide)).trans (ev_eq _ _ (by simp [put_sz, szAz1])))) hs1 ?_
  show wpAnyG _ _ _ _ _ _ _ _ ((((Az1.put (some 42) (vv)).put (some 43) (.int .i64 er)).put (some 14) (vv)).put (some 11) (.int .i64 er)) _
  refine wpAnyG_done (by kernel_rfl) ⟨rfl, vv, ?_, hP, hs1, hb1⟩ _
  show ((((Az1.put (some 42) (vv)).put (some 43) (.int .i64 er)).put (some 14) (vv)).put (some 11) (.int .i64 er)) = _
  rw [hAz1]
set_option maxHeartbeats 4000000 in
theorem rseal_long {w : World} {B g : Nat} {root : List UInt8} {s : TS} {gv lv : Value} (h : RTree w B g root s gv lv) (hB0 : B ≤ w.heap.size) (t u : ByteArray) (c : Nat) (h16 : c ≤ 200) (hk9 : s.n ≤ 1099511627776) (plain : List UInt8) (a : Option Addr) (n cap : Nat) (hn : n = plain.length) (hB : Bytes w a plain) (hl : 1024 < plain.length)
    (HC : Calls Tryz.prog 30 #[.pointer (some ⟨g, 0, none⟩), .string t, .string u] w fun e w' => e = .returned (.tuple #[.int .i64 (c : Int), .int .i64 0]) ∧ Below w.heap.size w w')
    (HKy : ∀ W, Below w.heap.size w W → Calls Tryz.prog 28 #[.pointer (some ⟨g, 0, none⟩), .string t, .string u, .int .i64 (c : Int)] W (HashErr W (derRes root [t, u, txtJ c]) 0)) :
    Calls Tryz.prog 24 #[.pointer (some ⟨g, 0, none⟩), .string t, .string u, .slice a n cap] w (fun e w' => e = .returned (.tuple #[.slice none 0 0, .int .i64 6]) ∧ Below w.heap.size w w') := by
  obtain ⟨Z, hZ⟩ : ∃ Z, Z = bvs (List.replicate 32 0) := ⟨_, rfl⟩
  have zh := (zero_of_info zero_hash).1
  rw [← hZ] at zh
  have hz : Hid (HV Z (List.replicate 32 0)) := by
    show HV _ _
    rw [hZ]; exact hv_zero
  have zh := hid zh
  have HC := hid HC
  obtain ⟨key, hkey⟩ : ∃ key, key = derRes root [t, u, txtJ c] := ⟨_, rfl⟩
  rw [← hkey] at HKy
  have HKy := hid HKy
  have H := hid h
  have HB := hid hB
  have Hn := hid hn
  have HB0 := hid hB0
  have hcv : IntKind.u64.wrap (s.n : Int) = (s.n : Int) := by rw [IntKind.wrap_u64]; omega
  have Hcv := hid hcv
  have hc8 : ((UInt8.ofNat c).toNat : Int) = (c : Int) := by
    have : (UInt8.ofNat c).toNat = c := by simp; omega
    omega
  have Hc8 := hid hc8
  obtain ⟨k, hk⟩ : ∃ k, k = s.n := ⟨_, rfl⟩
  have Hk := hid hk
  clear h hZ hkey hB hn hcv hc8 hB0 hk
  go_enter Tryz.func24, Tryz.ntmps24
  go_wp2_with (first
    | (go_at_call 30; refine HC.out.mono ?_; rintro _ w1 ⟨rfl, b1⟩; have B1 := hid b1; clear b1)
    | (go_at_call 28; refine (HKy.out w1 B1.out).mono ?_; rintro _ w2 ⟨O, rfl, hO, b2⟩; obtain rfl := hO.eq; have hlk := hid hO.len; have B2 := hid (Below.on' B1.out b2); have X2 : Hid ((w2.alloc (.cells Z 23)).heap[w2.heap.size]? = some (.cells Z 23 (0, 0))) := heap_alloc_new w2 _; have HI := hid hO.info; have HZ9 := hid (hz.out.size.trans hO.size.symm); have HO1 := hid hO.one; clear b2 hO)
    | (with_reducible show Go.wpList _ _ _ _ _ _; refine wpList_alloc_row rfl 23 rfl Z zh.out ?_)
    | (with_reducible show Go.wpList _ _ _ _ _ _; refine wpList_store_row rfl 23 _ _ rfl w2.heap.size (bvs key) rfl rfl 23 Z X2.out HI.out HZ9.out HO1.out ?_))
  obtain ⟨W3, hW3⟩ : ∃ W3, W3 = (w2.alloc (.cells Z 23)).setRow w2.heap.size (bvs key) := ⟨_, rfl⟩
  have b3 : Below w2.heap.size w2 W3 := by rw [hW3]; exact ((Below.refl _ w2).alloc (Nat.le_refl _) _).setRow (Nat.le_refl _) _
  have x3 : W3.heap[w2.heap.size]? = some (.cells (bvs key) 23 (0, 0)) := by rw [hW3]; exact setRow_heap _ _ _ _ _ _ X2.out
  rw [← hW3]
  obtain ⟨V0, hV0⟩ : ∃ V0, V0 = W3.drew := ⟨_, rfl⟩
  have b30 : Below W3.heap.size W3 V0 := by rw [hV0]; exact (Below.refl _ W3).drew
  have bw0 : Below w.heap.size w V0 := Below.on' (Below.on' B2.out b3) b30
  have hcall : Calls Tryz.prog 47 #[.agg (bvs key), .int .u64 (s.n : Int), .slice a n cap] V0 fun e w' => ∃ vv, e = .returned (.tuple #[vv, .int .i64 6]) ∧ True ∧ Below V0.heap.size V0 w' := (refSeal_long ⟨rfl, hlk.out⟩ s.n n a cap (by rw [Hn.out]; exact hl)).mono fun e w' h9 => ⟨_, h9.1, trivial, h9.2⟩
  refine wp_act _ fun A hA => ?_
  have sz : A.tmps.size = 64 := by rw [hA]; rfl
  have e0 : A.eval (.tmp 0) = .pointer (some ⟨g, 0, none⟩) := by rw [hA]; rfl
  have e3 : A.eval (.tmp 3) = .slice a n cap := by rw [hA]; rfl
  have e12 : A.eval (.tmp 12) = .pointer (some ⟨w2.heap.size, 0, none⟩) := by rw [hA]; rfl
  refine wp_split _ (rseal_region5 (P := fun _ _ => True) sz e0 e3 e12 hlk.out Hcv.out hcall hV0 ⟨H.out.below bw0, (b30.block _ (heap_lt x3)).trans x3⟩) ?_
  rintro _ V4 ⟨vv, rfl, _, ⟨hT4, _⟩, b4⟩
  rw [hA]
  simp only [Act.put, List.setIfInBounds_toArray, List.set_cons_succ, List.set_cons_zero]
  have BF := hid (Below.on' bw0 b4)
  clear sz e0 e3 e12 hA A hcall hT4 b4 bw0 b30 b3 x3 hV0 hW3
  go_wp2
  go_ret2
  exact ⟨rfl, BF.out⟩
set_option maxHeartbeats 4000000 in
theorem rseal_full {w : World} {B g : Nat} {root : List UInt8} {s : TS} {gv lv : Value} (h : RTree w B g root s gv lv) (hB0 : B ≤ w.heap.size) (t u : ByteArray) (c : Nat) (h16 : c ≤ 200) (hk9 : s.n = 1099511627776) (plain : List UInt8) (a : Option Addr) (n cap : Nat) (hn : n = plain.length) (hB : Bytes w a plain) (hl : plain.length ≤ 1024)
    (HC : Calls Tryz.prog 30 #[.pointer (some ⟨g, 0, none⟩), .string t, .string u] w fun e w' => e = .returned (.tuple #[.int .i64 (c : Int), .int .i64 0]) ∧ Below w.heap.size w w')
    (HKy : ∀ W, Below w.heap.size w W → Calls Tryz.prog 28 #[.pointer (some ⟨g, 0, none⟩), .string t, .string u, .int .i64 (c : Int)] W (HashErr W (derRes root [t, u, txtJ c]) 0)) :
    Calls Tryz.prog 24 #[.pointer (some ⟨g, 0, none⟩), .string t, .string u, .slice a n cap] w (fun e w' => e = .returned (.tuple #[.slice none 0 0, .int .i64 7]) ∧ Below w.heap.size w w') := by
  obtain ⟨Z, hZ⟩ : ∃ Z, Z = bvs (List.replicate 32 0) := ⟨_, rfl⟩
  have zh := (zero_of_info zero_hash).1
  rw [← hZ] at zh
  have hz : Hid (HV Z (List.replicate 32 0)) := by
    show HV _ _
    rw [hZ]; exact hv_zero
  have zh := hid zh
  have HC := hid HC
  obtain ⟨key, hkey⟩ : ∃ key, key = derRes root [t, u, txtJ c] := ⟨_, rfl⟩
  rw [← hkey] at HKy
  have HKy := hid HKy
  have H := hid h
  have HB := hid hB
  have Hn := hid hn
  have HB0 := hid hB0
  have hcv : IntKind.u64.wrap (s.n : Int) = (s.n : Int) := by rw [IntKind.wrap_u64]; omega
  have Hcv := hid hcv
  have hc8 : ((UInt8.ofNat c).toNat : Int) = (c : Int) := by
    have : (UInt8.ofNat c).toNat = c := by simp; omega
    omega
  have Hc8 := hid hc8
  obtain ⟨k, hk⟩ : ∃ k, k = s.n := ⟨_, rfl⟩
  have Hk := hid hk
  have g9 : decide (1099511627776 ≤ (k : Int)) = true := by simp; omega
  clear h hZ hkey hB hn hcv hc8 hB0 hk hk9
  go_enter Tryz.func24, Tryz.ntmps24
  go_wp2_with (first
    | (go_at_call 30; refine HC.out.mono ?_; rintro _ w1 ⟨rfl, b1⟩; have B1 := hid b1; clear b1)
    | (go_at_call 28; refine (HKy.out w1 B1.out).mono ?_; rintro _ w2 ⟨O, rfl, hO, b2⟩; obtain rfl := hO.eq; have hlk := hid hO.len; have B2 := hid (Below.on' B1.out b2); have X2 : Hid ((w2.alloc (.cells Z 23)).heap[w2.heap.size]? = some (.cells Z 23 (0, 0))) := heap_alloc_new w2 _; have HI := hid hO.info; have HZ9 := hid (hz.out.size.trans hO.size.symm); have HO1 := hid hO.one; clear b2 hO)
    | (with_reducible show Go.wpList _ _ _ _ _ _; refine wpList_alloc_row rfl 23 rfl Z zh.out ?_)
    | (with_reducible show Go.wpList _ _ _ _ _ _; refine wpList_store_row rfl 23 _ _ rfl w2.heap.size (bvs key) rfl rfl 23 Z X2.out HI.out HZ9.out HO1.out ?_))
  obtain ⟨W3, hW3⟩ : ∃ W3, W3 = (w2.alloc (.cells Z 23)).setRow w2.heap.size (bvs key) := ⟨_, rfl⟩
  have b3 : Below w2.heap.size w2 W3 := by rw [hW3]; exact ((Below.refl _ w2).alloc (Nat.le_refl _) _).setRow (Nat.le_refl _) _
  have x3 : W3.heap[w2.heap.size]? = some (.cells (bvs key) 23 (0, 0)) := by rw [hW3]; exact setRow_heap _ _ _ _ _ _ X2.out
  rw [← hW3]
  obtain ⟨V0, hV0⟩ : ∃ V0, V0 = W3.drew := ⟨_, rfl⟩
  have b30 : Below W3.heap.size W3 V0 := by rw [hV0]; exact (Below.refl _ W3).drew
  have bw0 : Below w.heap.size w V0 := Below.on' (Below.on' B2.out b3) b30
  have hcall : Calls Tryz.prog 47 #[.agg (bvs key), .int .u64 (s.n : Int), .slice a n cap] V0 fun e w' => ∃ vv, e = .returned (.tuple #[vv, .int .i64 0]) ∧ True ∧ Below V0.heap.size V0 w' := (refSeal_own ⟨rfl, hlk.out⟩ s.n plain a n cap Hn.out (HB.out.below bw0) hl).mono fun e w' h9 => by
    obtain ⟨a', cap', e1, h1, h2, h3⟩ := h9
    exact ⟨_, e1, trivial, h2⟩
  refine wp_act _ fun A hA => ?_
  have sz : A.tmps.size = 64 := by rw [hA]; rfl
  have e0 : A.eval (.tmp 0) = .pointer (some ⟨g, 0, none⟩) := by rw [hA]; rfl
  have e3 : A.eval (.tmp 3) = .slice a n cap := by rw [hA]; rfl
  have e12 : A.eval (.tmp 12) = .pointer (some ⟨w2.heap.size, 0, none⟩) := by rw [hA]; rfl
  refine wp_split _ (rseal_region5 (P := fun _ _ => True) sz e0 e3 e12 hlk.out Hcv.out hcall hV0 ⟨H.out.below bw0, (b30.block _ (heap_lt x3)).trans x3⟩) ?_
  rintro _ V4 ⟨vv, rfl, _, ⟨hT4, _⟩, b4⟩
  rw [hA]
  simp only [Act.put, List.setIfInBounds_toArray, List.set_cons_succ, List.set_cons_zero]
  have BF := hid (Below.on' bw0 b4)
  have c32 := hT4.c32
  rw [← Hk.out] at c32
  clear sz e0 e3 e12 hA A hcall hT4 b4 bw0 b30 b3 x3 hV0 hW3
  go_wp2
  go_ret2
  exact ⟨rfl, BF.out⟩
def RSealP (w : World) (B g : Nat) (root : List UInt8) (s : TS) (l : List UInt8) (e : Ending) (w' : World) : Prop := ∃ v, e = .returned (.tuple #[v, .int .i64 0]) ∧ w'.ownsRow w.heap.size 5 1 v l.length (cellsOf l) ∧ RT w' B g root s ∧ OutJ (RM w B g) w w'
set_option maxHeartbeats 4000000 in
theorem rseal_ok {w : World} {B g : Nat} {root : List UInt8} {s : TS} {gv lv : Value} (h : RTree w B g root s gv lv) (hB0 : B ≤ w.heap.size) (t u : ByteArray) (c : Nat) (h16 : c ≤ 200) (hk9 : s.n < 1099511627776) (plain : List UInt8) (a : Option Addr) (n cap : Nat) (hn : n = plain.length) (hB : Bytes w a plain) (hl : plain.length ≤ 1024)
    (HC : Calls Tryz.prog 30 #[.pointer (some ⟨g, 0, none⟩), .string t, .string u] w fun e w' => e = .returned (.tuple #[.int .i64 (c : Int), .int .i64 0]) ∧ Below w.heap.size w w')
    (HKy : ∀ W, Below w.heap.size w W → Calls Tryz.prog 28 #[.pointer (some ⟨g, 0, none⟩), .string t, .string u, .int .i64 (c : Int)] W (HashErr W (derRes root [t, u, txtJ c]) 0)) :
    Calls Tryz.prog 24 #[.pointer (some ⟨g, 0, none⟩), .string t, .string u, .slice a n cap] w (RSealP w B g root { s with n := s.n + 1 } (UInt8.ofNat c :: sealB (derRes root [t, u, txtJ c]) s.n plain)) := by
  obtain ⟨Z, hZ⟩ : ∃ Z, Z = bvs (List.replicate 32 0) := ⟨_, rfl⟩
  have zh := (zero_of_info zero_hash).1
  rw [← hZ] at zh
  have hz : Hid (HV Z (List.replicate 32 0)) := by
    show HV _ _
    rw [hZ]; exact hv_zero
  have zh := hid zh
  have HC := hid HC
  obtain ⟨key, hkey⟩ : ∃ key, key = derRes root [t, u, txtJ c] := ⟨_, rfl⟩
  rw [← hkey] at HKy ⊢
  have HKy := hid HKy
  have H := hid h
  have HB := hid hB
  have Hn := hid hn
  have HB0 := hid hB0
  have hcv : IntKind.u64.wrap (s.n : Int) = (s.n : Int) := by rw [IntKind.wrap_u64]; omega
  have Hcv := hid hcv
  have hc8 : ((UInt8.ofNat c).toNat : Int) = (c : Int) := by
    have : (UInt8.ofNat c).toNat = c := by simp; omega
    omega
  have Hc8 := hid hc8
  obtain ⟨k, hk⟩ : ∃ k, k = s.n := ⟨_, rfl⟩
  have Hk := hid hk
  have g9 : decide (1099511627776 ≤ (k : Int)) = false := by simp; omega
  have hk99 : k < 1099511627776 := by omega
  clear h hZ hkey hB hn hcv hc8 hB0 hk
  go_enter Tryz.func24, Tryz.ntmps24
  go_wp2_with (first
    | (go_at_call 30; refine HC.out.mono ?_; rintro _ w1 ⟨rfl, b1⟩; have B1 := hid b1; clear b1)
    | (go_at_call 28; refine (HKy.out w1 B1.out).mono ?_; rintro _ w2 ⟨O, rfl, hO, b2⟩; obtain rfl := hO.eq; have hlk := hid hO.len; have B2 := hid (Below.on' B1.out b2); have X2 : Hid ((w2.alloc (.cells Z 23)).heap[w2.heap.size]? = some (.cells Z 23 (0, 0))) := heap_alloc_new w2 _; have HI := hid hO.info; have HZ9 := hid (hz.out.size.trans hO.size.symm); have HO1 := hid hO.one; clear b2 hO)
    | (with_reducible show Go.wpList _ _ _ _ _ _; refine wpList_alloc_row rfl 23 rfl Z zh.out ?_)
    | (with_reducible show Go.wpList _ _ _ _ _ _; refine wpList_store_row rfl 23 _ _ rfl w2.heap.size (bvs key) rfl rfl 23 Z X2.out HI.out HZ9.out HO1.out ?_))
  obtain ⟨W3, hW3⟩ : ∃ W3, W3 = (w2.alloc (.cells Z 23)).setRow w2.heap.size (bvs key) := ⟨_, rfl⟩
  have b3 : Below w2.heap.size w2 W3 := by rw [hW3]; exact ((Below.refl _ w2).alloc (Nat.le_refl _) _).setRow (Nat.le_refl _) _
  have x3 : W3.heap[w2.heap.size]? = some (.cells (bvs key) 23 (0, 0)) := by rw [hW3]; exact setRow_heap _ _ _ _ _ _ X2.out
  rw [← hW3]
  obtain ⟨V0, hV0⟩ : ∃ V0, V0 = W3.drew := ⟨_, rfl⟩
  have b30 : Below W3.heap.size W3 V0 := by rw [hV0]; exact (Below.refl _ W3).drew
  have bw0 : Below w.heap.size w V0 := Below.on' (Below.on' B2.out b3) b30
  have hcall : Calls Tryz.prog 47 #[.agg (bvs key), .int .u64 (s.n : Int), .slice a n cap] V0 fun e w' => ∃ vv, e = .returned (.tuple #[vv, .int .i64 0]) ∧ (∃ a' cap', vv = .slice a' (n + 24) cap' ∧ Bytes w' a' (sealB key s.n plain) ∧ ∀ b o, a' = some ⟨b, o, none⟩ → V0.heap.size ≤ b) ∧ Below V0.heap.size V0 w' := (refSeal_own ⟨rfl, hlk.out⟩ s.n plain a n cap Hn.out (HB.out.below bw0) hl).mono fun e w' h9 => by
    obtain ⟨a', cap', e1, h1, h2, h3⟩ := h9
    exact ⟨_, e1, ⟨a', cap', rfl, h1, h3⟩, h2⟩
  refine wp_act _ fun A hA => ?_
  have sz : A.tmps.size = 64 := by rw [hA]; rfl
  have e0 : A.eval (.tmp 0) = .pointer (some ⟨g, 0, none⟩) := by rw [hA]; rfl
  have e3 : A.eval (.tmp 3) = .slice a n cap := by rw [hA]; rfl
  have e12 : A.eval (.tmp 12) = .pointer (some ⟨w2.heap.size, 0, none⟩) := by rw [hA]; rfl
  refine wp_split _ (rseal_region5 (P := fun vv w' => ∃ a' cap', vv = .slice a' (n + 24) cap' ∧ Bytes w' a' (sealB key s.n plain) ∧ ∀ b o, a' = some ⟨b, o, none⟩ → V0.heap.size ≤ b) sz e0 e3 e12 hlk.out Hcv.out hcall hV0 ⟨H.out.below bw0, (b30.block _ (heap_lt x3)).trans x3⟩) ?_
  rintro _ V4 ⟨vv, rfl, ⟨a4, cs, rfl, hBs, hfr⟩, ⟨hT4, _⟩, b4⟩
  rw [hA]
  simp only [Act.put, List.setIfInBounds_toArray, List.set_cons_succ, List.set_cons_zero]
  have ls : (sealB key s.n plain).length = n + 24 := by rw [sealB_len, Hn.out]
  obtain ⟨gs, os, rfl⟩ : ∃ gs os, a4 = some ⟨gs, os, none⟩ := by
    obtain ⟨b9, o9, e9, _⟩ := hBs 0 (by omega)
    exact ⟨b9, o9, e9⟩
  have hfr := hfr gs os rfl
  have c32 := hT4.c32
  rw [← Hk.out] at c32
  have f32 := hT4.fz 32
  have bw4 := Below.on' bw0 b4
  obtain ⟨V5, hV5⟩ : ∃ V5, V5 = V4.setCell ⟨g, 32, none⟩ (.int .i64 ((k + 1 : Nat) : Int)) := ⟨_, rfl⟩
  have hT5 := hT4.setN (k + 1)
  rw [← hV5] at hT5
  have hgl := H.out.lt
  have hgs4 : gs ≠ g := by have := bw0.size; omega
  have hB5 : Bytes V5 (some ⟨gs, os, none⟩) (sealB key s.n plain) := fun i hi => by
    obtain ⟨b9, o9, e9, hc9⟩ := hBs i hi
    cases e9
    refine ⟨gs, os, rfl, ?_⟩
    rw [hV5]
    have : (V4.setCell ⟨g, 32, none⟩ (.int .i64 ((k + 1 : Nat) : Int))).heap[gs]? = V4.heap[gs]? := heap_setCell_other _ _ _ _ hgs4
    unfold World.cell? at hc9 ⊢
    rw [this]
    exact hc9
  have hs5 : V5.heap.size = V4.heap.size := by rw [hV5]; simp [World.setCell]
  have O5 : Hid (OutJ (RM w B g) w V5) := (OutJ.of_below bw4).trans (by rw [hV5]; exact OutJ.setCell V4 ⟨g, 32, none⟩ _ ⟨H.out.bg, .inl rfl⟩)
  have HT5 := hid hT5
  have HB5 := hid hB5
  have HV5 := hid hV5
  have Hls := hid ls
  have hsw : w.heap.size ≤ V5.heap.size := O5.out.size
  have hka : ((k : Int) + 1) = ((k + 1 : Nat) : Int) := by omega
  have Hka := hid hka
  have hlit := own_lit1 V5 w.heap.size hsw (UInt8.ofNat c)
  rw [hs5] at hlit
  have HLit := hid hlit
  clear hlit
  have hl9 : n ≤ 1024 := by rw [Hn.out]; exact hl
  clear sz e0 e3 e12 hA A hcall hT4 b4 bw4 bw0 b30 b3 x3 hV0 hW3 hBs hT5 hB5 hV5 hka ls hfr
  go_wp2_with (first
    | (at_builtin; rw [Hka.out, ← HV5.out, ← Hc8.out]; refine app_srcG _ rfl (.tmp 61) (.tmp 62) rfl w.heap.size _ [UInt8.ofNat c] rfl HLit.out (some ⟨gs, os, none⟩) (n + 24) cs (sealB key s.n plain) Hls.out.symm rfl (HB5.out.below ((Below.refl _ V5).alloc (Nat.le_refl _) _)) (fun e => by cases e) (by rw [Hls.out]; simp; omega) (by simp; omega) ?_; intro v6 W6 hown6 hg6))
  go_ret2
  have hg7 : (V5.alloc (.cells #[.int .u8 ((UInt8.ofNat c).toNat : Int)] 5)).grownBy W6 (some V4.heap.size) := hg6
  have bA := (Below.refl _ V5).alloc (Nat.le_refl _) (.cells #[.int .u8 ((UInt8.ofNat c).toNat : Int)] 5)
  have b7 : Below V5.heap.size V5 W6 := ⟨hg7.os.trans bA.os, hg7.tape.trans bA.tape, hg7.output.trans bA.output, Nat.le_trans bA.size hg7.size, fun j hj => (hg7.block j (Nat.lt_of_lt_of_le hj bA.size) (fun e => by have := Option.some.inj e; omega)).trans (bA.block j hj)⟩
  have hz9 := HT5.out.below b7
  rw [Hk.out] at hz9
  exact ⟨v6, rfl, hown6, ⟨gv, lv, hz9⟩, O5.out.trans (OutJ.of_below b7)⟩
set_option maxHeartbeats 1000000 in
theorem rseal_err {w : World} {g : Nat} (t u : ByteArray) (v : Value) (z c : Int) (hc : c ≠ 0) (H : Calls Tryz.prog 30 #[.pointer (some ⟨g, 0, none⟩), .string t, .string u] w fun e w' => e = .returned (.tuple #[.int .i64 z, .int .i64 c]) ∧ Below w.heap.size w w') :
    Calls Tryz.prog 24 #[.pointer (some ⟨g, 0, none⟩), .string t, .string u, v] w fun e w' => e = .returned (.tuple #[.slice none 0 0, .int .i64 c]) ∧ Below w.heap.size w w' := by
  have q0 : (c != 0) = true := by simpa using hc
  go_enter Tryz.func24, Tryz.ntmps24
  go_wp2_with (go_at_call 30; refine H.mono ?_; rintro _ w1 ⟨rfl, b1⟩)
  go_ret2
  exact ⟨rfl, b1⟩
theorem rSeal_any {w : World} {B g : Nat} {root : List UInt8} {s : TS} (h : RT w B g root s) (ok : s.Ok) (hB0 : B ≤ w.heap.size) (hsn : s.n ≤ 1099511627776) (t u : ByteArray) (ht : t.size ≤ maxLen) (hu : u.size ≤ maxLen) (plain : List UInt8) (a : Option Addr) (n cap : Nat) (hn : n = plain.length) (hB : Bytes w a plain) :
    Calls Tryz.prog 24 #[.pointer (some ⟨g, 0, none⟩), .string t, .string u, .slice a n cap] w fun e w' => ∃ v, e = .returned (.tuple #[v, .int .i64 ((s.sealR root t u plain).2.2 : Int)]) ∧ w'.ownsRow w.heap.size 5 1 v (s.sealR root t u plain).2.1.length (cellsOf (s.sealR root t u plain).2.1) ∧ RT w' B g root (s.sealR root t u plain).1 ∧ OutJ (RM w B g) w w' := by
  have h0 := h
  obtain ⟨gv, lv, h⟩ := h
  have hf := ok.few
  have hgf := ok.gfew
  have HC := rCurrent_any h (by omega) (by omega) t u ht hu
  unfold TS.sealR
  by_cases he : (s.cur t u).2 ≠ 0
  · rw [if_pos he]
    refine (rseal_err t u _ _ _ (by omega) HC).mono fun e w' h9 => ?_
    exact ⟨_, h9.1, nilJ _ _, h0.below h9.2, OutJ.of_below h9.2⟩
  · rw [if_neg he]
    have he0 : (s.cur t u).2 = 0 := by omega
    obtain ⟨n1, n2, hg, hc⟩ := cur_ok he0
    obtain ⟨v1, v2⟩ := verOf_ok ok t u
    have hke := keyErr_ok n1 n2 v2
    have HK : ∀ W, Below w.heap.size w W → Calls Tryz.prog 28 #[.pointer (some ⟨g, 0, none⟩), .string t, .string u, .int .i64 ((s.cur t u).1 : Int)] W (HashErr W (derRes root [t, u, txtJ (s.cur t u).1]) 0) := fun W hW => by
      have := rKey_any (h0.below hW) ok t u ht hu ((s.cur t u).1 : Int)
      have e : s.keyR root t u ((s.cur t u).1 : Int) = (derRes root [t, u, txtJ (s.cur t u).1], 0) := by
        unfold TS.keyR
        rw [if_neg he, if_neg (by omega)]
        rfl
      rw [e] at this
      exact this
    rw [he0] at HC
    by_cases hl : 1024 < plain.length
    · rw [if_pos hl]
      refine (rseal_long h hB0 t u _ (by omega) hsn plain a n cap hn hB hl HC HK).mono fun e w' h9 => ?_
      exact ⟨_, h9.1, nilJ _ _, h0.below h9.2, OutJ.of_below h9.2⟩
    · rw [if_neg hl]
      by_cases hf : s.n = 1099511627776
      · rw [if_pos hf]
        refine (rseal_full h hB0 t u _ (by omega) hf plain a n cap hn hB (by omega) HC HK).mono fun e w' h9 => ?_
        exact ⟨_, h9.1, nilJ _ _, h0.below h9.2, OutJ.of_below h9.2⟩
      rw [if_neg hf]
      exact rseal_ok h hB0 t u _ (by omega) (by omega) plain a n cap hn hB (by omega) HC HK
end Go.Proofs.YtdglmoikgmlaaaaGreatDoor
/- The reference's Open, by contracts. (Printed by gen/jropen.py.) -/
namespace Go.Proofs.YtdglmoikgmlaaaaGreatDoor
open Go.RowKit Go.Maps
set_option linter.unusedVariables false
set_option maxRecDepth 20000
theorem hf_ropenJ : ∀ (args : Array Value) (w : World), (callFunc 48 args).run Tryz.prog w = .ok (.enter 48 args) w := fun args w => by simp [go_sem]
noncomputable def codeROpen (n : Nat) : Code := ((Tryz.f25.body.bind (regionAt n)).getD .skip)
set_option maxHeartbeats 4000000 in
theorem ropen_region9 {V0 W5 : World} {R gs m cap k oo : Nat} {key : List UInt8} {er : Int} {P : Value → World → Prop} {A : Act} (sz : A.tmps.size = 60) (e3 : A.eval (.tmp 3) = .slice (some ⟨gs, 0, none⟩) m cap) (e13 : A.eval (.tmp 13) = .pointer (some ⟨R, 0, none⟩))
    (lk : key.length = 32) (h1m : 1 ≤ m) (hoo : oo = if 1 < cap then 1 else 0) (hmc : m ≤ cap) (hcall : Calls Tryz.prog 48 #[.agg (bvs key), .slice (some ⟨gs, oo, none⟩) (m - 1) (cap - 1)] V0 fun e w' => ∃ vv, e = .returned (.tuple #[vv, .int .u64 (k : Int), .int .i64 er]) ∧ P vv w' ∧ Below V0.heap.size V0 w') (hV0 : V0 = W5.drew) (hs0 : (fun V => V.heap[R]? = some (.cells (bvs key) 23 (0, 0))) V0) :
    (codeROpen 9).wp Tryz.prog (fun x b V => x = .normal ∧ ∃ vv, b = (((((((((((A.put (some 45) (.agg (bvs key))).put (some 46) (.slice (some ⟨gs, 0, none⟩) m cap)).put (some 47) (.slice (some ⟨gs, oo, none⟩) (m - 1) (cap - 1))).put (some 48) (.tuple #[vv, .int .u64 (k : Int), .int .i64 er])).put (some 44) (.tuple #[vv, .int .u64 (k : Int), .int .i64 er])).put (some 49) (vv)).put (some 50) (.int .u64 (k : Int))).put (some 51) (.int .i64 er)).put (some 15) (vv)).put (some 16) (.int .u64 (k : Int))).put (some 14) (.int .i64 er)) ∧ P vv V ∧ Below V0.heap.size V0 V) A W5 := by
  have hm : Tryz.prog.follows .mixedOrders = true := by kernel_rfl
  unfold codeROpen
  conv => arg 2; whnf
  refine wp_region_G (fun _ => false) ((fun V => V.heap[R]? = some (.cells (bvs key) 23 (0, 0)))) hm ?_
  rw [show ({ W5 with drawn := W5.drawn + 1 } : World) = V0 from hV0.symm]
  refine wpAnyG_take (i := 0) (v := .agg (bvs key)) rfl (by kernel_rfl) (by kernel_rfl) (by kernel_rfl) (fun _ _ _ h => nomatch h.1) (yieldsIf_load_mid (by simp [Region.wanted]) 23 (.tmp 13) rfl R 0 e13 (cellsOf key) _ (fun V hV => rangeJ hV) Tryz.underlying23 rfl (by rw [cellsOf_length, lk]; exact size_hash)) hs0 ?_
  show wpAnyG _ _ _ _ _ _ _ _ (A.put (some 45) (.agg (bvs key))) _
  refine wpAnyG_take (i := 1) (v := .slice (some ⟨gs, 0, none⟩) m cap) rfl (by kernel_rfl) (by kernel_rfl) (by kernel_rfl) (fun _ _ _ h => nomatch h.1) (yg_mv (by simp [Region.wanted]) (.tmp 3) rfl ((ev_ne _ _ (by decide)).trans e3)) hs0 ?_
  show wpAnyG _ _ _ _ _ _ _ _ ((A.put (some 45) (.agg (bvs key))).put (some 46) (.slice (some ⟨gs, 0, none⟩) m cap)) _
  refine wpAnyG_take (i := 2) (v := .slice (some ⟨gs, oo, none⟩) (m - 1) (cap - 1)) rfl (by kernel_rfl) (by kernel_rfl) (by kernel_rfl) (fun _ _ _ h => nomatch h.1) (y_slice1 (by simp [Region.wanted]) (.tmp 46) rfl gs m cap h1m oo hoo hmc (ev_eq _ _ (by simp [put_sz, sz]))) hs0 ?_
  show wpAnyG _ _ _ _ _ _ _ _ (((A.put (some 45) (.agg (bvs key))).put (some 46) (.slice (some ⟨gs, 0, none⟩) m cap)).put (some 47) (.slice (some ⟨gs, oo, none⟩) (m - 1) (cap - 1))) _
  refine wpAnyG_all (rs := [3]) (by kernel_rfl) (by simp) fun i1 hm1 => ?_
  obtain rfl : i1 = 3 := by simpa using hm1
  refine wpOp_own rfl rfl fun K1 hK1 => ?_
  refine wp_calls2 48 hf_ropenJ (.tmp 45) (.tmp 47) _ rfl (.agg (bvs key)) (.slice (some ⟨gs, oo, none⟩) (m - 1) (cap - 1)) ((ev_ne _ _ (by decide)).trans ((ev_ne _ _ (by decide)).trans (ev_eq _ _ (by simp [sz])))) (ev_eq _ _ (by simp [put_sz, sz])) ?_
  refine (hcall).mono ?_
  rintro _ V1 ⟨vv, rfl, hP, hb1⟩
  have hs1 := (hb1.block R (heap_lt hs0)).trans hs0
  refine ⟨_, rfl, hK1 _ _ ⟨.inr hs1, ?_⟩⟩
  clear hK1 K1 hm1
  show wpAnyG _ _ _ _ _ _ _ _ ((((A.put (some 45) (.agg (bvs key))).put (some 46) (.slice (some ⟨gs, 0, none⟩) m cap)).put (some 47) (.slice (some ⟨gs, oo, none⟩) (m - 1) (cap - 1))).put (some 48) (.tuple #[vv, .int .u64 (k : Int), .int .i64 er])) _
  refine wpAnyG_take (i := 4) (v := .tuple #[vv, .int .u64 (k : Int), .int .i64 er]) rfl (by kernel_rfl) (by kernel_rfl) (by kernel_rfl) (fun _ _ _ h => nomatch h.1) (yg_mv (by simp [Region.wanted]) (.tmp 48) rfl (ev_eq _ _ (by simp [put_sz, sz]))) hs1 ?_
  show wpAnyG _ _ _ _ _ _ _ _ (((((A.put (some 45) (.agg (bvs key))).put (some 46) (.slice (some ⟨gs, 0, none⟩) m cap)).put (some 47) (.slice (some ⟨gs, oo, none⟩) (m - 1) (cap - 1))).put (some 48) (.tuple #[vv, .int .u64 (k : Int), .int .i64 er])).put (some 44) (.tuple #[vv, .int .u64 (k : Int), .int .i64 er])) _
  refine wpAnyG_take (i := 5) (v := vv) rfl (by kernel_rfl) (by kernel_rfl) (by kernel_rfl) (fun _ _ _ h => nomatch h.1) (yg_ext (by simp [Region.wanted]) (.tmp 44) rfl (ev_eq _ _ (by simp [put_sz, sz])) (fun w => by simp [go_sem])) hs1 ?_
  show wpAnyG _ _ _ _ _ _ _ _ ((((((A.put (some 45) (.agg (bvs key))).put (some 46) (.slice (some ⟨gs, 0, none⟩) m cap)).put (some 47) (.slice (some ⟨gs, oo, none⟩) (m - 1) (cap - 1))).put (some 48) (.tuple #[vv, .int .u64 (k : Int), .int .i64 er])).put (some 44) (.tuple #[vv, .int .u64 (k : Int), .int .i64 er])).put (some 49) (vv)) _
  refine wpAnyG_take (i := 6) (v := .int .u64 (k : Int)) rfl (by kernel_rfl) (by kernel_rfl) (by kernel_rfl) (fun _ _ _ h => nomatch h.1) (yg_ext (by simp [Region.wanted]) (.tmp 44) rfl ((ev_ne _ _ (by decide)).trans (ev_eq _ _ (by simp [put_sz, sz]))) (fun w => by simp [go_sem])) hs1 ?_
  show wpAnyG _ _ _ _ _ _ _ _ (((((((A.put (some 45) (.agg (bvs key))).put (some 46) (.slice (some ⟨gs, 0, none⟩) m cap)).put (some 47) (.slice (some ⟨gs, oo, none⟩) (m - 1) (cap - 1))).put (some 48) (.tuple #[vv, .int .u64 (k : Int), .int .i64 er])).put (some 44) (.tuple #[vv, .int .u64 (k : Int), .int .i64 er])).put (some 49) (vv)).put (some 50) (.int .u64 (k : Int))) _
  refine wpAnyG_take (i := 7) (v := .int .i64 er) rfl (by kernel_rfl) (by kernel_rfl) (by kernel_rfl) (fun _ _ _ h => nomatch h.1) (yg_ext (by simp [Region.wanted]) (.tmp 44) rfl ((ev_ne _ _ (by decide)).trans ((ev_ne _ _ (by decide)).trans (ev_eq _ _ (by simp [put_sz, sz])))) (fun w => by simp [go_sem])) hs1 ?_
  show wpAnyG _ _ _ _ _ _ _ _ ((((((((A.put (some 45) (.agg (bvs key))).put (some 46) (.slice (some ⟨gs, 0, none⟩) m cap)).put (some 47) (.slice (some ⟨gs, oo, none⟩) (m - 1) (cap - 1))).put (some 48) (.tuple #[vv, .int .u64 (k : Int), .int .i64 er])).put (some 44) (.tuple #[vv, .int .u64 (k : Int), .int .i64 er])).put (some 49) (vv)).put (some 50) (.int .u64 (k : Int))).put (some 51) (.int .i64 er)) _
  refine wpAnyG_take (i := 8) (v := vv) rfl (by kernel_rfl) (by kernel_rfl) (by kernel_rfl) (fun _ _ _ h => nomatch h.1) (yg_as (by simp [Region.wanted]) (.tmp 49) rfl ((ev_ne _ _ (by decide)).trans ((ev_ne _ _ (by decide)).trans (ev_eq _ _ (by simp [put_sz, sz]))))) hs1 ?_
  show wpAnyG _ _ _ _ _ _ _ _ (((((((((A.put (some 45) (.agg (bvs key))).put (some 46) (.slice (some ⟨gs, 0, none⟩) m cap)).put (some 47) (.slice (some ⟨gs, oo, none⟩) (m - 1) (cap - 1))).put (some 48) (.tuple #[vv, .int .u64 (k : Int), .int .i64 er])).put (some 44) (.tuple #[vv, .int .u64 (k : Int), .int .i64 er])).put (some 49) (vv)).put (some 50) (.int .u64 (k : Int))).put (some 51) (.int .i64 er)).put (some 15) (vv)) _
  obtain ⟨Az1, hAz1⟩ : ∃ Az1, Az1 = (((((((((A.put (some 45) (.agg (bvs key))).put (some 46) (.slice (some ⟨gs, 0, none⟩) m cap)).put (some 47) (.slice (some ⟨gs, oo, none⟩) (m - 1) (cap - 1))).put (some 48) (.tuple #[vv, .int .u64 (k : Int), .int .i64 er])).put (some 44) (.tuple #[vv, .int .u64 (k : Int), .int .i64 er])).put (some 49) (vv)).put (some 50) (.int .u64 (k : Int))).put (some 51) (.int .i64 er)).put (some 15) (vv)) := ⟨_, rfl⟩
  have szAz1 : Az1.tmps.size = 60 := by rw [hAz1]; simp [put_sz, sz]
  have eAz150 : Az1.eval (.tmp 50) = .int .u64 (k : Int) := by rw [hAz1]; exact ((ev_ne _ _ (by decide)).trans ((ev_ne _ _ (by decide)).trans (ev_eq _ _ (by simp [put_sz, sz]))))
  have eAz151 : Az1.eval (.tmp 51) = .int .i64 er := by rw [hAz1]; exact ((ev_ne _ _ (by decide)).trans (ev_eq _ _ (by simp [put_sz, sz])))
  rw [← hAz1]
  refine wpAnyG_take (i := 9) (v := .int .u64 (k : Int)) rfl (by kernel_rfl) (by kernel_rfl) (by kernel_rfl) (fun _ _ _ h => nomatch h.1) (yg_as (by simp [Region.wanted]) (.tmp 50) rfl eAz150) hs1 ?_
  show wpAnyG _ _ _ _ _ _ _ _ (Az1.put (some 16) (.int .u64 (k : Int))) _
  refine wpAnyG_take (i := 10) (v := .int .i64 er) rfl (by kernel_rfl) (by kernel_rfl) (by kernel_rfl) (fun _ _ _ h => nomatch h.1) (yg_as (by simp [Region.wanted]) (.tmp 51) rfl ((ev_ne _ _ (by decide)).trans eAz151)) hs1 ?_
  show wpAnyG _ _ _ _ _ _ _ _ ((Az1.put (some 16) (.int .u64 (k : Int))).put (some 14) (.int .i64 er)) _
  refine wpAnyG_done (by kernel_rfl) ⟨rfl, vv, ?_, hP, hb1⟩ _
  show ((Az1.put (some 16) (.int .u64 (k : Int))).put (some 14) (.int .i64 er)) = _
  rw [hAz1]
def Lies (w : World) (v : Value) (l : List UInt8) : Prop := ∃ a c, v = .slice a l.length c ∧ Bytes w a l
theorem lies_nil (w : World) : Lies w (.slice none 0 0) [] := ⟨none, 0, rfl, fun i hi => by simp at hi⟩
theorem Lies.below {w w' : World} {v : Value} {l : List UInt8} (h : Lies w v l) (hb : Below w.heap.size w w') : Lies w' v l := by
  obtain ⟨a, c, e, h⟩ := h
  exact ⟨a, c, e, h.below hb⟩
theorem rOpenS_any {w : World} {K : Array Value} {key : List UInt8} (hK : HV K key) (S : List UInt8) (ab ao n cap : Nat) (hn : n = S.length) (hB : Bytes w (some ⟨ab, ao, none⟩) S) (hcap : n ≤ cap) : ∃ nu : Nat,
    Calls Tryz.prog 48 #[.agg K, .slice (some ⟨ab, ao, none⟩) n cap] w fun e w' => ∃ vv, e = .returned (.tuple #[vv, .int .u64 (nu : Int), .int .i64 ((openS key S).2 : Int)]) ∧ Lies w' vv (openS key S).1 ∧ Below w.heap.size w w' := by
  unfold openS
  by_cases h1 : S.length < 24
  · rw [if_pos h1]
    refine ⟨0, (refOpen_bad hK _ n cap (by omega)).mono fun e w' h => ⟨_, ?_, lies_nil _, h.2⟩⟩
    rw [h.1, if_pos (by omega)]
    rfl
  · rw [if_neg h1]
    by_cases h2 : 1048 < S.length
    · rw [if_pos h2]
      refine ⟨0, (refOpen_bad hK _ n cap (by omega)).mono fun e w' h => ⟨_, ?_, lies_nil _, h.2⟩⟩
      rw [h.1, if_neg (by omega)]
      rfl
    · rw [if_neg h2]
      by_cases h3 : S.drop (S.length - 16) = tagB key (S.take (S.length - 16))
      · rw [if_pos h3]
        refine ⟨numB (S.take 8), (refOpen_right hK S ab ao n cap hn hB (by omega) (by omega) hcap (by rw [hn]; exact h3)).mono fun e w' h => ?_⟩
        obtain ⟨a, c, he, hb, hbel⟩ := h
        rw [hn] at he hb
        refine ⟨_, he, ⟨a, c, ?_, hb⟩, hbel⟩
        rw [cross_len, List.length_drop, List.length_take]
        congr 1
        omega
      · rw [if_neg h3]
        refine ⟨0, (refOpen_wrong hK S ab ao n cap hn hB (by omega) (by omega) hcap (by rw [hn]; exact h3)).mono fun e w' h => ?_⟩
        exact ⟨_, h.1, lies_nil _, h.2⟩
def ROpP (w : World) (r : List UInt8 × (Nat × Nat)) (e : Ending) (w' : World) : Prop := ∃ v, e = .returned (.tuple #[v, .int .i64 (r.2.1 : Int), .int .i64 (r.2.2 : Int)]) ∧ Lies w' v r.1 ∧ Below w.heap.size w w'
set_option maxHeartbeats 4000000 in
theorem ropen_gen {w : World} {g : Nat} (t u : ByteArray) (z : Int) (v : Nat) (hv : v ≤ 255) (key : List UInt8) (S : List UInt8) (gs m cap : Nat) (hm : m = S.length + 1) (hm9 : m ≤ 140737488351232) (hmc : m ≤ cap) (hB : Bytes w (some ⟨gs, 0, none⟩) (UInt8.ofNat v :: S)) (HC : Calls Tryz.prog 30 #[.pointer (some ⟨g, 0, none⟩), .string t, .string u] w fun e w' => e = .returned (.tuple #[.int .i64 z, .int .i64 0]) ∧ Below w.heap.size w w')
    (HKy : ∀ W, Below w.heap.size w W → Calls Tryz.prog 28 #[.pointer (some ⟨g, 0, none⟩), .string t, .string u, .int .i64 (v : Int)] W (HashErr W key 0)) :
    Calls Tryz.prog 25 #[.pointer (some ⟨g, 0, none⟩), .string t, .string u, .slice (some ⟨gs, 0, none⟩) m cap] w (ROpP w ((openS key S).1, (if (openS key S).2 = 0 then v else 0, (openS key S).2))) := by
  obtain ⟨Z, hZ⟩ : ∃ Z, Z = bvs (List.replicate 32 0) := ⟨_, rfl⟩
  have zh := (zero_of_info zero_hash).1
  rw [← hZ] at zh
  have hz : Hid (HV Z (List.replicate 32 0)) := by
    show HV _ _
    rw [hZ]; exact hv_zero
  have zh := hid zh
  have HC := hid HC
  have HKy := hid HKy
  have hv8 : ((UInt8.ofNat v).toNat : Int) = (v : Int) := by
    have : (UInt8.ofNat v).toNat = v := by simp; omega
    omega
  have q0 : w.cell? ⟨gs, 0, none⟩ = some (.int .u8 (v : Int)) := by
    obtain ⟨b9, o9, e9, hc9⟩ := hB 0 (by simp)
    cases e9
    rw [← hv8]
    exact hc9
  have hB1 : Bytes w (some ⟨gs, 1, none⟩) S := fun i hi => by
    obtain ⟨b9, o9, e9, hc9⟩ := hB (i + 1) (by simp; omega)
    cases e9
    refine ⟨gs, 1, rfl, ?_⟩
    rw [show 1 + i = 0 + (i + 1) by omega]
    exact hc9
  obtain ⟨oo, hoo⟩ : ∃ oo, oo = if 1 < cap then 1 else 0 := ⟨_, rfl⟩
  have hB1 : Bytes w (some ⟨gs, oo, none⟩) S := by
    by_cases hc : 1 < cap
    · rw [hoo, if_pos hc]; exact hB1
    · intro i hi; omega
  have HB1 := hid hB1
  have Hoo := hid hoo
  clear hoo
  have Q0 := hid q0
  have gm0 : ((m : Int) == 0) = false := by simp; omega
  have hm0 : 0 < m := by omega
  have Hm := hid hm
  have Hm9 := hid hm9
  obtain ⟨er, her⟩ : ∃ er, er = (openS key S).2 := ⟨_, rfl⟩
  obtain ⟨pl, hpl⟩ : ∃ pl, pl = (openS key S).1 := ⟨_, rfl⟩
  have Her := hid her
  have Hpl := hid hpl
  rw [← her, ← hpl]
  obtain ⟨RR, hRR⟩ : ∃ RR, RR = (pl, ((if er = 0 then v else 0 : Nat), er)) := ⟨_, rfl⟩
  have HRR := hid hRR
  rw [← hRR]
  clear hRR
  clear hm hZ hB hB1 hv8 q0 her hpl hm9
  go_enter Tryz.func25, Tryz.ntmps25
  go_wp2_with (first
    | (go_at_call 30; refine HC.out.mono ?_; rintro _ w1 ⟨rfl, b1⟩; have B1 := hid b1; have q1 := (b1.cell (World.block_lt_of_cell? _ _ Q0.out)).trans Q0.out; clear b1)
    | (go_at_call 28; refine (HKy.out w1 B1.out).mono ?_; rintro _ w2 ⟨O, rfl, hO, b2⟩; obtain rfl := hO.eq; have hlk := hid hO.len; have B2 := hid (Below.on' B1.out b2); have X2 : Hid ((w2.alloc (.cells Z 23)).heap[w2.heap.size]? = some (.cells Z 23 (0, 0))) := heap_alloc_new w2 _; have HI := hid hO.info; have HZ9 := hid (hz.out.size.trans hO.size.symm); have HO1 := hid hO.one; clear b2 hO)
    | (with_reducible show Go.wpList _ _ _ _ _ _; refine wpList_alloc_row rfl 23 rfl Z zh.out ?_)
    | (with_reducible show Go.wpList _ _ _ _ _ _; refine wpList_store_row rfl 23 _ _ rfl w2.heap.size (bvs key) rfl rfl 23 Z X2.out HI.out HZ9.out HO1.out ?_))
  obtain ⟨W3, hW3⟩ : ∃ W3, W3 = (w2.alloc (.cells Z 23)).setRow w2.heap.size (bvs key) := ⟨_, rfl⟩
  have b3 : Below w2.heap.size w2 W3 := by rw [hW3]; exact ((Below.refl _ w2).alloc (Nat.le_refl _) _).setRow (Nat.le_refl _) _
  have x3 : W3.heap[w2.heap.size]? = some (.cells (bvs key) 23 (0, 0)) := by rw [hW3]; exact setRow_heap _ _ _ _ _ _ X2.out
  rw [← hW3]
  obtain ⟨V0, hV0⟩ : ∃ V0, V0 = W3.drew := ⟨_, rfl⟩
  have b30 : Below W3.heap.size W3 V0 := by rw [hV0]; exact (Below.refl _ W3).drew
  have bw0 : Below w.heap.size w V0 := Below.on' (Below.on' B2.out b3) b30
  obtain ⟨nu, hcall⟩ := rOpenS_any (w := V0) (K := bvs key) (key := key) ⟨rfl, hlk.out⟩ S gs oo (m - 1) (cap - 1) (by have := Hm.out; omega) (HB1.out.below bw0) (by omega)
  rw [← Her.out, ← Hpl.out] at hcall
  refine wp_act _ fun A hA => ?_
  have sz : A.tmps.size = 60 := by rw [hA]; rfl
  have e3 : A.eval (.tmp 3) = .slice (some ⟨gs, 0, none⟩) m cap := by rw [hA]; rfl
  have e13 : A.eval (.tmp 13) = .pointer (some ⟨w2.heap.size, 0, none⟩) := by rw [hA]; rfl
  refine wp_split _ (ropen_region9 (P := fun vv w' => Lies w' vv pl) sz e3 e13 hlk.out (by omega) Hoo.out (by omega) hcall hV0 ((b30.block _ (heap_lt x3)).trans x3)) ?_
  rintro _ V4 ⟨vv, rfl, hown, b4⟩
  rw [hA]
  simp only [Act.put, List.setIfInBounds_toArray, List.set_cons_succ, List.set_cons_zero]
  have HOwn := hid hown
  have BF := hid (Below.on' bw0 b4)
  clear sz e3 e13 hA A hcall hown b4 bw0 b30 b3 x3 hV0 hW3
  have q4 := (BF.out.cell (World.block_lt_of_cell? _ _ Q0.out)).trans Q0.out
  have q5 : V4.drew.cell? ⟨gs, 0, none⟩ = some (.int .u8 (v : Int)) := q4
  by_cases h0 : er = 0
  · have Hv0 : Hid (RR = (pl, (v, 0))) := HRR.out.trans (by rw [if_pos h0, h0])
    subst h0
    go_wp2
    go_quiet (fail)
    go_wp2
    go_ret3
    rw [Hv0.out]
    exact ⟨vv, rfl, HOwn.out.below (below_drewN _ _ _), BF.out.trans (below_drewN _ _ _)⟩
  · have q9 : ((er : Int) != 0) = true := by simp; omega
    have hnil : Hid (RR = ([], (0, er))) := by
      show RR = _
      rw [HRR.out, if_neg h0, Hpl.out, openS_err (by rw [← Her.out]; exact h0)]
    clear h0
    go_wp2
    go_ret3
    rw [hnil.out]
    exact ⟨_, rfl, lies_nil _, BF.out⟩
end Go.Proofs.YtdglmoikgmlaaaaGreatDoor
