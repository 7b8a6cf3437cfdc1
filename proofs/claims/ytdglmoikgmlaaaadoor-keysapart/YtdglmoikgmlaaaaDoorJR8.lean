/- The reference's Seal, by contracts. (Printed by gen/jrseal.py.) -/
import Derived.Test.YtdglmoikgmlaaaaDoorJR7
import Derived.Test.YtdglmoikgmlaaaaDoorJRD
import Derived.Test.YtdglmoikgmlaaaaDoorERef4
namespace Go.Proofs.YtdglmoikgmlaaaaDoor
open Go.RowKit Go.Maps
set_option linter.unusedVariables false
set_option maxRecDepth 20000
theorem hf_rsealJ : ∀ (args : Array Value) (w : World), (callFunc 34 args).run Tryd.prog w = .ok (.enter 34 args) w := fun args w => by simp [go_sem]
noncomputable def codeRSeal (n : Nat) : Code := ((Tryd.f20.body.bind (regionAt n)).getD .skip)
set_option maxHeartbeats 4000000 in
theorem rseal_region5 {V0 W5 : World} {B g R : Nat} {root key : List UInt8} {s : TS} {gv lv : Value} {n cap : Nat} {a : Option Addr} {er : Int} {P : Value → World → Prop} {A : Act} (sz : A.tmps.size = 64) (e0 : A.eval (.tmp 0) = .pointer (some ⟨g, 0, none⟩)) (e3 : A.eval (.tmp 3) = .slice a n cap) (e12 : A.eval (.tmp 12) = .pointer (some ⟨R, 0, none⟩))
    (lk : key.length = 32) (hcv : IntKind.u64.wrap (s.n : Int) = (s.n : Int)) (hcall : Calls Tryd.prog 34 #[.agg (bvs key), .int .u64 (s.n : Int), .slice a n cap] V0 fun e w' => ∃ vv, e = .returned (.tuple #[vv, .int .i64 er]) ∧ P vv w' ∧ Below V0.heap.size V0 w') (hV0 : V0 = W5.drew) (hs0 : (fun V => RTree V B g root s gv lv ∧ V.heap[R]? = some (.cells (bvs key) 23 (0, 0))) V0) :
    (codeRSeal 5).wp Tryd.prog (fun x b V => x = .normal ∧ ∃ vv, b = (((((((((((((A.put (some 34) (.agg (bvs key))).put (some 35) (.pointer (some ⟨g, 0, none⟩))).put (some 36) (.pointer (some ⟨g, 0, none⟩))).put (some 37) (.pointer (some ⟨g, 32, none⟩))).put (some 38) (.int .i64 (s.n : Int))).put (some 39) (.int .u64 (s.n : Int))).put (some 40) (.slice a n cap)).put (some 41) (.tuple #[vv, .int .i64 er])).put (some 33) (.tuple #[vv, .int .i64 er])).put (some 42) (vv)).put (some 43) (.int .i64 er)).put (some 14) (vv)).put (some 11) (.int .i64 er)) ∧ P vv V ∧ (fun V => RTree V B g root s gv lv ∧ V.heap[R]? = some (.cells (bvs key) 23 (0, 0))) V ∧ Below V0.heap.size V0 V) A W5 := by
  have hm : Tryd.prog.follows .mixedOrders = true := by kernel_rfl
  unfold codeRSeal
  conv => arg 2; whnf
  refine wp_region_G (fun _ => false) ((fun V => RTree V B g root s gv lv ∧ V.heap[R]? = some (.cells (bvs key) 23 (0, 0)))) hm ?_
  rw [show ({ W5 with drawn := W5.drawn + 1 } : World) = V0 from hV0.symm]
  refine wpAnyG_take (i := 0) (v := .agg (bvs key)) rfl (by kernel_rfl) (by kernel_rfl) (by kernel_rfl) (fun _ _ _ h => nomatch h.1) (yieldsIf_load_mid (by simp [Region.wanted]) 23 (.tmp 12) rfl R 0 e12 (cellsOf key) _ (fun V hV => rangeJ hV.2) Tryd.underlying23 rfl (by rw [cellsOf_length, lk]; exact size_hash)) hs0 ?_
  show wpAnyG _ _ _ _ _ _ _ _ (A.put (some 34) (.agg (bvs key))) _
  refine wpAnyG_take (i := 1) (v := .pointer (some ⟨g, 0, none⟩)) rfl (by kernel_rfl) (by kernel_rfl) (by kernel_rfl) (fun _ _ _ h => nomatch h.1) (yg_mv (by simp [Region.wanted]) (.tmp 0) rfl ((ev_ne _ _ (by decide)).trans e0)) hs0 ?_
  show wpAnyG _ _ _ _ _ _ _ _ ((A.put (some 34) (.agg (bvs key))).put (some 35) (.pointer (some ⟨g, 0, none⟩))) _
  refine wpAnyG_take (i := 2) (v := .pointer (some ⟨g, 0, none⟩)) rfl (by kernel_rfl) (by kernel_rfl) (by kernel_rfl) (fun _ _ _ h => nomatch h.1) (yg_nil (by simp [Region.wanted]) (.tmp 35) rfl (ev_eq _ _ (by simp [put_sz, sz]))) hs0 ?_
  show wpAnyG _ _ _ _ _ _ _ _ (((A.put (some 34) (.agg (bvs key))).put (some 35) (.pointer (some ⟨g, 0, none⟩))).put (some 36) (.pointer (some ⟨g, 0, none⟩))) _
  refine wpAnyG_take (i := 3) (v := .pointer (some ⟨g, 32, none⟩)) rfl (by kernel_rfl) (by kernel_rfl) (by kernel_rfl) (fun _ _ _ h => nomatch h.1) (yg_fld (by simp [Region.wanted]) (.tmp 36) rfl (ev_eq _ _ (by simp [put_sz, sz])) (fun w => by simp [go_sem])) hs0 ?_
  show wpAnyG _ _ _ _ _ _ _ _ ((((A.put (some 34) (.agg (bvs key))).put (some 35) (.pointer (some ⟨g, 0, none⟩))).put (some 36) (.pointer (some ⟨g, 0, none⟩))).put (some 37) (.pointer (some ⟨g, 32, none⟩))) _
  refine wpAnyG_take (i := 4) (v := .int .i64 (s.n : Int)) rfl (by kernel_rfl) (by kernel_rfl) (by kernel_rfl) (fun _ _ _ h => nomatch h.1) (yg_ld (by simp [Region.wanted]) (.tmp 37) rfl (ev_eq _ _ (by simp [put_sz, sz])) (fun w hw => by have h1 := hw.1.c32; simp [go_sem, h1])) hs0 ?_
  show wpAnyG _ _ _ _ _ _ _ _ (((((A.put (some 34) (.agg (bvs key))).put (some 35) (.pointer (some ⟨g, 0, none⟩))).put (some 36) (.pointer (some ⟨g, 0, none⟩))).put (some 37) (.pointer (some ⟨g, 32, none⟩))).put (some 38) (.int .i64 (s.n : Int))) _
  refine wpAnyG_take (i := 5) (v := .int .u64 (s.n : Int)) rfl (by kernel_rfl) (by kernel_rfl) (by kernel_rfl) (fun _ _ _ h => nomatch h.1) (yg_cv (by simp [Region.wanted]) (.tmp 38) rfl (ev_eq _ _ (by simp [put_sz, sz])) (fun w => by simp [go_sem, hcv])) hs0 ?_
  show wpAnyG _ _ _ _ _ _ _ _ ((((((A.put (some 34) (.agg (bvs key))).put (some 35) (.pointer (some ⟨g, 0, none⟩))).put (some 36) (.pointer (some ⟨g, 0, none⟩))).put (some 37) (.pointer (some ⟨g, 32, none⟩))).put (some 38) (.int .i64 (s.n : Int))).put (some 39) (.int .u64 (s.n : Int))) _
  refine wpAnyG_take (i := 6) (v := .slice a n cap) rfl (by kernel_rfl) (by kernel_rfl) (by kernel_rfl) (fun _ _ _ h => nomatch h.1) (yg_mv (by simp [Region.wanted]) (.tmp 3) rfl ((ev_ne _ _ (by decide)).trans ((ev_ne _ _ (by decide)).trans ((ev_ne _ _ (by decide)).trans ((ev_ne _ _ (by decide)).trans ((ev_ne _ _ (by decide)).trans ((ev_ne _ _ (by decide)).trans e3))))))) hs0 ?_
  show wpAnyG _ _ _ _ _ _ _ _ (((((((A.put (some 34) (.agg (bvs key))).put (some 35) (.pointer (some ⟨g, 0, none⟩))).put (some 36) (.pointer (some ⟨g, 0, none⟩))).put (some 37) (.pointer (some ⟨g, 32, none⟩))).put (some 38) (.int .i64 (s.n : Int))).put (some 39) (.int .u64 (s.n : Int))).put (some 40) (.slice a n cap)) _
  refine wpAnyG_all (rs := [7]) (by kernel_rfl) (by simp) fun i1 hm1 => ?_
  obtain rfl : i1 = 7 := by simpa using hm1
  refine wpOp_own rfl rfl fun K1 hK1 => ?_
  refine wp_calls3J 34 hf_rsealJ (.tmp 34) (.tmp 39) (.tmp 40) _ rfl (.agg (bvs key)) (.int .u64 (s.n : Int)) (.slice a n cap) ((ev_ne _ _ (by decide)).trans ((ev_ne _ _ (by decide)).trans ((ev_ne _ _ (by decide)).trans ((ev_ne _ _ (by decide)).trans ((ev_ne _ _ (by decide)).trans ((ev_ne _ _ (by decide)).trans (ev_eq _ _ (by simp [sz])))))))) ((ev_ne _ _ (by decide)).trans (ev_eq _ _ (by simp [put_sz, sz]))) (ev_eq _ _ (by simp [put_sz, sz])) ?_
  refine (hcall).mono ?_
  rintro _ V1 ⟨vv, rfl, hP, hb1⟩
  have hs1 : RTree V1 B g root s gv lv ∧ V1.heap[R]? = some (.cells (bvs key) 23 (0, 0)) := ⟨hs0.1.below hb1, (hb1.block R (heap_lt hs0.2)).trans hs0.2⟩
  refine ⟨_, rfl, hK1 _ _ ⟨.inr hs1, ?_⟩⟩
  clear hK1 K1 hm1
  show wpAnyG _ _ _ _ _ _ _ _ ((((((((A.put (some 34) (.agg (bvs key))).put (some 35) (.pointer (some ⟨g, 0, none⟩))).put (some 36) (.pointer (some ⟨g, 0, none⟩))).put (some 37) (.pointer (some ⟨g, 32, none⟩))).put (some 38) (.int .i64 (s.n : Int))).put (some 39) (.int .u64 (s.n : Int))).put (some 40) (.slice a n cap)).put (some 41) (.tuple #[vv, .int .i64 er])) _
  refine wpAnyG_take (i := 8) (v := .tuple #[vv, .int .i64 er]) rfl (by kernel_rfl) (by kernel_rfl) (by kernel_rfl) (fun _ _ _ h => nomatch h.1) (yg_mv (by simp [Region.wanted]) (.tmp 41) rfl (ev_eq _ _ (by simp [put_sz, sz]))) hs1 ?_
  show wpAnyG _ _ _ _ _ _ _ _ (((((((((A.put (some 34) (.agg (bvs key))).put (some 35) (.pointer (some ⟨g, 0, none⟩))).put (some 36) (.pointer (some ⟨g, 0, none⟩))).put (some 37) (.pointer (some ⟨g, 32, none⟩))).put (some 38) (.int .i64 (s.n : Int))).put (some 39) (.int .u64 (s.n : Int))).put (some 40) (.slice a n cap)).put (some 41) (.tuple #[vv, .int .i64 er])).put (some 33) (.tuple #[vv, .int .i64 er])) _
  obtain ⟨Az1, hAz1⟩ : ∃ Az1, Az1 = (((((((((A.put (some 34) (.agg (bvs key))).put (some 35) (.pointer (some ⟨g, 0, none⟩))).put (some 36) (.pointer (some ⟨g, 0, none⟩))).put (some 37) (.pointer (some ⟨g, 32, none⟩))).put (some 38) (.int .i64 (s.n : Int))).put (some 39) (.int .u64 (s.n : Int))).put (some 40) (.slice a n cap)).put (some 41) (.tuple #[vv, .int .i64 er])).put (some 33) (.tuple #[vv, .int .i64 er])) := ⟨_, rfl⟩
  have szAz1 : Az1.tmps.size = 64 := by rw [hAz1]; simp [put_sz, sz]
  have eAz133 : Az1.eval (.tmp 33) = .tuple #[vv, .int .i64 er] := by rw [hAz1]; exact (ev_eq _ _ (by simp [put_sz, sz]))
  rw [← hAz1]
  refine wpAnyG_take (i := 9) (v := vv) rfl (by kernel_rfl) (by kernel_rfl) (by kernel_rfl) (fun _ _ _ h => nomatch h.1) (yg_ext (by simp [Region.wanted]) (.tmp 33) rfl eAz133 (fun w => by simp [go_sem])) hs1 ?_
  show wpAnyG _ _ _ _ _ _ _ _ (Az1.put (some 42) (vv)) _
  refine wpAnyG_take (i := 10) (v := .int .i64 er) rfl (by kernel_rfl) (by kernel_rfl) (by kernel_rfl) (fun _ _ _ h => nomatch h.1) (yg_ext (by simp [Region.wanted]) (.tmp 33) rfl ((ev_ne _ _ (by decide)).trans eAz133) (fun w => by simp [go_sem])) hs1 ?_
  show wpAnyG _ _ _ _ _ _ _ _ ((Az1.put (some 42) (vv)).put (some 43) (.int .i64 er)) _
  refine wpAnyG_take (i := 11) (v := vv) rfl (by kernel_rfl) (by kernel_rfl) (by kernel_rfl) (fun _ _ _ h => nomatch h.1) (yg_as (by simp [Region.wanted]) (.tmp 42) rfl ((ev_ne _ _ (by decide)).trans (ev_eq _ _ (by simp [szAz1])))) hs1 ?_
  show wpAnyG _ _ _ _ _ _ _ _ (((Az1.put (some 42) (vv)).put (some 43) (.int .i64 er)).put (some 14) (vv)) _
  refine wpAnyG_take (i := 12) (v := .int .i64 er) rfl (by kernel_rfl) (by kernel_rfl) (by kernel_rfl) (fun _ _ _ h => nomatch h.1) (yg_as (by simp [Region.wanted]) (.tmp 43) rfl ((ev_ne _ _ (by decide)).trans (ev_eq _ _ (by simp [put_sz, szAz1])))) hs1 ?_
  show wpAnyG _ _ _ _ _ _ _ _ ((((Az1.put (some 42) (vv)).put (some 43) (.int .i64 er)).put (some 14) (vv)).put (some 11) (.int .i64 er)) _
  refine wpAnyG_done (by kernel_rfl) ⟨rfl, vv, ?_, hP, hs1, hb1⟩ _
  show ((((Az1.put (some 42) (vv)).put (some 43) (.int .i64 er)).put (some 14) (vv)).put (some 11) (.int .i64 er)) = _
  rw [hAz1]
set_option maxHeartbeats 4000000 in
theorem rseal_long {w : World} {B g : Nat} {root : List UInt8} {s : TS} {gv lv : Value} (h : RTree w B g root s gv lv) (hB0 : B ≤ w.heap.size) (t u : ByteArray) (c : Nat) (h16 : c ≤ 200) (hk9 : s.n ≤ 1000) (plain : List UInt8) (a : Option Addr) (n cap : Nat) (hn : n = plain.length) (hB : Bytes w a plain) (hl : 1024 < plain.length)
    (HC : Calls Tryd.prog 24 #[.pointer (some ⟨g, 0, none⟩), .string t, .string u] w fun e w' => e = .returned (.tuple #[.int .i64 (c : Int), .int .i64 0]) ∧ Below w.heap.size w w')
    (HKy : ∀ W, Below w.heap.size w W → Calls Tryd.prog 23 #[.pointer (some ⟨g, 0, none⟩), .string t, .string u, .int .i64 (c : Int)] W (HashErr W (derRes root [t, u, txtJ c]) 0)) :
    Calls Tryd.prog 20 #[.pointer (some ⟨g, 0, none⟩), .string t, .string u, .slice a n cap] w (fun e w' => e = .returned (.tuple #[.slice none 0 0, .int .i64 6]) ∧ Below w.heap.size w w') := by
  obtain ⟨Z, hZ⟩ : ∃ Z, Z = bvs (List.replicate 32 0) := ⟨_, rfl⟩
  have zh := (zero_of_info zero_hash).1
  rw [← hZ] at zh
  have hz : Hid (HV Z (List.replicate 32 0)) := by
    show HV _ _
    rw [hZ]; exact hv_zero
  have zh := hid zh
  have HC := hid HC
  obtain ⟨key, hkey⟩ : ∃ key, key = derRes root [t, u, txtJ c] := ⟨_, rfl⟩
  rw [← hkey] at HKy
  have HKy := hid HKy
  have H := hid h
  have HB := hid hB
  have Hn := hid hn
  have HB0 := hid hB0
  have hcv : IntKind.u64.wrap (s.n : Int) = (s.n : Int) := by rw [IntKind.wrap_u64]; omega
  have Hcv := hid hcv
  have hc8 : ((UInt8.ofNat c).toNat : Int) = (c : Int) := by
    have : (UInt8.ofNat c).toNat = c := by simp; omega
    omega
  have Hc8 := hid hc8
  obtain ⟨k, hk⟩ : ∃ k, k = s.n := ⟨_, rfl⟩
  have Hk := hid hk
  have g9 : decide (1099511627776 ≤ (k : Int)) = false := by simp; omega
  have hk99 : k ≤ 1000 := by omega
  clear h hZ hkey hB hn hcv hc8 hB0 hk
  go_enter Tryd.func20, Tryd.ntmps20
  go_wp2_with (first
    | (go_at_call 24; refine HC.out.mono ?_; rintro _ w1 ⟨rfl, b1⟩; have B1 := hid b1; clear b1)
    | (go_at_call 23; refine (HKy.out w1 B1.out).mono ?_; rintro _ w2 ⟨O, rfl, hO, b2⟩; obtain rfl := hO.eq; have hlk := hid hO.len; have B2 := hid (Below.on' B1.out b2); have X2 : Hid ((w2.alloc (.cells Z 23)).heap[w2.heap.size]? = some (.cells Z 23 (0, 0))) := heap_alloc_new w2 _; have HI := hid hO.info; have HZ9 := hid (hz.out.size.trans hO.size.symm); have HO1 := hid hO.one; clear b2 hO)
    | (with_reducible show Go.wpList _ _ _ _ _ _; refine wpList_alloc_row rfl 23 rfl Z zh.out ?_)
    | (with_reducible show Go.wpList _ _ _ _ _ _; refine wpList_store_row rfl 23 _ _ rfl w2.heap.size (bvs key) rfl rfl 23 Z X2.out HI.out HZ9.out HO1.out ?_))
  obtain ⟨W3, hW3⟩ : ∃ W3, W3 = (w2.alloc (.cells Z 23)).setRow w2.heap.size (bvs key) := ⟨_, rfl⟩
  have b3 : Below w2.heap.size w2 W3 := by rw [hW3]; exact ((Below.refl _ w2).alloc (Nat.le_refl _) _).setRow (Nat.le_refl _) _
  have x3 : W3.heap[w2.heap.size]? = some (.cells (bvs key) 23 (0, 0)) := by rw [hW3]; exact setRow_heap _ _ _ _ _ _ X2.out
  rw [← hW3]
  obtain ⟨V0, hV0⟩ : ∃ V0, V0 = W3.drew := ⟨_, rfl⟩
  have b30 : Below W3.heap.size W3 V0 := by rw [hV0]; exact (Below.refl _ W3).drew
  have bw0 : Below w.heap.size w V0 := Below.on' (Below.on' B2.out b3) b30
  have hcall : Calls Tryd.prog 34 #[.agg (bvs key), .int .u64 (s.n : Int), .slice a n cap] V0 fun e w' => ∃ vv, e = .returned (.tuple #[vv, .int .i64 6]) ∧ True ∧ Below V0.heap.size V0 w' := (refSeal_long ⟨rfl, hlk.out⟩ s.n n a cap (by rw [Hn.out]; exact hl)).mono fun e w' h9 => ⟨_, h9.1, trivial, h9.2⟩
  refine wp_act _ fun A hA => ?_
  have sz : A.tmps.size = 64 := by rw [hA]; rfl
  have e0 : A.eval (.tmp 0) = .pointer (some ⟨g, 0, none⟩) := by rw [hA]; rfl
  have e3 : A.eval (.tmp 3) = .slice a n cap := by rw [hA]; rfl
  have e12 : A.eval (.tmp 12) = .pointer (some ⟨w2.heap.size, 0, none⟩) := by rw [hA]; rfl
  refine wp_split _ (rseal_region5 (P := fun _ _ => True) sz e0 e3 e12 hlk.out Hcv.out hcall hV0 ⟨H.out.below bw0, (b30.block _ (heap_lt x3)).trans x3⟩) ?_
  rintro _ V4 ⟨vv, rfl, _, ⟨hT4, _⟩, b4⟩
  rw [hA]
  simp only [Act.put, List.setIfInBounds_toArray, List.set_cons_succ, List.set_cons_zero]
  have BF := hid (Below.on' bw0 b4)
  clear sz e0 e3 e12 hA A hcall hT4 b4 bw0 b30 b3 x3 hV0 hW3
  go_wp2
  go_ret2
  exact ⟨rfl, BF.out⟩
/-- what the reference's Seal answers, if it seals -/
def RSealP (w : World) (B g : Nat) (root : List UInt8) (s : TS) (l : List UInt8) (e : Ending) (w' : World) : Prop := ∃ v, e = .returned (.tuple #[v, .int .i64 0]) ∧ w'.ownsRow w.heap.size 5 1 v l.length (cellsOf l) ∧ RT w' B g root s ∧ OutJ (RM w B g) w w'
set_option maxHeartbeats 4000000 in
theorem rseal_ok {w : World} {B g : Nat} {root : List UInt8} {s : TS} {gv lv : Value} (h : RTree w B g root s gv lv) (hB0 : B ≤ w.heap.size) (t u : ByteArray) (c : Nat) (h16 : c ≤ 200) (hk9 : s.n ≤ 1000) (plain : List UInt8) (a : Option Addr) (n cap : Nat) (hn : n = plain.length) (hB : Bytes w a plain) (hl : plain.length ≤ 1024)
    (HC : Calls Tryd.prog 24 #[.pointer (some ⟨g, 0, none⟩), .string t, .string u] w fun e w' => e = .returned (.tuple #[.int .i64 (c : Int), .int .i64 0]) ∧ Below w.heap.size w w')
    (HKy : ∀ W, Below w.heap.size w W → Calls Tryd.prog 23 #[.pointer (some ⟨g, 0, none⟩), .string t, .string u, .int .i64 (c : Int)] W (HashErr W (derRes root [t, u, txtJ c]) 0)) :
    Calls Tryd.prog 20 #[.pointer (some ⟨g, 0, none⟩), .string t, .string u, .slice a n cap] w (RSealP w B g root { s with n := s.n + 1 } (UInt8.ofNat c :: sealB (derRes root [t, u, txtJ c]) s.n plain)) := by
  obtain ⟨Z, hZ⟩ : ∃ Z, Z = bvs (List.replicate 32 0) := ⟨_, rfl⟩
  have zh := (zero_of_info zero_hash).1
  rw [← hZ] at zh
  have hz : Hid (HV Z (List.replicate 32 0)) := by
    show HV _ _
    rw [hZ]; exact hv_zero
  have zh := hid zh
  have HC := hid HC
  obtain ⟨key, hkey⟩ : ∃ key, key = derRes root [t, u, txtJ c] := ⟨_, rfl⟩
  rw [← hkey] at HKy ⊢
  have HKy := hid HKy
  have H := hid h
  have HB := hid hB
  have Hn := hid hn
  have HB0 := hid hB0
  have hcv : IntKind.u64.wrap (s.n : Int) = (s.n : Int) := by rw [IntKind.wrap_u64]; omega
  have Hcv := hid hcv
  have hc8 : ((UInt8.ofNat c).toNat : Int) = (c : Int) := by
    have : (UInt8.ofNat c).toNat = c := by simp; omega
    omega
  have Hc8 := hid hc8
  obtain ⟨k, hk⟩ : ∃ k, k = s.n := ⟨_, rfl⟩
  have Hk := hid hk
  have g9 : decide (1099511627776 ≤ (k : Int)) = false := by simp; omega
  have hk99 : k ≤ 1000 := by omega
  clear h hZ hkey hB hn hcv hc8 hB0 hk
  go_enter Tryd.func20, Tryd.ntmps20
  go_wp2_with (first
    | (go_at_call 24; refine HC.out.mono ?_; rintro _ w1 ⟨rfl, b1⟩; have B1 := hid b1; clear b1)
    | (go_at_call 23; refine (HKy.out w1 B1.out).mono ?_; rintro _ w2 ⟨O, rfl, hO, b2⟩; obtain rfl := hO.eq; have hlk := hid hO.len; have B2 := hid (Below.on' B1.out b2); have X2 : Hid ((w2.alloc (.cells Z 23)).heap[w2.heap.size]? = some (.cells Z 23 (0, 0))) := heap_alloc_new w2 _; have HI := hid hO.info; have HZ9 := hid (hz.out.size.trans hO.size.symm); have HO1 := hid hO.one; clear b2 hO)
    | (with_reducible show Go.wpList _ _ _ _ _ _; refine wpList_alloc_row rfl 23 rfl Z zh.out ?_)
    | (with_reducible show Go.wpList _ _ _ _ _ _; refine wpList_store_row rfl 23 _ _ rfl w2.heap.size (bvs key) rfl rfl 23 Z X2.out HI.out HZ9.out HO1.out ?_))
  obtain ⟨W3, hW3⟩ : ∃ W3, W3 = (w2.alloc (.cells Z 23)).setRow w2.heap.size (bvs key) := ⟨_, rfl⟩
  have b3 : Below w2.heap.size w2 W3 := by rw [hW3]; exact ((Below.refl _ w2).alloc (Nat.le_refl _) _).setRow (Nat.le_refl _) _
  have x3 : W3.heap[w2.heap.size]? = some (.cells (bvs key) 23 (0, 0)) := by rw [hW3]; exact setRow_heap _ _ _ _ _ _ X2.out
  rw [← hW3]
  obtain ⟨V0, hV0⟩ : ∃ V0, V0 = W3.drew := ⟨_, rfl⟩
  have b30 : Below W3.heap.size W3 V0 := by rw [hV0]; exact (Below.refl _ W3).drew
  have bw0 : Below w.heap.size w V0 := Below.on' (Below.on' B2.out b3) b30
  have hcall : Calls Tryd.prog 34 #[.agg (bvs key), .int .u64 (s.n : Int), .slice a n cap] V0 fun e w' => ∃ vv, e = .returned (.tuple #[vv, .int .i64 0]) ∧ (∃ a' cap', vv = .slice a' (n + 24) cap' ∧ Bytes w' a' (sealB key s.n plain) ∧ ∀ b o, a' = some ⟨b, o, none⟩ → V0.heap.size ≤ b) ∧ Below V0.heap.size V0 w' := (refSeal_own ⟨rfl, hlk.out⟩ s.n plain a n cap Hn.out (HB.out.below bw0) hl).mono fun e w' h9 => by
    obtain ⟨a', cap', e1, h1, h2, h3⟩ := h9
    exact ⟨_, e1, ⟨a', cap', rfl, h1, h3⟩, h2⟩
  refine wp_act _ fun A hA => ?_
  have sz : A.tmps.size = 64 := by rw [hA]; rfl
  have e0 : A.eval (.tmp 0) = .pointer (some ⟨g, 0, none⟩) := by rw [hA]; rfl
  have e3 : A.eval (.tmp 3) = .slice a n cap := by rw [hA]; rfl
  have e12 : A.eval (.tmp 12) = .pointer (some ⟨w2.heap.size, 0, none⟩) := by rw [hA]; rfl
  refine wp_split _ (rseal_region5 (P := fun vv w' => ∃ a' cap', vv = .slice a' (n + 24) cap' ∧ Bytes w' a' (sealB key s.n plain) ∧ ∀ b o, a' = some ⟨b, o, none⟩ → V0.heap.size ≤ b) sz e0 e3 e12 hlk.out Hcv.out hcall hV0 ⟨H.out.below bw0, (b30.block _ (heap_lt x3)).trans x3⟩) ?_
  rintro _ V4 ⟨vv, rfl, ⟨a4, cs, rfl, hBs, hfr⟩, ⟨hT4, _⟩, b4⟩
  rw [hA]
  simp only [Act.put, List.setIfInBounds_toArray, List.set_cons_succ, List.set_cons_zero]
  have ls : (sealB key s.n plain).length = n + 24 := by rw [sealB_len, Hn.out]
  obtain ⟨gs, os, rfl⟩ : ∃ gs os, a4 = some ⟨gs, os, none⟩ := by
    obtain ⟨b9, o9, e9, _⟩ := hBs 0 (by omega)
    exact ⟨b9, o9, e9⟩
  have hfr := hfr gs os rfl
  have c32 := hT4.c32
  rw [← Hk.out] at c32
  have f32 := hT4.fz 32
  have bw4 := Below.on' bw0 b4
  obtain ⟨V5, hV5⟩ : ∃ V5, V5 = V4.setCell ⟨g, 32, none⟩ (.int .i64 ((k + 1 : Nat) : Int)) := ⟨_, rfl⟩
  have hT5 := hT4.setN (k + 1)
  rw [← hV5] at hT5
  have hgl := H.out.lt
  have hgs4 : gs ≠ g := by have := bw0.size; omega
  have hB5 : Bytes V5 (some ⟨gs, os, none⟩) (sealB key s.n plain) := fun i hi => by
    obtain ⟨b9, o9, e9, hc9⟩ := hBs i hi
    cases e9
    refine ⟨gs, os, rfl, ?_⟩
    rw [hV5]
    have : (V4.setCell ⟨g, 32, none⟩ (.int .i64 ((k + 1 : Nat) : Int))).heap[gs]? = V4.heap[gs]? := heap_setCell_other _ _ _ _ hgs4
    unfold World.cell? at hc9 ⊢
    rw [this]
    exact hc9
  have hs5 : V5.heap.size = V4.heap.size := by rw [hV5]; simp [World.setCell]
  have O5 : Hid (OutJ (RM w B g) w V5) := (OutJ.of_below bw4).trans (by rw [hV5]; exact OutJ.setCell V4 ⟨g, 32, none⟩ _ ⟨H.out.bg, .inl rfl⟩)
  have HT5 := hid hT5
  have HB5 := hid hB5
  have HV5 := hid hV5
  have Hls := hid ls
  have hsw : w.heap.size ≤ V5.heap.size := O5.out.size
  have hka : ((k : Int) + 1) = ((k + 1 : Nat) : Int) := by omega
  have Hka := hid hka
  have hlit := own_lit1 V5 w.heap.size hsw (UInt8.ofNat c)
  rw [hs5] at hlit
  have HLit := hid hlit
  clear hlit
  have hl9 : n ≤ 1024 := by rw [Hn.out]; exact hl
  clear sz e0 e3 e12 hA A hcall hT4 b4 bw4 bw0 b30 b3 x3 hV0 hW3 hBs hT5 hB5 hV5 hka ls hfr
  go_wp2_with (first
    | (at_builtin; rw [Hka.out, ← HV5.out, ← Hc8.out]; refine app_srcG _ rfl (.tmp 61) (.tmp 62) rfl w.heap.size _ [UInt8.ofNat c] rfl HLit.out (some ⟨gs, os, none⟩) (n + 24) cs (sealB key s.n plain) Hls.out.symm rfl (HB5.out.below ((Below.refl _ V5).alloc (Nat.le_refl _) _)) (fun e => by cases e) (by rw [Hls.out]; simp; omega) (by simp; omega) ?_; intro v6 W6 hown6 hg6))
  go_ret2
  have hg7 : (V5.alloc (.cells #[.int .u8 ((UInt8.ofNat c).toNat : Int)] 5)).grownBy W6 (some V4.heap.size) := hg6
  have bA := (Below.refl _ V5).alloc (Nat.le_refl _) (.cells #[.int .u8 ((UInt8.ofNat c).toNat : Int)] 5)
  have b7 : Below V5.heap.size V5 W6 := ⟨hg7.os.trans bA.os, hg7.tape.trans bA.tape, hg7.output.trans bA.output, Nat.le_trans bA.size hg7.size, fun j hj => (hg7.block j (Nat.lt_of_lt_of_le hj bA.size) (fun e => by have := Option.some.inj e; omega)).trans (bA.block j hj)⟩
  have hz9 := HT5.out.below b7
  rw [Hk.out] at hz9
  exact ⟨v6, rfl, hown6, ⟨gv, lv, hz9⟩, O5.out.trans (OutJ.of_below b7)⟩
set_option maxHeartbeats 1000000 in
theorem rseal_err {w : World} {g : Nat} (t u : ByteArray) (v : Value) (z c : Int) (hc : c ≠ 0) (H : Calls Tryd.prog 24 #[.pointer (some ⟨g, 0, none⟩), .string t, .string u] w fun e w' => e = .returned (.tuple #[.int .i64 z, .int .i64 c]) ∧ Below w.heap.size w w') :
    Calls Tryd.prog 20 #[.pointer (some ⟨g, 0, none⟩), .string t, .string u, v] w fun e w' => e = .returned (.tuple #[.slice none 0 0, .int .i64 c]) ∧ Below w.heap.size w w' := by
  have q0 : (c != 0) = true := by simpa using hc
  go_enter Tryd.func20, Tryd.ntmps20
  go_wp2_with (go_at_call 24; refine H.mono ?_; rintro _ w1 ⟨rfl, b1⟩)
  go_ret2
  exact ⟨rfl, b1⟩
theorem rSeal_any {w : World} {B g : Nat} {root : List UInt8} {s : TS} (h : RT w B g root s) (ok : s.Ok) (hB0 : B ≤ w.heap.size) (hsn : s.n ≤ 1000) (t u : ByteArray) (ht : t.size ≤ maxLen) (hu : u.size ≤ maxLen) (plain : List UInt8) (a : Option Addr) (n cap : Nat) (hn : n = plain.length) (hB : Bytes w a plain) :
    Calls Tryd.prog 20 #[.pointer (some ⟨g, 0, none⟩), .string t, .string u, .slice a n cap] w fun e w' => ∃ v, e = .returned (.tuple #[v, .int .i64 ((s.sealR root t u plain).2.2 : Int)]) ∧ w'.ownsRow w.heap.size 5 1 v (s.sealR root t u plain).2.1.length (cellsOf (s.sealR root t u plain).2.1) ∧ RT w' B g root (s.sealR root t u plain).1 ∧ OutJ (RM w B g) w w' := by
  have h0 := h
  obtain ⟨gv, lv, h⟩ := h
  have hf := ok.few
  have hgf := ok.gfew
  have HC := rCurrent_any h (by omega) (by omega) t u ht hu
  unfold TS.sealR
  by_cases he : (s.cur t u).2 ≠ 0
  · rw [if_pos he]
    refine (rseal_err t u _ _ _ (by omega) HC).mono fun e w' h9 => ?_
    exact ⟨_, h9.1, nilJ _ _, h0.below h9.2, OutJ.of_below h9.2⟩
  · rw [if_neg he]
    have he0 : (s.cur t u).2 = 0 := by omega
    obtain ⟨n1, n2, hg, hc⟩ := cur_ok he0
    obtain ⟨v1, v2⟩ := verOf_ok ok t u
    have hke := keyErr_ok n1 n2 v2
    have HK : ∀ W, Below w.heap.size w W → Calls Tryd.prog 23 #[.pointer (some ⟨g, 0, none⟩), .string t, .string u, .int .i64 ((s.cur t u).1 : Int)] W (HashErr W (derRes root [t, u, txtJ (s.cur t u).1]) 0) := fun W hW => by
      have := rKey_any (h0.below hW) ok t u ht hu ((s.cur t u).1 : Int)
      have e : s.keyR root t u ((s.cur t u).1 : Int) = (derRes root [t, u, txtJ (s.cur t u).1], 0) := by
        unfold TS.keyR
        rw [if_neg he, if_neg (by omega)]
        rfl
      rw [e] at this
      exact this
    rw [he0] at HC
    by_cases hl : 1024 < plain.length
    · rw [if_pos hl]
      refine (rseal_long h hB0 t u _ (by omega) hsn plain a n cap hn hB hl HC HK).mono fun e w' h9 => ?_
      exact ⟨_, h9.1, nilJ _ _, h0.below h9.2, OutJ.of_below h9.2⟩
    · rw [if_neg hl]
      exact rseal_ok h hB0 t u _ (by omega) hsn plain a n cap hn hB (by omega) HC HK
end Go.Proofs.YtdglmoikgmlaaaaDoor
