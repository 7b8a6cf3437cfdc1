/- holdfastlaw09.KeysLazy walked. (Printed by gen/jwalk.py.) -/
import Derived.Test.YtdglmoikgmlaaaaDoorJW0
namespace Go.Proofs.YtdglmoikgmlaaaaDoor
open Go.RowKit Go.Maps
set_option linter.unusedVariables false
set_option maxRecDepth 20000
theorem hf_newlazy : ∀ (args : Array Value) (w : World), (callFunc 5 args).run Tryd.prog w = .ok (.enter 5 args) w := fun args w => by simp [go_sem]
theorem hf_rnewlazy : ∀ (args : Array Value) (w : World), (callFunc 6 args).run Tryd.prog w = .ok (.enter 6 args) w := fun args w => by simp [go_sem]
noncomputable def codelazy (n : Nat) : Code := ((Tryd.f4.body.bind (regionAt n)).getD .skip)
set_option maxHeartbeats 4000000 in
theorem lazy_region1 {w0 V0 W5 : World} {B R : Nat} {root : List UInt8} {A : Act} (sz : A.tmps.size = 94) (e3 : A.eval (.tmp 3) = .pointer (some ⟨R, 0, none⟩)) (lk : root.length = 32) (hB : B ≤ V0.heap.size) (hB0 : B ≤ w0.heap.size) (hb0 : Below B w0 V0) (hV0 : V0 = W5.drew) (hs0 : (fun V => V.heap[R]? = some (.cells (bvs root) 23 (0, 0))) V0) :
    (codelazy 1).wp Tryd.prog (fun ex b V => ex = .normal ∧ ∃ g mv mg gr, b = ((((((A.put (some 19) (.agg (bvs root))).put (some 21) (.agg (bvs root))).put (some 20) (.pointer (some ⟨g, 0, none⟩))).put (some 22) (.pointer (some ⟨gr, 0, none⟩))).put (some 7) (.pointer (some ⟨g, 0, none⟩))).put (some 8) (.pointer (some ⟨gr, 0, none⟩))) ∧ KP w0 V B g mv mg gr root TS0 TS0 0 ∧ Below V0.heap.size V0 V) A W5 := by
  have hm : Tryd.prog.follows .mixedOrders = true := by kernel_rfl
  unfold codelazy
  conv => arg 2; whnf
  refine wp_region_G (fun _ => false) ((fun V => V.heap[R]? = some (.cells (bvs root) 23 (0, 0)))) hm ?_
  rw [show ({ W5 with drawn := W5.drawn + 1 } : World) = V0 from hV0.symm]
  refine wpAnyG_take (i := 0) (v := .agg (bvs root)) rfl (by kernel_rfl) (by kernel_rfl) (by kernel_rfl) (fun _ _ _ h => nomatch h.1) (yieldsIf_load_mid (by simp [Region.wanted]) 23 (.tmp 3) rfl R 0 e3 (cellsOf root) _ (fun V hV => rangeJ hV) Tryd.underlying23 rfl (by rw [cellsOf_length, lk]; exact size_hash)) hs0 ?_
  show wpAnyG _ _ _ _ _ _ _ _ (A.put (some 19) (.agg (bvs root))) _
  refine wpAnyG_take (i := 2) (v := .agg (bvs root)) rfl (by kernel_rfl) (by kernel_rfl) (by kernel_rfl) (fun _ _ _ h => nomatch h.1) (yieldsIf_load_mid (by simp [Region.wanted]) 23 (.tmp 3) rfl R 0 ((ev_ne _ _ (by decide)).trans e3) (cellsOf root) _ (fun V hV => rangeJ hV) Tryd.underlying23 rfl (by rw [cellsOf_length, lk]; exact size_hash)) hs0 ?_
  show wpAnyG _ _ _ _ _ _ _ _ ((A.put (some 19) (.agg (bvs root))).put (some 21) (.agg (bvs root))) _
  refine wpAnyG_all (rs := [1]) (by kernel_rfl) (by simp) fun i1 hm1 => ?_
  obtain rfl : i1 = 1 := by simpa using hm1
  refine wpOp_own rfl rfl fun K1 hK1 => ?_
  refine wp_calls1 5 hf_newlazy (.tmp 19) _ rfl (.agg (bvs root)) ((ev_ne _ _ (by decide)).trans (ev_eq _ _ (by simp [sz]))) ?_
  refine (new_any V0 root lk).mono ?_
  rintro _ V1 ⟨g, mv, mg, rfl, t1, hb1, hne⟩
  have hs1 := (hb1.block R (heap_lt hs0)).trans hs0
  refine ⟨_, rfl, hK1 _ _ ⟨.inr hs1, ?_⟩⟩
  clear hK1 K1 hm1
  show wpAnyG _ _ _ _ _ _ _ _ (((A.put (some 19) (.agg (bvs root))).put (some 21) (.agg (bvs root))).put (some 20) (.pointer (some ⟨g, 0, none⟩))) _
  refine wpAnyG_all (rs := [3]) (by kernel_rfl) (by simp) fun i2 hm2 => ?_
  obtain rfl : i2 = 3 := by simpa using hm2
  refine wpOp_own rfl rfl fun K2 hK2 => ?_
  refine wp_calls1 6 hf_rnewlazy (.tmp 21) _ rfl (.agg (bvs root)) ((ev_ne _ _ (by decide)).trans (ev_eq _ _ (by simp [put_sz, sz]))) ?_
  refine (rNew_any V1 root lk).mono ?_
  rintro _ V2 ⟨gr, rfl, r2, hb2⟩
  have hs2 := (hb2.block R (heap_lt hs1)).trans hs1
  refine ⟨_, rfl, hK2 _ _ ⟨.inr hs2, ?_⟩⟩
  clear hK2 K2 hm2
  show wpAnyG _ _ _ _ _ _ _ _ ((((A.put (some 19) (.agg (bvs root))).put (some 21) (.agg (bvs root))).put (some 20) (.pointer (some ⟨g, 0, none⟩))).put (some 22) (.pointer (some ⟨gr, 0, none⟩))) _
  refine wpAnyG_one (i := 4) (v := .pointer (some ⟨g, 0, none⟩)) rfl (by kernel_rfl) (yg_as (by simp [Region.wanted]) (.tmp 20) rfl ((ev_ne _ _ (by decide)).trans (ev_eq _ _ (by simp [put_sz, sz])))) hs2 ?_
  show wpAnyG _ _ _ _ _ _ _ _ (((((A.put (some 19) (.agg (bvs root))).put (some 21) (.agg (bvs root))).put (some 20) (.pointer (some ⟨g, 0, none⟩))).put (some 22) (.pointer (some ⟨gr, 0, none⟩))).put (some 7) (.pointer (some ⟨g, 0, none⟩))) _
  refine wpAnyG_one (i := 5) (v := .pointer (some ⟨gr, 0, none⟩)) rfl (by kernel_rfl) (yg_as (by simp [Region.wanted]) (.tmp 22) rfl ((ev_ne _ _ (by decide)).trans (ev_eq _ _ (by simp [put_sz, sz])))) hs2 ?_
  show wpAnyG _ _ _ _ _ _ _ _ ((((((A.put (some 19) (.agg (bvs root))).put (some 21) (.agg (bvs root))).put (some 20) (.pointer (some ⟨g, 0, none⟩))).put (some 22) (.pointer (some ⟨gr, 0, none⟩))).put (some 7) (.pointer (some ⟨g, 0, none⟩))).put (some 8) (.pointer (some ⟨gr, 0, none⟩))) _
  refine wpAnyG_done (by kernel_rfl) ⟨rfl, g, mv, mg, gr, rfl, ⟨(treeM_new t1 hne hB).below hb2, rt_new r2 (Nat.le_trans hB hb1.size), TS0_ok, hb0.trans ((hb1.mono hB).trans (hb2.mono (Nat.le_trans hB hb1.size))), hB0⟩, Below.on' hb1 hb2⟩ _
theorem szA : (⟨#[97]⟩ : ByteArray).size ≤ maxLen := by unfold maxLen; decide
theorem szB : (⟨#[98]⟩ : ByteArray).size ≤ maxLen := by unfold maxLen; decide
theorem openS_seal (key : List UInt8) (once : Nat) (ho : once < 2 ^ 64) (plain : List UInt8) (hl : plain.length ≤ 1024) : openS key (sealB key once plain) = (plain, 0) := by
  have h1 := sealB_len key once plain
  unfold openS
  rw [if_neg (by omega), if_neg (by omega), if_pos (by rw [seal_take, seal_drop])]
  rw [seal_take, seal_eight, numB_be8 once ho, head_drop, cross_back]
theorem openR_seal {s : TS} (ok : s.Ok) {root : List UInt8} {t u : ByteArray} (h : (s.cur t u).2 = 0) (v : Nat) (h1 : 1 ≤ v) (h2 : v ≤ (s.cur t u).1) (once : Nat) (ho : once < 2 ^ 64) (plain : List UInt8) (hl : plain.length ≤ 1024) : s.openR root t u (UInt8.ofNat v :: sealB (derRes root [t, u, txtJ v]) once plain) = (plain, (v, 0)) := by
  obtain ⟨_, _, _, hc⟩ := cur_ok h
  obtain ⟨v1, v2⟩ := verOf_ok ok t u
  have hv : (UInt8.ofNat v).toNat = v := by simp; omega
  show s.openB root t u _ _ = _
  unfold TS.openB
  have hk : s.keyR root t u (((UInt8.ofNat v).toNat : Nat) : Int) = (derRes root [t, u, txtJ v], 0) := by
    unfold TS.keyR
    rw [hv, if_neg (by omega), if_neg (by omega)]
    rfl
  rw [if_neg (by omega), hk, if_neg (by simp), openS_seal _ once ho plain hl, hv]
  rfl
theorem sealR_ok {s : TS} {root : List UInt8} {t u : ByteArray} {p : List UInt8} (h : (s.sealR root t u p).2.2 = 0) : (s.cur t u).2 = 0 ∧ p.length ≤ 1024 ∧ s.sealR root t u p = ({ s with n := s.n + 1 }, (UInt8.ofNat (s.cur t u).1 :: sealB (derRes root [t, u, txtJ (s.cur t u).1]) s.n p, 0)) := by
  unfold TS.sealR at h ⊢
  by_cases he : (s.cur t u).2 ≠ 0
  · rw [if_pos he] at h; exact absurd h he
  · rw [if_neg he] at h ⊢
    by_cases hl : 1024 < p.length
    · rw [if_pos hl] at h; cases h
    · rw [if_neg hl]; exact ⟨by omega, by omega, rfl⟩
theorem sealR_mk {s : TS} {root : List UInt8} {t u : ByteArray} {p : List UInt8} (h : (s.cur t u).2 = 0) (hl : p.length ≤ 1024) : s.sealR root t u p = ({ s with n := s.n + 1 }, (UInt8.ofNat (s.cur t u).1 :: sealB (derRes root [t, u, txtJ (s.cur t u).1]) s.n p, 0)) := by
  unfold TS.sealR
  rw [if_neg (by omega), if_neg (by omega)]
theorem reseal_now {s : TS} (ok : s.Ok) {root : List UInt8} {t u : ByteArray} (h : (s.cur t u).2 = 0) (once : Nat) (ho : once < 2 ^ 64) (plain : List UInt8) (hl : plain.length ≤ 1024) : s.resealR root t u (UInt8.ofNat (s.cur t u).1 :: sealB (derRes root [t, u, txtJ (s.cur t u).1]) once plain) = (s, (UInt8.ofNat (s.cur t u).1 :: sealB (derRes root [t, u, txtJ (s.cur t u).1]) once plain, (false, 0))) := by
  obtain ⟨_, _, _, hc⟩ := cur_ok h
  obtain ⟨v1, v2⟩ := verOf_ok ok t u
  rw [resealR_eq, openR_seal ok h _ (by omega) (Nat.le_refl _) once ho plain hl, if_neg (by simp), if_pos (by simpa using hc)]
theorem reseal_old {s : TS} (ok : s.Ok) {root : List UInt8} {t u : ByteArray} (h : (s.cur t u).2 = 0) (v : Nat) (h1 : 1 ≤ v) (h2 : v < (s.cur t u).1) (once : Nat) (ho : once < 2 ^ 64) (plain : List UInt8) (hl : plain.length ≤ 1024) : s.resealR root t u (UInt8.ofNat v :: sealB (derRes root [t, u, txtJ v]) once plain) = ({ s with n := s.n + 1 }, (UInt8.ofNat (s.cur t u).1 :: sealB (derRes root [t, u, txtJ (s.cur t u).1]) s.n plain, (true, 0))) := by
  obtain ⟨_, _, _, hc⟩ := cur_ok h
  rw [resealR_eq, openR_seal ok h v h1 (by omega) once ho plain hl, if_neg (by simp), if_neg (by simp only; omega), sealR_mk h hl]
  rfl
theorem cur_setN (s : TS) (m : Nat) (t u : ByteArray) : ({ s with n := m } : TS).cur t u = s.cur t u := rfl
theorem rot_same {s : TS} (ok : s.Ok) {t u : ByteArray} (h : (s.cur t u).2 = 0) : ((s.rotR t u).1.cur t u).2 = 0 ∧ (((s.rotR t u).1 = s) ∨ ((s.rotR t u).1.cur t u).1 = (s.cur t u).1 + 1) := by
  obtain ⟨n1, n2, hg, hc⟩ := cur_ok h
  unfold TS.rotR
  rw [if_neg (by omega)]
  split
  · exact ⟨h, .inl rfl⟩
  · have hv : verOf (rotV s.vs t u ((s.cur t u).1 + 1)) t u = (s.cur t u).1 + 1 := by
      unfold rotV verOf
      rw [List.find?_append, List.find?_eq_none.2 (fun p hp => by have := (List.mem_filter.1 hp).2; simpa using this)]
      simp [isAt]
    have e : ∀ n, verOf (rotV s.vs t u n) t u = n → (s.rot t u n).cur t u = (n, 0) := fun n hv => by
      unfold TS.cur TS.rot
      simp only
      rw [if_pos (by rw [n1, n2]; rfl), if_neg (by rw [hg]; simp), hv]
    have e := e _ hv
    exact ⟨by rw [e], .inr (by rw [e])⟩
/-- what KeysLazy asks, of trees as mathematics -/
theorem lazy_math {s : TS} (ok : s.Ok) (hsn : s.n ≤ 100) {root : List UInt8} {t u : ByteArray} {plain : List UInt8} (h : (s.sealR root t u plain).2.2 = 0) : ∃ (s1 s2 s3 : TS) (c0 n2 : Nat) (S S2 : List UInt8) (nr er : Nat), s.sealR root t u plain = (s1, (UInt8.ofNat c0 :: S, 0)) ∧ s1.rotR t u = (s2, (nr, er)) ∧ s2.resealR root t u (UInt8.ofNat c0 :: S) = (s3, (UInt8.ofNat n2 :: S2, (decide (c0 ≠ n2), 0))) ∧ s3.resealR root t u (UInt8.ofNat n2 :: S2) = (s3, (UInt8.ofNat n2 :: S2, (false, 0))) ∧ s3.cur t u = (n2, 0) ∧ c0 ≤ 17 ∧ n2 ≤ 17 ∧ s1.n ≤ 101 ∧ s2.n ≤ 101 ∧ s3.n ≤ 102 ∧ S.length ≤ 1048 ∧ S2.length ≤ 1048 := by
  obtain ⟨h1, h2, h3⟩ := sealR_ok h
  obtain ⟨v1, v2⟩ := verOf_ok ok t u
  obtain ⟨_, _, _, hc⟩ := cur_ok h1
  obtain ⟨s1, hs1⟩ : ∃ s1 : TS, s1 = { s with n := s.n + 1 } := ⟨_, rfl⟩
  have ok1 : s1.Ok := by rw [hs1]; exact ok.setN _
  have c1 : s1.cur t u = s.cur t u := by rw [hs1]; rfl
  have ok2 := ok1.rotR t u
  obtain ⟨r1, r2⟩ := rot_same ok1 (t := t) (u := u) (by rw [c1]; exact h1)
  have n2' : (s1.rotR t u).1.n = s.n + 1 := by rw [rotR_n, hs1]
  obtain ⟨s2, hs2⟩ : ∃ s2, s2 = (s1.rotR t u).1 := ⟨_, rfl⟩
  rw [← hs2] at ok2 r1 r2 n2'
  obtain ⟨_, _, _, hc2⟩ := cur_ok r1
  obtain ⟨w1, w2⟩ := verOf_ok ok2 t u
  have lS := fun v o => sealB_len (derRes root [t, u, txtJ v]) o plain
  rcases r2 with r2 | r2
  · have e2 : s2.cur t u = s.cur t u := by rw [r2]; exact c1
    have hr := reseal_now ok2 (root := root) r1 s.n (by omega) plain h2
    rw [e2] at hr
    refine ⟨s1, s2, s2, (s.cur t u).1, (s.cur t u).1, _, _, (s1.rotR t u).2.1, (s1.rotR t u).2.2, by rw [h3, hs1], by rw [hs2], by rw [hr]; simp, hr, by rw [e2, ← h1], by omega, by omega, by rw [hs1]; simp; omega, by omega, by omega, by rw [lS]; omega, by rw [lS]; omega⟩
  · rw [c1] at r2
    have hr := reseal_old ok2 (root := root) r1 (s.cur t u).1 (by omega) (by omega) s.n (by omega) plain h2
    obtain ⟨s3, hs3⟩ : ∃ s3 : TS, s3 = { s2 with n := s2.n + 1 } := ⟨_, rfl⟩
    rw [← hs3] at hr
    have c3 : s3.cur t u = s2.cur t u := by rw [hs3]; rfl
    have ok3 : s3.Ok := by rw [hs3]; exact ok2.setN _
    have hr3 := reseal_now ok3 (root := root) (by rw [c3]; exact r1) s2.n (by omega) plain h2
    rw [c3] at hr3
    refine ⟨s1, s2, s3, (s.cur t u).1, (s2.cur t u).1, _, _, (s1.rotR t u).2.1, (s1.rotR t u).2.2, by rw [h3, hs1], by rw [hs2], by rw [hr, decide_eq_true (show (s.cur t u).1 ≠ (s2.cur t u).1 by omega)], hr3, by rw [c3, ← r1], by omega, by omega, by rw [hs1]; simp; omega, by omega, by rw [hs3]; simp; omega, by rw [lS]; omega, by rw [lS]; omega⟩
theorem own_split {w : World} {B : Nat} {v : Value} {L : List UInt8} (h : w.ownsRow B 5 1 v L.length (cellsOf L)) (h0 : 0 < L.length) : ∃ g m c, v = .slice (some ⟨g, 0, none⟩) m c ∧ m = L.length ∧ m ≤ c ∧ Bytes w (some ⟨g, 0, none⟩) L := by
  obtain ⟨g, cap, e, hB, hc, _⟩ := own_some h h0
  exact ⟨g, _, cap, e, rfl, hc, hB⟩
theorem same_split (x : List UInt8) (w : World) {B B' g g' m m' c c' : Nat} (h1 : w.ownsRow B 5 1 (.slice (some ⟨g, 0, none⟩) m c) x.length (cellsOf x)) (h2 : w.ownsRow B' 5 1 (.slice (some ⟨g', 0, none⟩) m' c') x.length (cellsOf x)) (hl : x.length ≤ 140737488351232) :
    Calls Tryd.prog 15 #[.slice (some ⟨g, 0, none⟩) m c, .slice (some ⟨g', 0, none⟩) m' c'] w fun e w' => e = .returned (.bool true) ∧ Below w.heap.size w w' := by
  obtain ⟨a1, c1, e1, b1, _⟩ := bytes_of_own0 h1
  obtain ⟨a2, c2, e2, b2, _⟩ := bytes_of_own0 h2
  rw [e1, e2]
  exact same_self x a1 a2 c1 c2 w b1 b2 hl
theorem byte0 {w : World} {B g m cap n : Nat} {S : List UInt8} (h : w.ownsRow B 5 1 (.slice (some ⟨g, 0, none⟩) m cap) (UInt8.ofNat n :: S).length (cellsOf (UInt8.ofNat n :: S))) (hn : n ≤ 17) : w.cell? ⟨g, 0, none⟩ = some (.int .u8 (n : Int)) := by
  obtain ⟨a, c, e, hB, _⟩ := bytes_of_own0 h
  injection e with e1
  subst e1
  obtain ⟨b9, o9, e9, hc9⟩ := hB 0 (by simp)
  cases e9
  have hv : (UInt8.ofNat n).toNat = n := by simp; omega
  have : ((UInt8.ofNat n :: S)[0]).toNat = n := hv
  rw [this] at hc9
  exact hc9
set_option maxHeartbeats 8000000 in
theorem keysLazy_walk {w : World} {O : Array Value} {root : List UInt8} (hO : HV O root) (l : List KD) (a : Option Addr) (cap : Nat) (hl : KDs w a l) (plain : List UInt8) (ap : Option Addr) (cp : Nat) (hp : BytesIn w ap cp plain) (hT : TabsJ w) :
    Calls Tryd.prog 4 #[.agg O, .slice a l.length cap, .slice ap plain.length cp] w fun e w' => e = .returned (.bool true) ∧ Below w.heap.size w w' := by
  have HBp := hid hp
  obtain ⟨np, hnp⟩ : ∃ np, np = plain.length := ⟨_, rfl⟩
  rw [← hnp]
  have Hnp := hid hnp
  clear hp hnp
  obtain ⟨Z, hZ⟩ : ∃ Z, Z = bvs (List.replicate 32 0) := ⟨_, rfl⟩
  have zh := (zero_of_info zero_hash).1
  rw [← hZ] at zh
  have hz : Hid (HV Z (List.replicate 32 0)) := by
    show HV _ _
    rw [hZ]; exact hv_zero
  have Zh := hid zh
  obtain ⟨W0, hW0⟩ : ∃ W0, W0 = w.alloc (.cells O 23) := ⟨_, rfl⟩
  have b0 : Below w.heap.size w W0 := by rw [hW0]; exact (Below.refl _ w).alloc (Nat.le_refl _) _
  have y0 : W0.heap[w.heap.size]? = some (.cells O 23 (0, 0)) := by rw [hW0]; exact heap_alloc_new w _
  obtain rfl : O = bvs root := hO.eq
  have Hlk := hid hO.len
  have HT := hid (fun (W : World) (hW : Below W0.heap.size W0 W) => (show TabsJ W from ⟨TabAt.belowJ hT.1 (Below.on' b0 hW), hT.2.below (Below.on' b0 hW)⟩))
  have HKD := hid (hl.below b0)
  have Y0 := hid y0
  have B0 := hid b0
  have HW := hid hW0.symm
  obtain ⟨N, hN⟩ : ∃ N, N = l.length := ⟨_, rfl⟩
  rw [← hN]
  have HN := hid hN
  have HP0 := hid (HBp.out.bytes.below b0)
  clear hW0 b0 y0 hT hl hO hN zh hZ
  go_enter Tryd.func4, Tryd.ntmps4
  go_wp2
  rw [HW.out]
  obtain ⟨V0, hV0⟩ : ∃ V0, V0 = W0.drew := ⟨_, rfl⟩
  have b00 : Below W0.heap.size W0 V0 := by rw [hV0]; exact (Below.refl _ W0).drew
  refine wp_act _ fun A hA => ?_
  have sz : A.tmps.size = 94 := by rw [hA]; rfl
  have e3 : A.eval (.tmp 3) = .pointer (some ⟨w.heap.size, 0, none⟩) := by rw [hA]; rfl
  refine wp_split _ (lazy_region1 (w0 := W0) (B := W0.heap.size) (root := root) sz e3 Hlk.out b00.size (Nat.le_refl _) b00 hV0 ((b00.block _ (heap_lt Y0.out)).trans Y0.out)) ?_
  rintro _ V1 ⟨g, mv, mg, gr, rfl, hK1, b01⟩
  rw [hA]
  simp only [Act.put, List.setIfInBounds_toArray, List.set_cons_succ, List.set_cons_zero]
  have K1 := hid hK1
  have HTb := hid (fun (W : World) (hW : Below W0.heap.size W0 W) => B0.out.trans (hW.mono B0.out.size))
  clear sz e3 hA A hV0 V0 b00 hK1 b01 Y0
  go_wp2_with (first
    | (go_at_call 7; refine (liveJ_any (HT.out V1 K1.out.b).1 (HT.out V1 K1.out.b).2).mono ?_; rintro _ w2 ⟨rfl, b2⟩; have K2 := hid (K1.out.below b2); clear b2)
    | (go_at_call 8; refine (play_any (n0 := 0) K2.out rfl (by omega) (Nat.le_refl _) (by omega) l a N cap HN.out HKD.out (HT.out W0 (Below.refl _ _))).mono ?_; rintro _ w3 ⟨rfl, s, hK3, hsn⟩; have K3 := hid hK3; have Hsn := hid hsn; clear hK3 hsn))
  obtain ⟨fe, hfe⟩ : ∃ fe, fe = (s.sealR root ⟨#[97]⟩ ⟨#[98]⟩ plain).2.2 := ⟨_, rfl⟩
  have HS := hid (seal_m K3.out.t (by have := Hsn.out; omega) ⟨#[97]⟩ ⟨#[98]⟩ szA szB plain ap np cp Hnp.out (HP0.out.below K3.out.b) (HT.out w3 K3.out.b).1 (HT.out w3 K3.out.b).2)
  by_cases hf : fe = 0
  · rw [hf] at hfe
    obtain ⟨s1, s2, s3, c0, n2, S, S2, nr, er, m1, m2, m3, m4, m5, l0, l2, k1, k2, k3, j1, j2⟩ := lazy_math K3.out.ok (by have := Hsn.out; omega) hfe.symm
    rw [m1] at HS
    have HR := hid (fun (W : World) (d : Nat) (h : TreeM W W0.heap.size g mv mg root s1 d) (hd : d ≤ 900) => by have := rotate_m h hd ⟨#[97]⟩ ⟨#[98]⟩ szA szB; rw [m2] at this; exact this)
    have HC := hid (fun (W : World) (d : Nat) (h : TreeM W W0.heap.size g mv mg root s3 d) => by have := current_m h ⟨#[97]⟩ ⟨#[98]⟩ szA szB; rw [m5] at this; exact this)
    have HQ2 := hid (fun (W : World) (d : Nat) (h : TreeM W W0.heap.size g mv mg root s3 d) (b : Below W0.heap.size W0 W) (gs m c : Nat) (hm : m = (UInt8.ofNat n2 :: S2).length) (hc : m ≤ c) (hB : Bytes W (some ⟨gs, 0, none⟩) (UInt8.ofNat n2 :: S2)) => by have := reseal_l h (by omega) ⟨#[97]⟩ ⟨#[98]⟩ szA szB (UInt8.ofNat n2 :: S2) (some ⟨gs, 0, none⟩) m c hm (by rw [hm]; simp; omega) hc (fun _ => ⟨gs, rfl⟩) hB (HT.out W b).1 (HT.out W b).2; rw [m4] at this; exact this)
    obtain ⟨ch, hch⟩ : ∃ ch, ch = decide (c0 ≠ n2) := ⟨_, rfl⟩
    have q5 : ((c0 : Int) != (n2 : Int)) = ch := by
      rw [hch]
      by_cases e : c0 = n2
      · subst e; simp
      · rw [decide_eq_true e]
        have : ¬ (c0 : Int) = (n2 : Int) := by omega
        simpa using this
    rw [← hch] at m3
    have HQ1 := hid (fun (W : World) (d : Nat) (h : TreeM W W0.heap.size g mv mg root s2 d) (b : Below W0.heap.size W0 W) (gs m c : Nat) (hm : m = (UInt8.ofNat c0 :: S).length) (hc : m ≤ c) (hB : Bytes W (some ⟨gs, 0, none⟩) (UInt8.ofNat c0 :: S)) => by have := reseal_l h (by omega) ⟨#[97]⟩ ⟨#[98]⟩ szA szB (UInt8.ofNat c0 :: S) (some ⟨gs, 0, none⟩) m c hm (by rw [hm]; simp; omega) hc (fun _ => ⟨gs, rfl⟩) hB (HT.out W b).1 (HT.out W b).2; rw [m3] at this; exact this)
    have Hj2 := hid j2
    obtain ⟨SB, hSB⟩ : ∃ SB, SB = UInt8.ofNat c0 :: S := ⟨_, rfl⟩
    obtain ⟨SC, hSC⟩ : ∃ SC, SC = UInt8.ofNat n2 :: S2 := ⟨_, rfl⟩
    have LB : Hid (0 < SB.length) := by
      show 0 < SB.length
      rw [hSB]; simp
    have LC : Hid (0 < SC.length ∧ SC.length ≤ 1049) := by
      show 0 < SC.length ∧ SC.length ≤ 1049
      rw [hSC]; simp; exact j2
    have CB := hid (fun (W : World) (B g m cap : Nat) (h : W.ownsRow B 5 1 (.slice (some ⟨g, 0, none⟩) m cap) SB.length (cellsOf SB)) => byte0 (by rw [hSB] at h; exact h) l0)
    have CC := hid (fun (W : World) (B g m cap : Nat) (h : W.ownsRow B 5 1 (.slice (some ⟨g, 0, none⟩) m cap) SC.length (cellsOf SC)) => byte0 (by rw [hSC] at h; exact h) l2)
    rw [← hSB] at HS HQ1
    rw [← hSC] at HQ1 HQ2
    clear m1 m2 m3 m4 m5 k1 k2 k3 j1 j2 hch hSB hSC hfe hf
    cases ch
    · go_wp2_with (first
        | (go_at_call 15; refine HSm.out.mono ?_; rintro _ w9 ⟨rfl, b9⟩; have K9 := hid (K8.out.below b9); have d1 := CB.out w9 _ g4 m4 c4 (own_on O8.out b9); have d2 := CC.out w9 _ g6 m6 c6 (own_on P8.out b9); clear b9)
        | (go_at_call 9; refine (HC.out w7 _ K7.out.t).mono ?_; rintro _ w8 ⟨rfl, b8⟩; have K8 := hid (K7.out.below b8); have O8 := hid (own_on O7.out b8); have P8 := hid (own_on P7.out b8); have HSm := hid (same_split SC w8 P8.out (own_on Q7.out b8) (by have := LC.out; omega)); clear b8)
        | (go_at_call 14; refine (HQ2.out w6 _ K6.out.t K6.out.b g6 m6 c6 Hm6.out hc6 Hb6.out).mono ?_; rintro _ w7 ⟨v7, rfl, o7, t7, x7⟩; obtain ⟨g7, m7, c7, rfl, hm7, hc7, hb7⟩ := own_split o7 LC.out.1; clear hm7 hc7 hb7; have K7 := hid (K6.out.prog t7 x7); have O7 := hid (K6.out.bprog O6.out x7); have P7 := hid (K6.out.bprog P6.out x7); have Q7 := hid o7; clear o7 t7 x7 HQ2 K6)
        | (go_at_call 14; refine (HQ1.out w5 _ K5.out.t K5.out.b g4 m4 c4 Hm4.out hc4 Hb5.out).mono ?_; rintro _ w6 ⟨v6, rfl, o6, t6, x6⟩; obtain ⟨g6, m6, c6, rfl, hm6, hc6, hb6⟩ := own_split o6 LC.out.1; have K6 := hid (K5.out.prog t6 x6); have O6 := hid (K5.out.bprog O5.out x6); have P6 := hid o6; have Hm6 := hid hm6; have Hb6 := hid hb6; have hm60 : 0 < m6 := (by rw [hm6]; exact LC.out.1); clear o6 t6 x6 HQ1 hm6 hb6 K5)
        | (go_at_call 11; refine (HR.out w4 _ K4.out.t (by omega)).mono ?_; rintro _ w5 ⟨rfl, t5, x5⟩; have K5 := hid (K4.out.prog t5 x5); have o5 := K4.out.bprog O4.out x5; have O5 := hid o5; have Hb5 : Hid (Bytes w5 (some ⟨g4, 0, none⟩) SB) := (by obtain ⟨_, _, e5, hb5, _⟩ := bytes_of_own0 o5; injection e5 with e51; rw [e51]; exact hb5); clear t5 x5 o5 K4)
        | (go_at_call 13; refine HS.out.mono ?_; rintro _ w4 ⟨v4, rfl, o4, t4, x4⟩; obtain ⟨g4, m4, c4, rfl, hm4, hc4, _⟩ := own_split o4 LB.out; have K4 := hid (K3.out.prog t4 x4); have O4 := hid o4; have Hm4 := hid hm4; have hm40 : 0 < m4 := (by rw [hm4]; exact LB.out); clear o4 t4 x4 HS hm4))
      go_ret
      exact ⟨rfl, HTb.out _ K9.out.b⟩
    · go_wp2_with (first
        | (go_at_call 15; refine HSm.out.mono ?_; rintro _ w9 ⟨rfl, b9⟩; have K9 := hid (K8.out.below b9); have d1 := CB.out w9 _ g4 m4 c4 (own_on O8.out b9); have d2 := CC.out w9 _ g6 m6 c6 (own_on P8.out b9); clear b9)
        | (go_at_call 9; refine (HC.out w7 _ K7.out.t).mono ?_; rintro _ w8 ⟨rfl, b8⟩; have K8 := hid (K7.out.below b8); have O8 := hid (own_on O7.out b8); have P8 := hid (own_on P7.out b8); have HSm := hid (same_split SC w8 P8.out (own_on Q7.out b8) (by have := LC.out; omega)); clear b8)
        | (go_at_call 14; refine (HQ2.out w6 _ K6.out.t K6.out.b g6 m6 c6 Hm6.out hc6 Hb6.out).mono ?_; rintro _ w7 ⟨v7, rfl, o7, t7, x7⟩; obtain ⟨g7, m7, c7, rfl, hm7, hc7, hb7⟩ := own_split o7 LC.out.1; clear hm7 hc7 hb7; have K7 := hid (K6.out.prog t7 x7); have O7 := hid (K6.out.bprog O6.out x7); have P7 := hid (K6.out.bprog P6.out x7); have Q7 := hid o7; clear o7 t7 x7 HQ2 K6)
        | (go_at_call 14; refine (HQ1.out w5 _ K5.out.t K5.out.b g4 m4 c4 Hm4.out hc4 Hb5.out).mono ?_; rintro _ w6 ⟨v6, rfl, o6, t6, x6⟩; obtain ⟨g6, m6, c6, rfl, hm6, hc6, hb6⟩ := own_split o6 LC.out.1; have K6 := hid (K5.out.prog t6 x6); have O6 := hid (K5.out.bprog O5.out x6); have P6 := hid o6; have Hm6 := hid hm6; have Hb6 := hid hb6; have hm60 : 0 < m6 := (by rw [hm6]; exact LC.out.1); clear o6 t6 x6 HQ1 hm6 hb6 K5)
        | (go_at_call 11; refine (HR.out w4 _ K4.out.t (by omega)).mono ?_; rintro _ w5 ⟨rfl, t5, x5⟩; have K5 := hid (K4.out.prog t5 x5); have o5 := K4.out.bprog O4.out x5; have O5 := hid o5; have Hb5 : Hid (Bytes w5 (some ⟨g4, 0, none⟩) SB) := (by obtain ⟨_, _, e5, hb5, _⟩ := bytes_of_own0 o5; injection e5 with e51; rw [e51]; exact hb5); clear t5 x5 o5 K4)
        | (go_at_call 13; refine HS.out.mono ?_; rintro _ w4 ⟨v4, rfl, o4, t4, x4⟩; obtain ⟨g4, m4, c4, rfl, hm4, hc4, _⟩ := own_split o4 LB.out; have K4 := hid (K3.out.prog t4 x4); have O4 := hid o4; have Hm4 := hid hm4; have hm40 : 0 < m4 := (by rw [hm4]; exact LB.out); clear o4 t4 x4 HS hm4))
      go_ret
      exact ⟨rfl, HTb.out _ K9.out.b⟩
  · have q9 : ((fe : Int) != 0) = true := by simp; omega
    rw [← hfe] at HS
    clear hfe hf
    go_wp2_with (go_at_call 13; refine HS.out.mono ?_; rintro _ w4 ⟨v4, rfl, o4, t4, x4⟩; have K4 := hid (K3.out.prog t4 x4); clear o4 t4 x4 HS)
    go_ret
    exact ⟨rfl, HTb.out _ K4.out.b⟩
end Go.Proofs.YtdglmoikgmlaaaaDoor
