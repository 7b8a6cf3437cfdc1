/- holdfastlaw09.KeysApart walked. (Printed by gen/jwalk.py.) -/
import Derived.Test.YtdglmoikgmlaaaaDoorJW0
namespace Go.Proofs.YtdglmoikgmlaaaaDoor
open Go.RowKit Go.Maps
set_option linter.unusedVariables false
set_option maxRecDepth 20000
theorem hf_newapart : ∀ (args : Array Value) (w : World), (callFunc 5 args).run Tryd.prog w = .ok (.enter 5 args) w := fun args w => by simp [go_sem]
theorem hf_rnewapart : ∀ (args : Array Value) (w : World), (callFunc 6 args).run Tryd.prog w = .ok (.enter 6 args) w := fun args w => by simp [go_sem]
noncomputable def codeapart (n : Nat) : Code := ((Tryd.f3.body.bind (regionAt n)).getD .skip)
set_option maxHeartbeats 4000000 in
theorem apart_region1 {w0 V0 W5 : World} {B R : Nat} {root : List UInt8} {A : Act} (sz : A.tmps.size = 96) (e3 : A.eval (.tmp 3) = .pointer (some ⟨R, 0, none⟩)) (lk : root.length = 32) (hB : B ≤ V0.heap.size) (hB0 : B ≤ w0.heap.size) (hb0 : Below B w0 V0) (hV0 : V0 = W5.drew) (hs0 : (fun V => V.heap[R]? = some (.cells (bvs root) 23 (0, 0))) V0) :
    (codeapart 1).wp Tryd.prog (fun ex b V => ex = .normal ∧ ∃ g mv mg gr, b = ((((((A.put (some 17) (.agg (bvs root))).put (some 19) (.agg (bvs root))).put (some 18) (.pointer (some ⟨g, 0, none⟩))).put (some 20) (.pointer (some ⟨gr, 0, none⟩))).put (some 7) (.pointer (some ⟨g, 0, none⟩))).put (some 8) (.pointer (some ⟨gr, 0, none⟩))) ∧ KP w0 V B g mv mg gr root TS0 TS0 0 ∧ Below V0.heap.size V0 V) A W5 := by
  have hm : Tryd.prog.follows .mixedOrders = true := by kernel_rfl
  unfold codeapart
  conv => arg 2; whnf
  refine wp_region_G (fun _ => false) ((fun V => V.heap[R]? = some (.cells (bvs root) 23 (0, 0)))) hm ?_
  rw [show ({ W5 with drawn := W5.drawn + 1 } : World) = V0 from hV0.symm]
  refine wpAnyG_take (i := 0) (v := .agg (bvs root)) rfl (by kernel_rfl) (by kernel_rfl) (by kernel_rfl) (fun _ _ _ h => nomatch h.1) (yieldsIf_load_mid (by simp [Region.wanted]) 23 (.tmp 3) rfl R 0 e3 (cellsOf root) _ (fun V hV => rangeJ hV) Tryd.underlying23 rfl (by rw [cellsOf_length, lk]; exact size_hash)) hs0 ?_
  show wpAnyG _ _ _ _ _ _ _ _ (A.put (some 17) (.agg (bvs root))) _
  refine wpAnyG_take (i := 2) (v := .agg (bvs root)) rfl (by kernel_rfl) (by kernel_rfl) (by kernel_rfl) (fun _ _ _ h => nomatch h.1) (yieldsIf_load_mid (by simp [Region.wanted]) 23 (.tmp 3) rfl R 0 ((ev_ne _ _ (by decide)).trans e3) (cellsOf root) _ (fun V hV => rangeJ hV) Tryd.underlying23 rfl (by rw [cellsOf_length, lk]; exact size_hash)) hs0 ?_
  show wpAnyG _ _ _ _ _ _ _ _ ((A.put (some 17) (.agg (bvs root))).put (some 19) (.agg (bvs root))) _
  refine wpAnyG_all (rs := [1]) (by kernel_rfl) (by simp) fun i1 hm1 => ?_
  obtain rfl : i1 = 1 := by simpa using hm1
  refine wpOp_own rfl rfl fun K1 hK1 => ?_
  refine wp_calls1 5 hf_newapart (.tmp 17) _ rfl (.agg (bvs root)) ((ev_ne _ _ (by decide)).trans (ev_eq _ _ (by simp [sz]))) ?_
  refine (new_any V0 root lk).mono ?_
  rintro _ V1 ⟨g, mv, mg, rfl, t1, hb1, hne⟩
  have hs1 := (hb1.block R (heap_lt hs0)).trans hs0
  refine ⟨_, rfl, hK1 _ _ ⟨.inr hs1, ?_⟩⟩
  clear hK1 K1 hm1
  show wpAnyG _ _ _ _ _ _ _ _ (((A.put (some 17) (.agg (bvs root))).put (some 19) (.agg (bvs root))).put (some 18) (.pointer (some ⟨g, 0, none⟩))) _
  refine wpAnyG_all (rs := [3]) (by kernel_rfl) (by simp) fun i2 hm2 => ?_
  obtain rfl : i2 = 3 := by simpa using hm2
  refine wpOp_own rfl rfl fun K2 hK2 => ?_
  refine wp_calls1 6 hf_rnewapart (.tmp 19) _ rfl (.agg (bvs root)) ((ev_ne _ _ (by decide)).trans (ev_eq _ _ (by simp [put_sz, sz]))) ?_
  refine (rNew_any V1 root lk).mono ?_
  rintro _ V2 ⟨gr, rfl, r2, hb2⟩
  have hs2 := (hb2.block R (heap_lt hs1)).trans hs1
  refine ⟨_, rfl, hK2 _ _ ⟨.inr hs2, ?_⟩⟩
  clear hK2 K2 hm2
  show wpAnyG _ _ _ _ _ _ _ _ ((((A.put (some 17) (.agg (bvs root))).put (some 19) (.agg (bvs root))).put (some 18) (.pointer (some ⟨g, 0, none⟩))).put (some 20) (.pointer (some ⟨gr, 0, none⟩))) _
  refine wpAnyG_one (i := 4) (v := .pointer (some ⟨g, 0, none⟩)) rfl (by kernel_rfl) (yg_as (by simp [Region.wanted]) (.tmp 18) rfl ((ev_ne _ _ (by decide)).trans (ev_eq _ _ (by simp [put_sz, sz])))) hs2 ?_
  show wpAnyG _ _ _ _ _ _ _ _ (((((A.put (some 17) (.agg (bvs root))).put (some 19) (.agg (bvs root))).put (some 18) (.pointer (some ⟨g, 0, none⟩))).put (some 20) (.pointer (some ⟨gr, 0, none⟩))).put (some 7) (.pointer (some ⟨g, 0, none⟩))) _
  refine wpAnyG_one (i := 5) (v := .pointer (some ⟨gr, 0, none⟩)) rfl (by kernel_rfl) (yg_as (by simp [Region.wanted]) (.tmp 20) rfl ((ev_ne _ _ (by decide)).trans (ev_eq _ _ (by simp [put_sz, sz])))) hs2 ?_
  show wpAnyG _ _ _ _ _ _ _ _ ((((((A.put (some 17) (.agg (bvs root))).put (some 19) (.agg (bvs root))).put (some 18) (.pointer (some ⟨g, 0, none⟩))).put (some 20) (.pointer (some ⟨gr, 0, none⟩))).put (some 7) (.pointer (some ⟨g, 0, none⟩))).put (some 8) (.pointer (some ⟨gr, 0, none⟩))) _
  refine wpAnyG_done (by kernel_rfl) ⟨rfl, g, mv, mg, gr, rfl, ⟨(treeM_new t1 hne hB).below hb2, rt_new r2 (Nat.le_trans hB hb1.size), TS0_ok, hb0.trans ((hb1.mono hB).trans (hb2.mono (Nat.le_trans hB hb1.size))), hB0⟩, Below.on' hb1 hb2⟩ _
theorem szC : (⟨#[99]⟩ : ByteArray).size ≤ maxLen := by unfold maxLen; decide
theorem szO : (⟨#[111, 116, 104, 101, 114]⟩ : ByteArray).size ≤ maxLen := by unfold maxLen; decide
section
attribute [local go_sem ↓] loadH_fold
set_option maxHeartbeats 8000000 in
theorem keysApart_walk {w : World} {O : Array Value} {root : List UInt8} (hO : HV O root) (l : List KD) (a : Option Addr) (cap : Nat) (hl : KDs w a l) (q : KD) (hq : KDOk w q) (hT : TabsJ w) :
    Calls Tryd.prog 3 #[.agg O, .slice a l.length cap, .agg q.vals.toArray] w fun e w' => e = .returned (.bool true) ∧ Below w.heap.size w w' := by
  have Hqt := hid hq.ten
  have Hqp := hid hq.pur
  show Calls _ _ #[.agg O, .slice a l.length cap, .agg #[.int .i64 q.kd, .string q.ten, .string q.pur, .slice q.a q.bs.length q.c, .int .i64 q.n, .bool q.last]] _ _
  clear hq
  obtain ⟨Z, hZ⟩ : ∃ Z, Z = bvs (List.replicate 32 0) := ⟨_, rfl⟩
  have zh := (zero_of_info zero_hash).1
  rw [← hZ] at zh
  have hz : Hid (HV Z (List.replicate 32 0)) := by
    show HV _ _
    rw [hZ]; exact hv_zero
  have Zh := hid zh
  obtain ⟨W0, hW0⟩ : ∃ W0, W0 = (w.alloc (.cells O 23)).alloc (.cells #[.int .i64 q.kd, .string q.ten, .string q.pur, .slice q.a q.bs.length q.c, .int .i64 q.n, .bool q.last] 27) := ⟨_, rfl⟩
  have b0 : Below w.heap.size w W0 := by rw [hW0]; exact ((Below.refl _ w).alloc (Nat.le_refl _) _).alloc (by simp) _
  have y0 : W0.heap[w.heap.size]? = some (.cells O 23 (0, 0)) := by rw [hW0]; exact heap_alloc2_old w _ _
  have X0 : Hid (XAt W0 (w.heap.size + 1) q) := by
    show XAt _ _ _
    rw [hW0]; exact heap_alloc2_new w _ _
  obtain rfl : O = bvs root := hO.eq
  have Hlk := hid hO.len
  have HT := hid (fun (W : World) (hW : Below W0.heap.size W0 W) => (show TabsJ W from ⟨TabAt.belowJ hT.1 (Below.on' b0 hW), hT.2.below (Below.on' b0 hW)⟩))
  have HKD := hid (hl.below b0)
  have Y0 := hid y0
  have B0 := hid b0
  have HW := hid hW0.symm
  obtain ⟨N, hN⟩ : ∃ N, N = l.length := ⟨_, rfl⟩
  rw [← hN]
  have HN := hid hN
  clear hW0 b0 y0 hT hl hO hN zh hZ
  go_enter Tryd.func3, Tryd.ntmps3
  go_wp2
  rw [HW.out]
  obtain ⟨V0, hV0⟩ : ∃ V0, V0 = W0.drew := ⟨_, rfl⟩
  have b00 : Below W0.heap.size W0 V0 := by rw [hV0]; exact (Below.refl _ W0).drew
  refine wp_act _ fun A hA => ?_
  have sz : A.tmps.size = 96 := by rw [hA]; rfl
  have e3 : A.eval (.tmp 3) = .pointer (some ⟨w.heap.size, 0, none⟩) := by rw [hA]; rfl
  refine wp_split _ (apart_region1 (w0 := W0) (B := W0.heap.size) (root := root) sz e3 Hlk.out b00.size (Nat.le_refl _) b00 hV0 ((b00.block _ (heap_lt Y0.out)).trans Y0.out)) ?_
  rintro _ V1 ⟨g, mv, mg, gr, rfl, hK1, b01⟩
  rw [hA]
  simp only [Act.put, List.setIfInBounds_toArray, List.set_cons_succ, List.set_cons_zero]
  have K1 := hid hK1
  have HTb := hid (fun (W : World) (hW : Below W0.heap.size W0 W) => B0.out.trans (hW.mono B0.out.size))
  clear sz e3 hA A hV0 V0 b00 hK1 b01 Y0
  by_cases e1 : q.ten = ⟨#[99]⟩
  · by_cases e2 : q.pur = ⟨#[111, 116, 104, 101, 114]⟩
    · skip
      have q1 : (q.ten.toList == [99]) = true := by rw [e1]; decide +kernel
      have q2 : (q.pur.toList == [111, 116, 104, 101, 114]) = true := by rw [e2]; decide +kernel
      clear e1 e2
      go_wp2_with (first
        | (go_at_call 7; refine (liveJ_any (HT.out V1 K1.out.b).1 (HT.out V1 K1.out.b).2).mono ?_; rintro _ w2 ⟨rfl, b2⟩; have K2 := hid (K1.out.below b2); clear b2)
        | (go_at_call 8; refine (play_any (n0 := 0) K2.out rfl (by omega) (Nat.le_refl _) (by omega) l a N cap HN.out HKD.out (HT.out W0 (Below.refl _ _))).mono ?_; rintro _ w3 ⟨rfl, s, hK3, hsn⟩; have K3 := hid hK3; obtain ⟨nc, ec, hcur⟩ : ∃ nc ec : Nat, s.cur ⟨#[99]⟩ ⟨#[111, 116, 104, 101, 114]⟩ = (nc, ec) := ⟨_, _, rfl⟩; obtain ⟨kc, ek, hkey⟩ : ∃ kc ek, s.keyR root ⟨#[99]⟩ ⟨#[111, 116, 104, 101, 114]⟩ (nc : Int) = (kc, ek) := ⟨_, _, rfl⟩; have HCur := hid (fun (W : World) (s' : TS) (d' : Nat) (h : TreeM W W0.heap.size g mv mg root s' d') (e : s'.cur ⟨#[99]⟩ ⟨#[111, 116, 104, 101, 114]⟩ = s.cur ⟨#[99]⟩ ⟨#[111, 116, 104, 101, 114]⟩) => by have := current_m h ⟨#[99]⟩ ⟨#[111, 116, 104, 101, 114]⟩ szC szO; rw [e, hcur] at this; exact this); have HKey := hid (fun (W : World) (s' : TS) (d' : Nat) (h : TreeM W W0.heap.size g mv mg root s' d') (e : s'.cur ⟨#[99]⟩ ⟨#[111, 116, 104, 101, 114]⟩ = s.cur ⟨#[99]⟩ ⟨#[111, 116, 104, 101, 114]⟩) (b : Below W0.heap.size W0 W) => by have := key_m h ⟨#[99]⟩ ⟨#[111, 116, 104, 101, 114]⟩ szC szO (nc : Int) (HT.out W b).1 (HT.out W b).2; rw [keyR_of e, hkey] at this; exact this); obtain ⟨x30, x31, x32, _, _, _⟩ := (X0.out.below (hK3.b)).c; clear hK3 hsn hcur hkey)
        | (go_at_call 10; refine (HKey.out w4 s _ K4.out.t rfl K4.out.b).mono ?_; rintro _ w5 ⟨O5, rfl, hO5, b5⟩; obtain rfl := hO5.eq; have HO5 := hid hO5; have hK5 := K4.out.below b5; have HX5 : Hid ((w5.alloc (.cells Z 23)).heap[w5.heap.size]? = some (.cells Z 23 (0, 0))) := heap_alloc_new w5 _; have HY5 : Hid (((w5.alloc (.cells Z 23)).setRow w5.heap.size (bvs kc)).heap[w5.heap.size]? = some (.cells (bvs kc) 23 (0, 0))) := setRow_heap _ _ _ _ _ _ HX5.out; have b6 : Below w5.heap.size w5 ((w5.alloc (.cells Z 23)).setRow w5.heap.size (bvs kc)) := ((Below.refl _ w5).alloc (Nat.le_refl _) _).setRow (Nat.le_refl _) _; have hK6 := hK5.below b6; have K6 := hid hK6; obtain ⟨x60, x61, x62, _, _, _⟩ := (X0.out.below hK6.b).c; clear b5 b6 hK5 hK6 hO5 K4)
        | (go_at_call 9; refine (HCur.out w3 s _ K3.out.t rfl).mono ?_; rintro _ w4 ⟨rfl, b4⟩; have K4 := hid (K3.out.below b4); clear b4 K3)
        | (with_reducible show Go.wpList _ _ _ _ _ _; refine wpList_alloc_row rfl 23 rfl Z Zh.out ?_)
        | (with_reducible show Go.wpList _ _ _ _ _ _; first | refine wpList_store_row rfl 23 _ _ rfl w5.heap.size (bvs kc) rfl rfl 23 Z HX5.out HO5.out.info (hz.out.size.trans HO5.out.size.symm) HO5.out.one ?_ | refine wpList_store_row rfl 23 _ _ rfl w5.heap.size (bvs kc) rfl rfl 23 Z HX5.out HO5.out.info (hz.out.size.trans HO5.out.size.symm) HO5.out.one ?_))
      go_ret
      exact ⟨rfl, HTb.out _ K6.out.b⟩
    · by_cases e3 : q.kd = 1
      · skip
        have Hne : Hid (¬ (q.ten = ⟨#[99]⟩ ∧ q.pur = ⟨#[111, 116, 104, 101, 114]⟩)) := fun h => e2 h.2
        have q1 : (q.ten.toList == [99]) = true := by rw [e1]; decide +kernel
        have q2 : (q.pur.toList == [111, 116, 104, 101, 114]) = false := by rw [beq_eq_false_iff_ne]; exact fun e' => e2 ((str_eqJ _ _).2 (e'.trans (by decide +kernel)))
        clear e1 e2
        have q3 : (q.kd == 1) = true := by simpa using e3
        clear e3
        go_wp2_with (first
          | (go_at_call 7; refine (liveJ_any (HT.out V1 K1.out.b).1 (HT.out V1 K1.out.b).2).mono ?_; rintro _ w2 ⟨rfl, b2⟩; have K2 := hid (K1.out.below b2); clear b2)
          | (go_at_call 8; refine (play_any (n0 := 0) K2.out rfl (by omega) (Nat.le_refl _) (by omega) l a N cap HN.out HKD.out (HT.out W0 (Below.refl _ _))).mono ?_; rintro _ w3 ⟨rfl, s, hK3, hsn⟩; have K3 := hid hK3; obtain ⟨nc, ec, hcur⟩ : ∃ nc ec : Nat, s.cur ⟨#[99]⟩ ⟨#[111, 116, 104, 101, 114]⟩ = (nc, ec) := ⟨_, _, rfl⟩; obtain ⟨kc, ek, hkey⟩ : ∃ kc ek, s.keyR root ⟨#[99]⟩ ⟨#[111, 116, 104, 101, 114]⟩ (nc : Int) = (kc, ek) := ⟨_, _, rfl⟩; have HCur := hid (fun (W : World) (s' : TS) (d' : Nat) (h : TreeM W W0.heap.size g mv mg root s' d') (e : s'.cur ⟨#[99]⟩ ⟨#[111, 116, 104, 101, 114]⟩ = s.cur ⟨#[99]⟩ ⟨#[111, 116, 104, 101, 114]⟩) => by have := current_m h ⟨#[99]⟩ ⟨#[111, 116, 104, 101, 114]⟩ szC szO; rw [e, hcur] at this; exact this); have HKey := hid (fun (W : World) (s' : TS) (d' : Nat) (h : TreeM W W0.heap.size g mv mg root s' d') (e : s'.cur ⟨#[99]⟩ ⟨#[111, 116, 104, 101, 114]⟩ = s.cur ⟨#[99]⟩ ⟨#[111, 116, 104, 101, 114]⟩) (b : Below W0.heap.size W0 W) => by have := key_m h ⟨#[99]⟩ ⟨#[111, 116, 104, 101, 114]⟩ szC szO (nc : Int) (HT.out W b).1 (HT.out W b).2; rw [keyR_of e, hkey] at this; exact this); obtain ⟨x30, x31, x32, _, _, _⟩ := (X0.out.below (hK3.b)).c; clear hK3 hsn hcur hkey)
          | (go_at_call 10; refine (HKey.out w9 s7 _ K9.out.t Hc7.out K9.out.b).mono ?_; rintro _ w10 ⟨O10, rfl, hO10, b10⟩; obtain rfl := hO10.eq; have HX10 : Hid ((w10.alloc (.cells Z 23)).heap[w10.heap.size]? = some (.cells Z 23 (0, 0))) := heap_alloc_new w10 _; have hY10 : ((w10.alloc (.cells Z 23)).setRow w10.heap.size (bvs kc)).heap[w10.heap.size]? = some (.cells (bvs kc) 23 (0, 0)) := setRow_heap _ _ _ _ _ _ HX10.out; have b11 : Below w10.heap.size w10 ((w10.alloc (.cells Z 23)).setRow w10.heap.size (bvs kc)) := ((Below.refl _ w10).alloc (Nat.le_refl _) _).setRow (Nat.le_refl _) _; have K11 := hid ((K9.out.below b10).below b11); have hl1 := loadH_run HO5.out ((b11.block _ (Nat.lt_of_lt_of_le (heap_lt HY9.out) b10.size)).trans ((b10.block _ (heap_lt HY9.out)).trans HY9.out)); have hl2 := loadH_run HO5.out hY10; have hqq := hash_same HO5.out HO5.out; clear b10 b11 hY10 hO10)
          | (go_at_call 9; refine (HCur.out w7 s7 _ K7.out.t Hc7.out).mono ?_; rintro _ w9 ⟨rfl, b9⟩; have K9 := hid (K7.out.below b9); have HY9 := hid ((b9.block _ (heap_lt HY7.out)).trans HY7.out); clear b9 K7)
          | (go_at_call 11; refine (rotate_m K6.out.t (by omega) q.ten q.pur Hqt.out Hqp.out).mono ?_; rintro _ w7 ⟨rfl, t7, o7⟩; have hK7 := K6.out.prog t7 o7; have HY7 := hid ((o7.block _ (heap_lt HY5.out) (mine_typed K6.out.t HY5.out (by decide))).trans HY5.out); have Hc7 := hid (rot_cur s q.ten q.pur ⟨#[99]⟩ ⟨#[111, 116, 104, 101, 114]⟩ Hne.out); obtain ⟨s7, hs7⟩ : ∃ s7, s7 = (s.rotR q.ten q.pur).1 := ⟨_, rfl⟩; rw [← hs7] at hK7 Hc7; have K7 := hid hK7; obtain ⟨x70, x71, x72, _, _, _⟩ := (X0.out.below hK7.b).c; clear t7 o7 hK7 hs7 K6)
          | (go_at_call 10; refine (HKey.out w4 s _ K4.out.t rfl K4.out.b).mono ?_; rintro _ w5 ⟨O5, rfl, hO5, b5⟩; obtain rfl := hO5.eq; have HO5 := hid hO5; have hK5 := K4.out.below b5; have HX5 : Hid ((w5.alloc (.cells Z 23)).heap[w5.heap.size]? = some (.cells Z 23 (0, 0))) := heap_alloc_new w5 _; have HY5 : Hid (((w5.alloc (.cells Z 23)).setRow w5.heap.size (bvs kc)).heap[w5.heap.size]? = some (.cells (bvs kc) 23 (0, 0))) := setRow_heap _ _ _ _ _ _ HX5.out; have b6 : Below w5.heap.size w5 ((w5.alloc (.cells Z 23)).setRow w5.heap.size (bvs kc)) := ((Below.refl _ w5).alloc (Nat.le_refl _) _).setRow (Nat.le_refl _) _; have hK6 := hK5.below b6; have K6 := hid hK6; obtain ⟨x60, x61, x62, _, _, _⟩ := (X0.out.below hK6.b).c; clear b5 b6 hK5 hK6 hO5 K4)
          | (go_at_call 9; refine (HCur.out w3 s _ K3.out.t rfl).mono ?_; rintro _ w4 ⟨rfl, b4⟩; have K4 := hid (K3.out.below b4); clear b4 K3)
          | (with_reducible show Go.wpList _ _ _ _ _ _; refine wpList_alloc_row rfl 23 rfl Z Zh.out ?_)
          | (with_reducible show Go.wpList _ _ _ _ _ _; first | refine wpList_store_row rfl 23 _ _ rfl w10.heap.size (bvs kc) rfl rfl 23 Z HX10.out HO5.out.info (hz.out.size.trans HO5.out.size.symm) HO5.out.one ?_ | refine wpList_store_row rfl 23 _ _ rfl w5.heap.size (bvs kc) rfl rfl 23 Z HX5.out HO5.out.info (hz.out.size.trans HO5.out.size.symm) HO5.out.one ?_))
        go_ret
        exact ⟨rfl, HTb.out _ K11.out.b⟩
      · skip
        have Hne : Hid (¬ (q.ten = ⟨#[99]⟩ ∧ q.pur = ⟨#[111, 116, 104, 101, 114]⟩)) := fun h => e2 h.2
        have q1 : (q.ten.toList == [99]) = true := by rw [e1]; decide +kernel
        have q2 : (q.pur.toList == [111, 116, 104, 101, 114]) = false := by rw [beq_eq_false_iff_ne]; exact fun e' => e2 ((str_eqJ _ _).2 (e'.trans (by decide +kernel)))
        clear e1 e2
        have q3 : (q.kd == 1) = false := by simpa using e3
        clear e3
        go_wp2_with (first
          | (go_at_call 7; refine (liveJ_any (HT.out V1 K1.out.b).1 (HT.out V1 K1.out.b).2).mono ?_; rintro _ w2 ⟨rfl, b2⟩; have K2 := hid (K1.out.below b2); clear b2)
          | (go_at_call 8; refine (play_any (n0 := 0) K2.out rfl (by omega) (Nat.le_refl _) (by omega) l a N cap HN.out HKD.out (HT.out W0 (Below.refl _ _))).mono ?_; rintro _ w3 ⟨rfl, s, hK3, hsn⟩; have K3 := hid hK3; obtain ⟨nc, ec, hcur⟩ : ∃ nc ec : Nat, s.cur ⟨#[99]⟩ ⟨#[111, 116, 104, 101, 114]⟩ = (nc, ec) := ⟨_, _, rfl⟩; obtain ⟨kc, ek, hkey⟩ : ∃ kc ek, s.keyR root ⟨#[99]⟩ ⟨#[111, 116, 104, 101, 114]⟩ (nc : Int) = (kc, ek) := ⟨_, _, rfl⟩; have HCur := hid (fun (W : World) (s' : TS) (d' : Nat) (h : TreeM W W0.heap.size g mv mg root s' d') (e : s'.cur ⟨#[99]⟩ ⟨#[111, 116, 104, 101, 114]⟩ = s.cur ⟨#[99]⟩ ⟨#[111, 116, 104, 101, 114]⟩) => by have := current_m h ⟨#[99]⟩ ⟨#[111, 116, 104, 101, 114]⟩ szC szO; rw [e, hcur] at this; exact this); have HKey := hid (fun (W : World) (s' : TS) (d' : Nat) (h : TreeM W W0.heap.size g mv mg root s' d') (e : s'.cur ⟨#[99]⟩ ⟨#[111, 116, 104, 101, 114]⟩ = s.cur ⟨#[99]⟩ ⟨#[111, 116, 104, 101, 114]⟩) (b : Below W0.heap.size W0 W) => by have := key_m h ⟨#[99]⟩ ⟨#[111, 116, 104, 101, 114]⟩ szC szO (nc : Int) (HT.out W b).1 (HT.out W b).2; rw [keyR_of e, hkey] at this; exact this); obtain ⟨x30, x31, x32, _, _, _⟩ := (X0.out.below (hK3.b)).c; clear hK3 hsn hcur hkey)
          | (go_at_call 10; refine (HKey.out w9 s7 _ K9.out.t Hc7.out K9.out.b).mono ?_; rintro _ w10 ⟨O10, rfl, hO10, b10⟩; obtain rfl := hO10.eq; have HX10 : Hid ((w10.alloc (.cells Z 23)).heap[w10.heap.size]? = some (.cells Z 23 (0, 0))) := heap_alloc_new w10 _; have hY10 : ((w10.alloc (.cells Z 23)).setRow w10.heap.size (bvs kc)).heap[w10.heap.size]? = some (.cells (bvs kc) 23 (0, 0)) := setRow_heap _ _ _ _ _ _ HX10.out; have b11 : Below w10.heap.size w10 ((w10.alloc (.cells Z 23)).setRow w10.heap.size (bvs kc)) := ((Below.refl _ w10).alloc (Nat.le_refl _) _).setRow (Nat.le_refl _) _; have K11 := hid ((K9.out.below b10).below b11); have hl1 := loadH_run HO5.out ((b11.block _ (Nat.lt_of_lt_of_le (heap_lt HY9.out) b10.size)).trans ((b10.block _ (heap_lt HY9.out)).trans HY9.out)); have hl2 := loadH_run HO5.out hY10; have hqq := hash_same HO5.out HO5.out; clear b10 b11 hY10 hO10)
          | (go_at_call 9; refine (HCur.out w7 s7 _ K7.out.t Hc7.out).mono ?_; rintro _ w9 ⟨rfl, b9⟩; have K9 := hid (K7.out.below b9); have HY9 := hid ((b9.block _ (heap_lt HY7.out)).trans HY7.out); clear b9 K7)
          | (go_at_call 11; refine (rotate_m K6.out.t (by omega) q.ten q.pur Hqt.out Hqp.out).mono ?_; rintro _ w7 ⟨rfl, t7, o7⟩; have hK7 := K6.out.prog t7 o7; have HY7 := hid ((o7.block _ (heap_lt HY5.out) (mine_typed K6.out.t HY5.out (by decide))).trans HY5.out); have Hc7 := hid (rot_cur s q.ten q.pur ⟨#[99]⟩ ⟨#[111, 116, 104, 101, 114]⟩ Hne.out); obtain ⟨s7, hs7⟩ : ∃ s7, s7 = (s.rotR q.ten q.pur).1 := ⟨_, rfl⟩; rw [← hs7] at hK7 Hc7; have K7 := hid hK7; obtain ⟨x70, x71, x72, _, _, _⟩ := (X0.out.below hK7.b).c; clear t7 o7 hK7 hs7 K6)
          | (go_at_call 10; refine (HKey.out w4 s _ K4.out.t rfl K4.out.b).mono ?_; rintro _ w5 ⟨O5, rfl, hO5, b5⟩; obtain rfl := hO5.eq; have HO5 := hid hO5; have hK5 := K4.out.below b5; have HX5 : Hid ((w5.alloc (.cells Z 23)).heap[w5.heap.size]? = some (.cells Z 23 (0, 0))) := heap_alloc_new w5 _; have HY5 : Hid (((w5.alloc (.cells Z 23)).setRow w5.heap.size (bvs kc)).heap[w5.heap.size]? = some (.cells (bvs kc) 23 (0, 0))) := setRow_heap _ _ _ _ _ _ HX5.out; have b6 : Below w5.heap.size w5 ((w5.alloc (.cells Z 23)).setRow w5.heap.size (bvs kc)) := ((Below.refl _ w5).alloc (Nat.le_refl _) _).setRow (Nat.le_refl _) _; have hK6 := hK5.below b6; have K6 := hid hK6; obtain ⟨x60, x61, x62, _, _, _⟩ := (X0.out.below hK6.b).c; clear b5 b6 hK5 hK6 hO5 K4)
          | (go_at_call 9; refine (HCur.out w3 s _ K3.out.t rfl).mono ?_; rintro _ w4 ⟨rfl, b4⟩; have K4 := hid (K3.out.below b4); clear b4 K3)
          | (with_reducible show Go.wpList _ _ _ _ _ _; refine wpList_alloc_row rfl 23 rfl Z Zh.out ?_)
          | (with_reducible show Go.wpList _ _ _ _ _ _; first | refine wpList_store_row rfl 23 _ _ rfl w10.heap.size (bvs kc) rfl rfl 23 Z HX10.out HO5.out.info (hz.out.size.trans HO5.out.size.symm) HO5.out.one ?_ | refine wpList_store_row rfl 23 _ _ rfl w5.heap.size (bvs kc) rfl rfl 23 Z HX5.out HO5.out.info (hz.out.size.trans HO5.out.size.symm) HO5.out.one ?_))
        go_ret
        exact ⟨rfl, HTb.out _ K11.out.b⟩
  · by_cases e3 : q.kd = 1
    · skip
      have Hne : Hid (¬ (q.ten = ⟨#[99]⟩ ∧ q.pur = ⟨#[111, 116, 104, 101, 114]⟩)) := fun h => e1 h.1
      have Htn := hid e1
      have q1 : (q.ten.toList == [99]) = false := by rw [beq_eq_false_iff_ne]; exact fun e' => e1 ((str_eqJ _ _).2 (e'.trans (by decide +kernel)))
      clear e1
      have q3 : (q.kd == 1) = true := by simpa using e3
      clear e3
      go_wp2_with (first
        | (go_at_call 7; refine (liveJ_any (HT.out V1 K1.out.b).1 (HT.out V1 K1.out.b).2).mono ?_; rintro _ w2 ⟨rfl, b2⟩; have K2 := hid (K1.out.below b2); clear b2)
        | (go_at_call 8; refine (play_any (n0 := 0) K2.out rfl (by omega) (Nat.le_refl _) (by omega) l a N cap HN.out HKD.out (HT.out W0 (Below.refl _ _))).mono ?_; rintro _ w3 ⟨rfl, s, hK3, hsn⟩; have K3 := hid hK3; obtain ⟨nc, ec, hcur⟩ : ∃ nc ec : Nat, s.cur ⟨#[99]⟩ ⟨#[111, 116, 104, 101, 114]⟩ = (nc, ec) := ⟨_, _, rfl⟩; obtain ⟨kc, ek, hkey⟩ : ∃ kc ek, s.keyR root ⟨#[99]⟩ ⟨#[111, 116, 104, 101, 114]⟩ (nc : Int) = (kc, ek) := ⟨_, _, rfl⟩; have HCur := hid (fun (W : World) (s' : TS) (d' : Nat) (h : TreeM W W0.heap.size g mv mg root s' d') (e : s'.cur ⟨#[99]⟩ ⟨#[111, 116, 104, 101, 114]⟩ = s.cur ⟨#[99]⟩ ⟨#[111, 116, 104, 101, 114]⟩) => by have := current_m h ⟨#[99]⟩ ⟨#[111, 116, 104, 101, 114]⟩ szC szO; rw [e, hcur] at this; exact this); have HKey := hid (fun (W : World) (s' : TS) (d' : Nat) (h : TreeM W W0.heap.size g mv mg root s' d') (e : s'.cur ⟨#[99]⟩ ⟨#[111, 116, 104, 101, 114]⟩ = s.cur ⟨#[99]⟩ ⟨#[111, 116, 104, 101, 114]⟩) (b : Below W0.heap.size W0 W) => by have := key_m h ⟨#[99]⟩ ⟨#[111, 116, 104, 101, 114]⟩ szC szO (nc : Int) (HT.out W b).1 (HT.out W b).2; rw [keyR_of e, hkey] at this; exact this); obtain ⟨x30, x31, x32, _, _, _⟩ := (X0.out.below (hK3.b)).c; clear hK3 hsn hcur hkey)
        | (go_at_call 10; refine (HKey.out w9 s8 _ K9.out.t Hc8.out K9.out.b).mono ?_; rintro _ w10 ⟨O10, rfl, hO10, b10⟩; obtain rfl := hO10.eq; have HX10 : Hid ((w10.alloc (.cells Z 23)).heap[w10.heap.size]? = some (.cells Z 23 (0, 0))) := heap_alloc_new w10 _; have hY10 : ((w10.alloc (.cells Z 23)).setRow w10.heap.size (bvs kc)).heap[w10.heap.size]? = some (.cells (bvs kc) 23 (0, 0)) := setRow_heap _ _ _ _ _ _ HX10.out; have b11 : Below w10.heap.size w10 ((w10.alloc (.cells Z 23)).setRow w10.heap.size (bvs kc)) := ((Below.refl _ w10).alloc (Nat.le_refl _) _).setRow (Nat.le_refl _) _; have K11 := hid ((K9.out.below b10).below b11); have hl1 := loadH_run HO5.out ((b11.block _ (Nat.lt_of_lt_of_le (heap_lt HY9.out) b10.size)).trans ((b10.block _ (heap_lt HY9.out)).trans HY9.out)); have hl2 := loadH_run HO5.out hY10; have hqq := hash_same HO5.out HO5.out; clear b10 b11 hY10 hO10)
        | (go_at_call 9; refine (HCur.out w8 s8 _ K8.out.t Hc8.out).mono ?_; rintro _ w9 ⟨rfl, b9⟩; have K9 := hid (K8.out.below b9); have HY9 := hid ((b9.block _ (heap_lt HY8.out)).trans HY8.out); clear b9 K8)
        | (go_at_call 12; refine (destroy_m K7.out.t (by omega) q.ten Hqt.out).mono ?_; rintro _ w8 ⟨rfl, t8, o8⟩; have hK8 := K7.out.prog t8 o8; have HY8 := hid ((o8.block _ (heap_lt HY7.out) (mine_typed K7.out.t HY7.out (by decide))).trans HY7.out); have Hc8 := hid ((des_cur s7 q.ten ⟨#[99]⟩ ⟨#[111, 116, 104, 101, 114]⟩ Htn.out).trans Hc7.out); obtain ⟨s8, hs8⟩ : ∃ s8, s8 = (s7.desR q.ten).1 := ⟨_, rfl⟩; rw [← hs8] at hK8 Hc8; have K8 := hid hK8; clear t8 o8 hK8 hs8 K7)
        | (go_at_call 11; refine (rotate_m K6.out.t (by omega) q.ten q.pur Hqt.out Hqp.out).mono ?_; rintro _ w7 ⟨rfl, t7, o7⟩; have hK7 := K6.out.prog t7 o7; have HY7 := hid ((o7.block _ (heap_lt HY5.out) (mine_typed K6.out.t HY5.out (by decide))).trans HY5.out); have Hc7 := hid (rot_cur s q.ten q.pur ⟨#[99]⟩ ⟨#[111, 116, 104, 101, 114]⟩ Hne.out); obtain ⟨s7, hs7⟩ : ∃ s7, s7 = (s.rotR q.ten q.pur).1 := ⟨_, rfl⟩; rw [← hs7] at hK7 Hc7; have K7 := hid hK7; obtain ⟨x70, x71, x72, _, _, _⟩ := (X0.out.below hK7.b).c; clear t7 o7 hK7 hs7 K6)
        | (go_at_call 10; refine (HKey.out w4 s _ K4.out.t rfl K4.out.b).mono ?_; rintro _ w5 ⟨O5, rfl, hO5, b5⟩; obtain rfl := hO5.eq; have HO5 := hid hO5; have hK5 := K4.out.below b5; have HX5 : Hid ((w5.alloc (.cells Z 23)).heap[w5.heap.size]? = some (.cells Z 23 (0, 0))) := heap_alloc_new w5 _; have HY5 : Hid (((w5.alloc (.cells Z 23)).setRow w5.heap.size (bvs kc)).heap[w5.heap.size]? = some (.cells (bvs kc) 23 (0, 0))) := setRow_heap _ _ _ _ _ _ HX5.out; have b6 : Below w5.heap.size w5 ((w5.alloc (.cells Z 23)).setRow w5.heap.size (bvs kc)) := ((Below.refl _ w5).alloc (Nat.le_refl _) _).setRow (Nat.le_refl _) _; have hK6 := hK5.below b6; have K6 := hid hK6; obtain ⟨x60, x61, x62, _, _, _⟩ := (X0.out.below hK6.b).c; clear b5 b6 hK5 hK6 hO5 K4)
        | (go_at_call 9; refine (HCur.out w3 s _ K3.out.t rfl).mono ?_; rintro _ w4 ⟨rfl, b4⟩; have K4 := hid (K3.out.below b4); clear b4 K3)
        | (with_reducible show Go.wpList _ _ _ _ _ _; refine wpList_alloc_row rfl 23 rfl Z Zh.out ?_)
        | (with_reducible show Go.wpList _ _ _ _ _ _; first | refine wpList_store_row rfl 23 _ _ rfl w10.heap.size (bvs kc) rfl rfl 23 Z HX10.out HO5.out.info (hz.out.size.trans HO5.out.size.symm) HO5.out.one ?_ | refine wpList_store_row rfl 23 _ _ rfl w5.heap.size (bvs kc) rfl rfl 23 Z HX5.out HO5.out.info (hz.out.size.trans HO5.out.size.symm) HO5.out.one ?_))
      go_ret
      exact ⟨rfl, HTb.out _ K11.out.b⟩
    · skip
      have Hne : Hid (¬ (q.ten = ⟨#[99]⟩ ∧ q.pur = ⟨#[111, 116, 104, 101, 114]⟩)) := fun h => e1 h.1
      have Htn := hid e1
      have q1 : (q.ten.toList == [99]) = false := by rw [beq_eq_false_iff_ne]; exact fun e' => e1 ((str_eqJ _ _).2 (e'.trans (by decide +kernel)))
      clear e1
      have q3 : (q.kd == 1) = false := by simpa using e3
      clear e3
      go_wp2_with (first
        | (go_at_call 7; refine (liveJ_any (HT.out V1 K1.out.b).1 (HT.out V1 K1.out.b).2).mono ?_; rintro _ w2 ⟨rfl, b2⟩; have K2 := hid (K1.out.below b2); clear b2)
        | (go_at_call 8; refine (play_any (n0 := 0) K2.out rfl (by omega) (Nat.le_refl _) (by omega) l a N cap HN.out HKD.out (HT.out W0 (Below.refl _ _))).mono ?_; rintro _ w3 ⟨rfl, s, hK3, hsn⟩; have K3 := hid hK3; obtain ⟨nc, ec, hcur⟩ : ∃ nc ec : Nat, s.cur ⟨#[99]⟩ ⟨#[111, 116, 104, 101, 114]⟩ = (nc, ec) := ⟨_, _, rfl⟩; obtain ⟨kc, ek, hkey⟩ : ∃ kc ek, s.keyR root ⟨#[99]⟩ ⟨#[111, 116, 104, 101, 114]⟩ (nc : Int) = (kc, ek) := ⟨_, _, rfl⟩; have HCur := hid (fun (W : World) (s' : TS) (d' : Nat) (h : TreeM W W0.heap.size g mv mg root s' d') (e : s'.cur ⟨#[99]⟩ ⟨#[111, 116, 104, 101, 114]⟩ = s.cur ⟨#[99]⟩ ⟨#[111, 116, 104, 101, 114]⟩) => by have := current_m h ⟨#[99]⟩ ⟨#[111, 116, 104, 101, 114]⟩ szC szO; rw [e, hcur] at this; exact this); have HKey := hid (fun (W : World) (s' : TS) (d' : Nat) (h : TreeM W W0.heap.size g mv mg root s' d') (e : s'.cur ⟨#[99]⟩ ⟨#[111, 116, 104, 101, 114]⟩ = s.cur ⟨#[99]⟩ ⟨#[111, 116, 104, 101, 114]⟩) (b : Below W0.heap.size W0 W) => by have := key_m h ⟨#[99]⟩ ⟨#[111, 116, 104, 101, 114]⟩ szC szO (nc : Int) (HT.out W b).1 (HT.out W b).2; rw [keyR_of e, hkey] at this; exact this); obtain ⟨x30, x31, x32, _, _, _⟩ := (X0.out.below (hK3.b)).c; clear hK3 hsn hcur hkey)
        | (go_at_call 10; refine (HKey.out w9 s7 _ K9.out.t Hc7.out K9.out.b).mono ?_; rintro _ w10 ⟨O10, rfl, hO10, b10⟩; obtain rfl := hO10.eq; have HX10 : Hid ((w10.alloc (.cells Z 23)).heap[w10.heap.size]? = some (.cells Z 23 (0, 0))) := heap_alloc_new w10 _; have hY10 : ((w10.alloc (.cells Z 23)).setRow w10.heap.size (bvs kc)).heap[w10.heap.size]? = some (.cells (bvs kc) 23 (0, 0)) := setRow_heap _ _ _ _ _ _ HX10.out; have b11 : Below w10.heap.size w10 ((w10.alloc (.cells Z 23)).setRow w10.heap.size (bvs kc)) := ((Below.refl _ w10).alloc (Nat.le_refl _) _).setRow (Nat.le_refl _) _; have K11 := hid ((K9.out.below b10).below b11); have hl1 := loadH_run HO5.out ((b11.block _ (Nat.lt_of_lt_of_le (heap_lt HY9.out) b10.size)).trans ((b10.block _ (heap_lt HY9.out)).trans HY9.out)); have hl2 := loadH_run HO5.out hY10; have hqq := hash_same HO5.out HO5.out; clear b10 b11 hY10 hO10)
        | (go_at_call 9; refine (HCur.out w7 s7 _ K7.out.t Hc7.out).mono ?_; rintro _ w9 ⟨rfl, b9⟩; have K9 := hid (K7.out.below b9); have HY9 := hid ((b9.block _ (heap_lt HY7.out)).trans HY7.out); clear b9 K7)
        | (go_at_call 11; refine (rotate_m K6.out.t (by omega) q.ten q.pur Hqt.out Hqp.out).mono ?_; rintro _ w7 ⟨rfl, t7, o7⟩; have hK7 := K6.out.prog t7 o7; have HY7 := hid ((o7.block _ (heap_lt HY5.out) (mine_typed K6.out.t HY5.out (by decide))).trans HY5.out); have Hc7 := hid (rot_cur s q.ten q.pur ⟨#[99]⟩ ⟨#[111, 116, 104, 101, 114]⟩ Hne.out); obtain ⟨s7, hs7⟩ : ∃ s7, s7 = (s.rotR q.ten q.pur).1 := ⟨_, rfl⟩; rw [← hs7] at hK7 Hc7; have K7 := hid hK7; obtain ⟨x70, x71, x72, _, _, _⟩ := (X0.out.below hK7.b).c; clear t7 o7 hK7 hs7 K6)
        | (go_at_call 10; refine (HKey.out w4 s _ K4.out.t rfl K4.out.b).mono ?_; rintro _ w5 ⟨O5, rfl, hO5, b5⟩; obtain rfl := hO5.eq; have HO5 := hid hO5; have hK5 := K4.out.below b5; have HX5 : Hid ((w5.alloc (.cells Z 23)).heap[w5.heap.size]? = some (.cells Z 23 (0, 0))) := heap_alloc_new w5 _; have HY5 : Hid (((w5.alloc (.cells Z 23)).setRow w5.heap.size (bvs kc)).heap[w5.heap.size]? = some (.cells (bvs kc) 23 (0, 0))) := setRow_heap _ _ _ _ _ _ HX5.out; have b6 : Below w5.heap.size w5 ((w5.alloc (.cells Z 23)).setRow w5.heap.size (bvs kc)) := ((Below.refl _ w5).alloc (Nat.le_refl _) _).setRow (Nat.le_refl _) _; have hK6 := hK5.below b6; have K6 := hid hK6; obtain ⟨x60, x61, x62, _, _, _⟩ := (X0.out.below hK6.b).c; clear b5 b6 hK5 hK6 hO5 K4)
        | (go_at_call 9; refine (HCur.out w3 s _ K3.out.t rfl).mono ?_; rintro _ w4 ⟨rfl, b4⟩; have K4 := hid (K3.out.below b4); clear b4 K3)
        | (with_reducible show Go.wpList _ _ _ _ _ _; refine wpList_alloc_row rfl 23 rfl Z Zh.out ?_)
        | (with_reducible show Go.wpList _ _ _ _ _ _; first | refine wpList_store_row rfl 23 _ _ rfl w10.heap.size (bvs kc) rfl rfl 23 Z HX10.out HO5.out.info (hz.out.size.trans HO5.out.size.symm) HO5.out.one ?_ | refine wpList_store_row rfl 23 _ _ rfl w5.heap.size (bvs kc) rfl rfl 23 Z HX5.out HO5.out.info (hz.out.size.trans HO5.out.size.symm) HO5.out.one ?_))
      go_ret
      exact ⟨rfl, HTb.out _ K11.out.b⟩
end
end Go.Proofs.YtdglmoikgmlaaaaDoor
