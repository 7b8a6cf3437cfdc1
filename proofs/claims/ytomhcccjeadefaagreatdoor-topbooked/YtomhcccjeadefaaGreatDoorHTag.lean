/- The HMAC of bytes: hash.Tag. -/
import Derived.Test.YtomhcccjeadefaaGreatDoorHMask
namespace Go.Proofs.YtomhcccjeadefaaGreatDoor
open Go.RowKit
set_option linter.unusedVariables false
set_option maxRecDepth 20000
theorem hf_start : ∀ (args : Array Value) (w : World), (callFunc 16 args).run Tryz.prog w = .ok (.enter 16 args) w := fun args w => by simp [go_sem]
theorem hf_masked : ∀ (args : Array Value) (w : World), (callFunc 77 args).run Tryz.prog w = .ok (.enter 77 args) w := fun args w => by simp [go_sem]
theorem hf_with : ∀ (args : Array Value) (w : World), (callFunc 17 args).run Tryz.prog w = .ok (.enter 17 args) w := fun args w => by simp [go_sem]
theorem hf_sum : ∀ (args : Array Value) (w : World), (callFunc 18 args).run Tryz.prog w = .ok (.enter 18 args) w := fun args w => by simp [go_sem]
theorem yields_slice_hash {ops : Array Oper} {S : World → Prop} {op : Oper} {a : Act} (hw : Region.wanted op (yielded ops a.tmps) = true) (x : Operand) (ho : op.op = .slice 27 x none none none) (g : Nat) (hx : a.eval x = .pointer (some ⟨g, 0, none⟩)) : YieldsIf Tryz.prog ops S op (.slice (some ⟨g, 0, none⟩) 32 32) a := by
  refine .inl ⟨hw, fun w _ => ?_⟩
  unfold execOp
  simp only [ho, hx]
  simp [go_sem]
theorem yields_move {ops : Array Oper} {S : World → Prop} {op : Oper} {a : Act} (hw : Region.wanted op (yielded ops a.tmps) = true) (x : Operand) (ho : op.op = .move x) (v : Value) (hx : a.eval x = v) : YieldsIf Tryz.prog ops S op v a := by
  refine .inl ⟨hw, fun w _ => ?_⟩
  unfold execOp
  simp only [ho, hx]
  simp [go_sem]
theorem wp_store_hash {o : Oper} {a : Act} {w : World} {K : Act → World → Prop} {Q : Exit → Act → World → Prop} (x y : Operand) (ho : o.op = .store 27 x y) (g : Nat) (O Y : Array Value) {l m : List UInt8} (hO : HV O l) (hY : HV Y m) (ha : a.eval x = .pointer (some ⟨g, 0, none⟩)) (hb : a.eval y = .agg O)
    (hg : w.heap[g]? = some (.cells Y 27 (0, 0))) (h : K (a.put o.dst undef) (w.setRow g O)) : o.wp Tryz.prog a w K Q :=
  wp_store_row 27 x y ho g O ha hb 27 Y hg hO.info (hY.size.trans hO.size.symm) hO.one h
theorem masked36 {w : World} (key : List UInt8) (a : Option Addr) (n cap : Nat) (hn : n = key.length) (hB : Bytes w a key) (hl : key.length < 1152921504606846976) (hcap : key.length ≤ cap) (hK : KAt w) :
    Calls Tryz.prog 77 #[.slice a n cap, .int .u8 54] w (MaskPost w (maskB 0x36 (blockOf key))) := masked_any key a n cap 0x36 hn hB hl hcap hK
theorem masked5c {w : World} (key : List UInt8) (a : Option Addr) (n cap : Nat) (hn : n = key.length) (hB : Bytes w a key) (hl : key.length < 1152921504606846976) (hcap : key.length ≤ cap) (hK : KAt w) :
    Calls Tryz.prog 77 #[.slice a n cap, .int .u8 92] w (MaskPost w (maskB 0x5c (blockOf key))) := masked_any key a n cap 0x5c hn hB hl hcap hK
theorem mask_len (m : UInt8) (key : List UInt8) : (maskB m (blockOf key)).length = 64 := by rw [maskB_length, blockOf_length]
def TagPost (w : World) (l : List UInt8) (e : Ending) (w' : World) : Prop := ∃ O, e = .returned (.agg O) ∧ HV O l ∧ Below w.heap.size w w'
set_option maxHeartbeats 2000000 in
theorem tag_any {w : World} (key : List UInt8) (a : Option Addr) (n cap : Nat) (hn : n = key.length) (hB : Bytes w a key) (hl : key.length < 1000000000000000) (hcap : key.length ≤ cap)
    (b : List UInt8) (a' : Option Addr) (n' cap' : Nat) (hn' : n' = b.length) (hB' : Bytes w a' b) (hl' : b.length < 1000000000000000) (hcap' : b.length ≤ cap') (hK : KAt w) :
    Calls Tryz.prog 59 #[.slice a n cap, .slice a' n' cap'] w (TagPost w (hmac key b)) := by
  obtain ⟨Z, hZ⟩ : ∃ Z, Z = bvs (List.replicate 32 0) := ⟨_, rfl⟩
  have zh := (zero_of_info zero_hash).1
  rw [← hZ] at zh
  have hz : Hid (HV Z (List.replicate 32 0)) := by
    show HV _ _
    rw [hZ]; exact hv_zero
  have zh := hid zh
  have HB := hid hB
  have HB' := hid hB'
  have HK := hid hK
  have Hn := hid hn
  have Hn' := hid hn'
  obtain ⟨m1, hm1⟩ : ∃ m1, m1 = maskB 0x36 (blockOf key) := ⟨_, rfl⟩
  obtain ⟨m2, hm2⟩ : ∃ m2, m2 = maskB 0x5c (blockOf key) := ⟨_, rfl⟩
  have l1 : m1.length = 64 := by rw [hm1]; exact mask_len _ _
  have l2 : m2.length = 64 := by rw [hm2]; exact mask_len _ _
  have Hmac : Hid (hmac key b = sha (m2 ++ sha (m1 ++ b))) := by
    show _ = _
    rw [hm1, hm2]; rfl
  have C1 : Hid (∀ W, Below w.heap.size w W → Calls Tryz.prog 77 #[.slice a n cap, .int .u8 54] W (MaskPost W m1)) := fun W hW => by
    rw [hm1]; exact masked36 key a n cap Hn.out (HB.out.below hW) (by omega) hcap (HK.out.below hW)
  have C2 : Hid (∀ W, Below w.heap.size w W → Calls Tryz.prog 77 #[.slice a n cap, .int .u8 92] W (MaskPost W m2)) := fun W hW => by
    rw [hm2]; exact masked5c key a n cap Hn.out (HB.out.below hW) (by omega) hcap (HK.out.below hW)
  clear hZ hB hK hB' hn hn' hm1 hm2
  go_enter Tryz.func59, Tryz.ntmps59
  go_wp2_with (with_reducible show Go.wpList _ _ _ _ _ _; refine wpList_alloc_row rfl 27 rfl Z zh.out ?_)
  refine (start_rv _).mono ?_
  rintro _ w1 ⟨v1, rfl, hv1, hb1⟩
  have b1 : Hid (Below w.heap.size w w1) := ((Below.refl _ w).alloc (Nat.le_refl _) _).trans (hb1.mono (by simp))
  have x1 : Hid (w1.heap[w.heap.size]? = some (.cells Z 27 (0, 0))) := (hb1.block _ (by simp)).trans (heap_alloc_new w _)
  clear hb1
  go_wp2_with fail
  refine (C1.out _ b1.out).mono ?_
  rintro _ w2 ⟨g2, rfl, hB2, hb2⟩
  have HB2 := hid hB2
  have b2 : Hid (Below w.heap.size w w2) := Below.on' b1.out hb2
  have x2 : Hid (w2.heap[w.heap.size]? = some (.cells Z 27 (0, 0))) := (hb2.block _ (heap_lt x1.out)).trans x1.out
  clear hb2 x1 b1 hB2
  go_wp2_with fail
  refine (with_rv hv1.out m1 _ _ _ l1.symm HB2.out (by simp; omega) (by omega) (HK.out.below b2.out)).mono ?_
  rintro _ w3 ⟨v3, rfl, hv3, hb3⟩
  have b3 : Hid (Below w.heap.size w w3) := Below.on' b2.out hb3
  have x3 : Hid (w3.heap[w.heap.size]? = some (.cells Z 27 (0, 0))) := (hb3.block _ (heap_lt x2.out)).trans x2.out
  clear hb3 x2 b2 hv1 HB2
  go_wp2_with fail
  refine (with_rv hv3.out b _ _ _ Hn'.out (HB'.out.below b3.out) (by simp; omega) hcap' (HK.out.below b3.out)).mono ?_
  rintro _ w4 ⟨v4, rfl, hv4, hb4⟩
  have b4 : Hid (Below w.heap.size w w4) := Below.on' b3.out hb4
  have x4 : Hid (w4.heap[w.heap.size]? = some (.cells Z 27 (0, 0))) := (hb4.block _ (heap_lt x3.out)).trans x3.out
  clear hb4 x3 b3 hv3
  go_wp2_with fail
  refine (sum_rv hv4.out (by simp; omega) (HK.out.below b4.out)).mono ?_
  rintro _ w5 ⟨I, rfl, hI, hb5⟩
  have b5 : Hid (Below w.heap.size w w5) := Below.on' b4.out hb5
  have x5 : Hid (w5.heap[w.heap.size]? = some (.cells Z 27 (0, 0))) := (hb5.block _ (heap_lt x4.out)).trans x4.out
  clear hb5 x4 b4 hv4
  go_wp2_with (with_reducible show Go.wpList _ _ _ _ _ _; first
    | refine wpList_alloc_row rfl 27 rfl Z zh.out ?_
    | (refine wpList_store_row rfl 27 _ _ rfl w5.heap.size I rfl rfl 27 Z (heap_alloc_new w5 _) hI.out.info (hz.out.size.trans hI.out.size.symm) hI.out.one ?_; rw [World.setRow_alloc_new]))
  have hm : Tryz.prog.follows .mixedOrders = true := by kernel_rfl
  obtain ⟨W0, hW0⟩ : ∃ W0, W0 = (w5.alloc (.cells I 27)).drew := ⟨_, rfl⟩
  have b0 : Below w.heap.size w W0 := by rw [hW0]; exact (b5.out.alloc b5.out.size _).drew
  have x0 : W0.heap[w5.heap.size]? = some (.cells I 27 (0, 0)) := by rw [hW0]; exact heap_alloc_new w5 _
  have y0 : W0.heap[w.heap.size]? = some (.cells Z 27 (0, 0)) := by rw [hW0]; exact (Below.heap_alloc _ _ _ (heap_lt x5.out)).trans x5.out
  obtain ⟨G, hG⟩ : ∃ G, G = w5.heap.size := ⟨_, rfl⟩
  obtain ⟨a0, ha0⟩ : ∃ a0 : Value, a0 = .slice a n cap := ⟨_, rfl⟩
  obtain ⟨a1, ha1⟩ : ∃ a1 : Value, a1 = .slice a' n' cap' := ⟨_, rfl⟩
  refine wp_act _ fun A hA => ?_
  rw [← hG, ← ha0, ← ha1] at hA
  rw [← hG] at x0
  have sz : A.tmps.size = 20 := by rw [hA]; rfl
  have e0 : A.eval (.tmp 0) = a0 := by rw [hA]; rfl
  have e5 : A.eval (.tmp 5) = .pointer (some ⟨G, 0, none⟩) := by rw [hA]; rfl
  have e4 : A.eval (.tmp 4) = .pointer (some ⟨w.heap.size, 0, none⟩) := by rw [hA]; rfl
  refine wp_split (fun A' W => ∃ t0 t1 t2 t3 t5 t6 t7 t8 t9 t10 t11 t12 t13 t14 t15 t16 t17 t18 O, A' = ⟨#[t0, t1, t2, t3, .pointer (some ⟨w.heap.size, 0, none⟩), t5, t6, t7, t8, t9, t10, t11, t12, t13, t14, t15, t16, t17, t18, .agg O], []⟩ ∧ HV O (sha (m2 ++ sha (m1 ++ b))) ∧ W.heap[w.heap.size]? = some (.cells O 27 (0, 0)) ∧ Below w.heap.size w W) ?_ ?_
  · refine wp_region_held (S := fun _ => True) hm ?_
    rw [show ({ (w5.alloc (.cells I 27)) with drawn := (w5.alloc (.cells I 27)).drawn + 1 } : World) = W0 from hW0.symm]
    refine wpAnyH_take (i := 1) (v := a0) rfl (by kernel_rfl) (by kernel_rfl) (by kernel_rfl) (fun _ _ _ h => nomatch h.1) (yields_move (by simp [Region.wanted]) (.tmp 0) rfl _ e0) trivial ?_
    refine wpAnyH_take (i := 4) (v := .slice (some ⟨G, 0, none⟩) 32 32) rfl (by kernel_rfl) (by kernel_rfl) (by kernel_rfl) (fun _ _ _ h => nomatch h.1) (yields_slice_hash (by simp [Region.wanted]) (.tmp 5) rfl G ((ev_ne _ _ (by decide)).trans e5)) trivial ?_
    obtain ⟨A2, hA2⟩ : ∃ A2, A2 = (A.put (some 14) a0).put (some 17) (.slice (some ⟨G, 0, none⟩) 32 32) := ⟨_, rfl⟩
    show wpAnyH _ _ _ _ _ _ _ ((A.put (some 14) a0).put (some 17) (.slice (some ⟨G, 0, none⟩) 32 32)) _
    have z2 : A2.tmps.size = 20 := by rw [hA2]; simp [put_sz, sz]
    have z14 : A2.eval (.tmp 14) = .slice a n cap := by rw [hA2, ha0]; exact (ev_ne _ _ (by decide)).trans (ev_eq _ _ (by simp [sz]))
    have z17 : A2.eval (.tmp 17) = .slice (some ⟨G, 0, none⟩) 32 32 := by rw [hA2]; exact ev_eq _ _ (by simp [put_sz, sz])
    have z4 : A2.eval (.tmp 4) = .pointer (some ⟨w.heap.size, 0, none⟩) := by rw [hA2]; exact (ev_ne _ _ (by decide)).trans ((ev_ne _ _ (by decide)).trans e4)
    rw [← hA2]
    clear hW0 e0 e5 e4 sz
    refine wpAnyH_all (rs := [0]) (by kernel_rfl) (by simp) fun i hmem => ?_
    obtain rfl : i = 0 := by simpa using hmem
    refine wpOp_own rfl rfl fun K' hK' => ?_
    refine wp_calls0 16 hf_start _ rfl ?_
    refine (start_rv _).mono ?_
    rintro _ w1 ⟨v13, rfl, hv13, hb1⟩
    have b1 := b0.trans (hb1.mono b0.size)
    have x1 := (hb1.block _ (heap_lt x0)).trans x0
    have y1 := (hb1.block _ (heap_lt y0)).trans y0
    refine ⟨_, rfl, hK' _ _ ⟨trivial, ?_⟩⟩
    clear hK' K' hmem
    show wpAnyH _ _ _ _ _ _ _ (A2.put (some 13) v13) _
    refine wpAnyH_all (rs := [2]) (by kernel_rfl) (by simp) fun i hmem => ?_
    obtain rfl : i = 2 := by simpa using hmem
    refine wpOp_own rfl rfl fun K' hK' => ?_
    refine wp_calls2 77 hf_masked (.tmp 14) (.const (.int .u8 92)) _ rfl (.slice a n cap) (.int .u8 92) ((ev_ne _ _ (by decide)).trans z14) rfl ?_
    refine (C2.out _ b1).mono ?_
    rintro _ w2 ⟨g15, rfl, hB15, hb2⟩
    have b2 := b1.trans (hb2.mono b1.size)
    have x2 := (hb2.block _ (heap_lt x1)).trans x1
    have y2 := (hb2.block _ (heap_lt y1)).trans y1
    refine ⟨_, rfl, hK' _ _ ⟨trivial, ?_⟩⟩
    clear hK' K' hmem
    obtain ⟨v15, hv15⟩ : ∃ v15 : Value, v15 = .slice (some ⟨g15, 0, none⟩) 64 64 := ⟨_, rfl⟩
    show wpAnyH _ _ _ _ _ _ _ ((A2.put (some 13) v13).put (some 15) (.slice (some ⟨g15, 0, none⟩) 64 64)) _
    rw [← hv15]
    refine wpAnyH_all (rs := [3]) (by kernel_rfl) (by simp) fun i hmem => ?_
    obtain rfl : i = 3 := by simpa using hmem
    refine wpOp_own rfl rfl fun K' hK' => ?_
    refine wp_calls2 17 hf_with (.tmp 13) (.tmp 15) _ rfl v13 (.slice (some ⟨g15, 0, none⟩) 64 64) ((ev_ne _ _ (by decide)).trans (ev_eq _ _ (by simp [z2]))) ((ev_eq _ _ (by simp [put_sz, z2])).trans hv15) ?_
    refine (with_rv hv13.out m2 _ _ _ l2.symm hB15 (by simp; omega) (by omega) (HK.out.below b2)).mono ?_
    rintro _ w3 ⟨v16, rfl, hv16, hb3⟩
    have b3 := b2.trans (hb3.mono b2.size)
    have x3 := (hb3.block _ (heap_lt x2)).trans x2
    have y3 := (hb3.block _ (heap_lt y2)).trans y2
    refine ⟨_, rfl, hK' _ _ ⟨trivial, ?_⟩⟩
    clear hK' K' hmem
    show wpAnyH _ _ _ _ _ _ _ (((A2.put (some 13) v13).put (some 15) v15).put (some 16) v16) _
    refine wpAnyH_all (rs := [5]) (by kernel_rfl) (by simp) fun i hmem => ?_
    obtain rfl : i = 5 := by simpa using hmem
    refine wpOp_own rfl rfl fun K' hK' => ?_
    refine wp_calls2 17 hf_with (.tmp 16) (.tmp 17) _ rfl v16 (.slice (some ⟨G, 0, none⟩) 32 32) (ev_eq _ _ (by simp [put_sz, z2])) ((ev_ne _ _ (by decide)).trans ((ev_ne _ _ (by decide)).trans ((ev_ne _ _ (by decide)).trans z17))) ?_
    refine (with_rv hv16.out _ _ 32 32 hI.out.len.symm (hI.out.bytes x3) (by rw [hI.out.len]; simp; omega) (by rw [hI.out.len]; omega) (HK.out.below b3)).mono ?_
    rintro _ w4 ⟨v18, rfl, hv18, hb4⟩
    have b4 := b3.trans (hb4.mono b3.size)
    have y4 := (hb4.block _ (heap_lt y3)).trans y3
    refine ⟨_, rfl, hK' _ _ ⟨trivial, ?_⟩⟩
    clear hK' K' hmem
    show wpAnyH _ _ _ _ _ _ _ ((((A2.put (some 13) v13).put (some 15) v15).put (some 16) v16).put (some 18) v18) _
    refine wpAnyH_all (rs := [6]) (by kernel_rfl) (by simp) fun i hmem => ?_
    obtain rfl : i = 6 := by simpa using hmem
    refine wpOp_own rfl rfl fun K' hK' => ?_
    refine wp_calls1 18 hf_sum (.tmp 18) _ rfl v18 (ev_eq _ _ (by simp [put_sz, z2])) ?_
    refine (sum_rv hv18.out (by simp [sha_length]; omega) (HK.out.below b4)).mono ?_
    rintro _ w6 ⟨O, rfl, hO, hb6⟩
    have b6 := b4.trans (hb6.mono b4.size)
    have y6 := (hb6.block _ (heap_lt y4)).trans y4
    refine ⟨_, rfl, hK' _ _ ⟨trivial, ?_⟩⟩
    clear hK' K' hmem
    obtain ⟨A5, hA5⟩ : ∃ A5, A5 = ((((A2.put (some 13) v13).put (some 15) v15).put (some 16) v16).put (some 18) v18).put (some 19) (.agg O) := ⟨_, rfl⟩
    show wpAnyH _ _ _ _ _ _ _ (((((A2.put (some 13) v13).put (some 15) v15).put (some 16) v16).put (some 18) v18).put (some 19) (.agg O)) _
    have u4 : A5.eval (.tmp 4) = .pointer (some ⟨w.heap.size, 0, none⟩) := by rw [hA5]; exact (ev_ne _ _ (by decide)).trans ((ev_ne _ _ (by decide)).trans ((ev_ne _ _ (by decide)).trans ((ev_ne _ _ (by decide)).trans ((ev_ne _ _ (by decide)).trans z4))))
    have u19 : A5.eval (.tmp 19) = .agg O := by rw [hA5]; exact ev_eq _ _ (by simp [put_sz, z2])
    rw [← hA5]
    refine wpAnyH_all (rs := [7]) (by kernel_rfl) (by simp) fun i hmem => ?_
    obtain rfl : i = 7 := by simpa using hmem
    refine wpOp_own rfl rfl fun K' hK' => ?_
    refine wp_store_hash (.tmp 4) (.tmp 19) rfl w.heap.size O Z hO.out hz.out u4 u19 y6 ?_
    have hOO : HV O (sha (m2 ++ sha (m1 ++ b))) := by
      have h := hO.out
      simpa only [List.nil_append] using h
    have hAA : A5 = ⟨#[a0, a1, undef, undef, .pointer (some ⟨w.heap.size, 0, none⟩), .pointer (some ⟨G, 0, none⟩), A.tmps[6]!, A.tmps[7]!, A.tmps[8]!, A.tmps[9]!, A.tmps[10]!, A.tmps[11]!, A.tmps[12]!, v13, a0, v15, v16, .slice (some ⟨G, 0, none⟩) 32 32, v18, .agg O], []⟩ := by
      rw [hA5, hA2, hA]
      simp [Act.put]
    refine hK' _ _ ⟨trivial, wpAnyH_done (by kernel_rfl) ⟨rfl, a0, a1, undef, undef, .pointer (some ⟨G, 0, none⟩), A.tmps[6]!, A.tmps[7]!, A.tmps[8]!, A.tmps[9]!, A.tmps[10]!, A.tmps[11]!, A.tmps[12]!, v13, a0, v15, v16, .slice (some ⟨G, 0, none⟩) 32 32, v18, O, hAA, hOO, setRow_heap _ _ _ _ _ _ y6, b6.setRow (by omega) _⟩ _⟩
  · rintro aa W ⟨t0, t1, t2, t3, t5, t6, t7, t8, t9, t10, t11, t12, t13, t14, t15, t16, t17, t18, O, rfl, hO, hrow, hb⟩
    have HO := hid hO
    have Hr := hid hrow
    have Hb := hid hb
    clear hO hrow hb HB HK hz zh x0 y0 b0 hW0 e0 e5 e4 sz hA C1 C2 HB' x5 b5 hI
    go_wp2
    show bodyPost _ _ _ _ _ _
    refine bodyPost_ret (results_cell_row rfl _ _ w.heap.size 27 O (0, 0) _ rfl Hr.out Tryz.underlying27 rfl HO.out.info) rfl ⟨O, rfl, ?_, Hb.out⟩
    rw [Hmac.out]; exact HO.out
end Go.Proofs.YtomhcccjeadefaaGreatDoor
