/- YthfmpebgmojcaaaDoorHTag + YthfmpebgmojcaaaDoorHChain + YthfmpebgmojcaaaDoorECopy + YthfmpebgmojcaaaDoorEPair -/
import Derived.Test.YthfmpebgmojcaaaDoorHMask
import Derived.Laws.AppendOwnNone
import Derived.Stop.BytesEq
/- The HMAC of bytes: hash.Tag. -/
namespace Go.Proofs.YthfmpebgmojcaaaDoor
open Go.RowKit
set_option linter.unusedVariables false
set_option maxRecDepth 20000
set_option maxRecDepth 20000

theorem hf_start : ∀ (args : Array Value) (w : World), (callFunc 64 args).run Tryd.prog w = .ok (.enter 64 args) w := fun args w => by simp [go_sem]
theorem hf_masked : ∀ (args : Array Value) (w : World), (callFunc 127 args).run Tryd.prog w = .ok (.enter 127 args) w := fun args w => by simp [go_sem]
theorem hf_with : ∀ (args : Array Value) (w : World), (callFunc 65 args).run Tryd.prog w = .ok (.enter 65 args) w := fun args w => by simp [go_sem]
theorem hf_sum : ∀ (args : Array Value) (w : World), (callFunc 66 args).run Tryd.prog w = .ok (.enter 66 args) w := fun args w => by simp [go_sem]
/-- the slice of a whole array yields without a look at memory -/
theorem yields_slice_hash {ops : Array Oper} {S : World → Prop} {op : Oper} {a : Act} (hw : Region.wanted op (yielded ops a.tmps) = true) (x : Operand) (ho : op.op = .slice 69 x none none none) (g : Nat) (hx : a.eval x = .pointer (some ⟨g, 0, none⟩)) : YieldsIf Tryd.prog ops S op (.slice (some ⟨g, 0, none⟩) 32 32) a := by
  refine .inl ⟨hw, fun w _ => ?_⟩
  unfold execOp
  simp only [ho, hx]
  simp [go_sem]
theorem yields_move {ops : Array Oper} {S : World → Prop} {op : Oper} {a : Act} (hw : Region.wanted op (yielded ops a.tmps) = true) (x : Operand) (ho : op.op = .move x) (v : Value) (hx : a.eval x = v) : YieldsIf Tryd.prog ops S op v a := by
  refine .inl ⟨hw, fun w _ => ?_⟩
  unfold execOp
  simp only [ho, hx]
  simp [go_sem]
theorem wp_store_hash {o : Oper} {a : Act} {w : World} {K : Act → World → Prop} {Q : Exit → Act → World → Prop} (x y : Operand) (ho : o.op = .store 69 x y) (g : Nat) (O Y : Array Value) {l m : List UInt8} (hO : HV O l) (hY : HV Y m) (ha : a.eval x = .pointer (some ⟨g, 0, none⟩)) (hb : a.eval y = .agg O)
    (hg : w.heap[g]? = some (.cells Y 69 (0, 0))) (h : K (a.put o.dst undef) (w.setRow g O)) : o.wp Tryd.prog a w K Q :=
  wp_store_row 69 x y ho g O ha hb 69 Y hg hO.info (hY.size.trans hO.size.symm) hO.one h

theorem masked36 {w : World} (key : List UInt8) (a : Option Addr) (n cap : Nat) (hn : n = key.length) (hB : Bytes w a key) (hl : key.length < 1152921504606846976) (hcap : key.length ≤ cap) (hK : KAt w) :
    Calls Tryd.prog 127 #[.slice a n cap, .int .u8 54] w (MaskPost w (maskB 0x36 (blockOf key))) := masked_any key a n cap 0x36 hn hB hl hcap hK
theorem masked5c {w : World} (key : List UInt8) (a : Option Addr) (n cap : Nat) (hn : n = key.length) (hB : Bytes w a key) (hl : key.length < 1152921504606846976) (hcap : key.length ≤ cap) (hK : KAt w) :
    Calls Tryd.prog 127 #[.slice a n cap, .int .u8 92] w (MaskPost w (maskB 0x5c (blockOf key))) := masked_any key a n cap 0x5c hn hB hl hcap hK
theorem mask_len (m : UInt8) (key : List UInt8) : (maskB m (blockOf key)).length = 64 := by rw [maskB_length, blockOf_length]
/-- what a Tag answers -/
def TagPost (w : World) (l : List UInt8) (e : Ending) (w' : World) : Prop := ∃ O, e = .returned (.agg O) ∧ HV O l ∧ Below w.heap.size w w'

set_option maxHeartbeats 2000000 in
theorem tag_any {w : World} (key : List UInt8) (a : Option Addr) (n cap : Nat) (hn : n = key.length) (hB : Bytes w a key) (hl : key.length < 1000000000000000) (hcap : key.length ≤ cap)
    (b : List UInt8) (a' : Option Addr) (n' cap' : Nat) (hn' : n' = b.length) (hB' : Bytes w a' b) (hl' : b.length < 1000000000000000) (hcap' : b.length ≤ cap') (hK : KAt w) :
    Calls Tryd.prog 114 #[.slice a n cap, .slice a' n' cap'] w (TagPost w (hmac key b)) := by
  obtain ⟨Z, hZ⟩ : ∃ Z, Z = bvs (List.replicate 32 0) := ⟨_, rfl⟩
  have zh := (zero_of_info zero_hash).1
  rw [← hZ] at zh
  have hz : Hid (HV Z (List.replicate 32 0)) := by
    show HV _ _
    rw [hZ]; exact hv_zero
  have zh := hid zh
  have HB := hid hB
  have HB' := hid hB'
  have HK := hid hK
  have Hn := hid hn
  have Hn' := hid hn'
  obtain ⟨m1, hm1⟩ : ∃ m1, m1 = maskB 0x36 (blockOf key) := ⟨_, rfl⟩
  obtain ⟨m2, hm2⟩ : ∃ m2, m2 = maskB 0x5c (blockOf key) := ⟨_, rfl⟩
  have l1 : m1.length = 64 := by rw [hm1]; exact mask_len _ _
  have l2 : m2.length = 64 := by rw [hm2]; exact mask_len _ _
  have Hmac : Hid (hmac key b = sha (m2 ++ sha (m1 ++ b))) := by
    show _ = _
    rw [hm1, hm2]; rfl
  have C1 : Hid (∀ W, Below w.heap.size w W → Calls Tryd.prog 127 #[.slice a n cap, .int .u8 54] W (MaskPost W m1)) := fun W hW => by
    rw [hm1]; exact masked36 key a n cap Hn.out (HB.out.below hW) (by omega) hcap (HK.out.below hW)
  have C2 : Hid (∀ W, Below w.heap.size w W → Calls Tryd.prog 127 #[.slice a n cap, .int .u8 92] W (MaskPost W m2)) := fun W hW => by
    rw [hm2]; exact masked5c key a n cap Hn.out (HB.out.below hW) (by omega) hcap (HK.out.below hW)
  clear hZ hB hK hB' hn hn' hm1 hm2
  go_enter Tryd.func114, Tryd.ntmps114
  go_wp2_with (with_reducible show Go.wpList _ _ _ _ _ _; refine wpList_alloc_row rfl 69 rfl Z zh.out ?_)
  refine (start_rv _).mono ?_
  rintro _ w1 ⟨v1, rfl, hv1, hb1⟩
  have b1 : Hid (Below w.heap.size w w1) := ((Below.refl _ w).alloc (Nat.le_refl _) _).trans (hb1.mono (by simp))
  have x1 : Hid (w1.heap[w.heap.size]? = some (.cells Z 69 (0, 0))) := (hb1.block _ (by simp)).trans (heap_alloc_new w _)
  clear hb1
  go_wp2_with fail
  refine (C1.out _ b1.out).mono ?_
  rintro _ w2 ⟨g2, rfl, hB2, hb2⟩
  have HB2 := hid hB2
  have b2 : Hid (Below w.heap.size w w2) := Below.on' b1.out hb2
  have x2 : Hid (w2.heap[w.heap.size]? = some (.cells Z 69 (0, 0))) := (hb2.block _ (heap_lt x1.out)).trans x1.out
  clear hb2 x1 b1 hB2
  go_wp2_with fail
  refine (with_rv hv1.out m1 _ _ _ l1.symm HB2.out (by simp; omega) (by omega) (HK.out.below b2.out)).mono ?_
  rintro _ w3 ⟨v3, rfl, hv3, hb3⟩
  have b3 : Hid (Below w.heap.size w w3) := Below.on' b2.out hb3
  have x3 : Hid (w3.heap[w.heap.size]? = some (.cells Z 69 (0, 0))) := (hb3.block _ (heap_lt x2.out)).trans x2.out
  clear hb3 x2 b2 hv1 HB2
  go_wp2_with fail
  refine (with_rv hv3.out b _ _ _ Hn'.out (HB'.out.below b3.out) (by simp; omega) hcap' (HK.out.below b3.out)).mono ?_
  rintro _ w4 ⟨v4, rfl, hv4, hb4⟩
  have b4 : Hid (Below w.heap.size w w4) := Below.on' b3.out hb4
  have x4 : Hid (w4.heap[w.heap.size]? = some (.cells Z 69 (0, 0))) := (hb4.block _ (heap_lt x3.out)).trans x3.out
  clear hb4 x3 b3 hv3
  go_wp2_with fail
  refine (sum_rv hv4.out (by simp; omega) (HK.out.below b4.out)).mono ?_
  rintro _ w5 ⟨I, rfl, hI, hb5⟩
  have b5 : Hid (Below w.heap.size w w5) := Below.on' b4.out hb5
  have x5 : Hid (w5.heap[w.heap.size]? = some (.cells Z 69 (0, 0))) := (hb5.block _ (heap_lt x4.out)).trans x4.out
  clear hb5 x4 b4 hv4
  go_wp2_with (with_reducible show Go.wpList _ _ _ _ _ _; first
    | refine wpList_alloc_row rfl 69 rfl Z zh.out ?_
    | (refine wpList_store_row rfl 69 _ _ rfl w5.heap.size I rfl rfl 69 Z (heap_alloc_new w5 _) hI.out.info (hz.out.size.trans hI.out.size.symm) hI.out.one ?_; rw [World.setRow_alloc_new]))
  have hm : Tryd.prog.follows .mixedOrders = true := by kernel_rfl
  obtain ⟨W0, hW0⟩ : ∃ W0, W0 = (w5.alloc (.cells I 69)).drew := ⟨_, rfl⟩
  have b0 : Below w.heap.size w W0 := by rw [hW0]; exact (b5.out.alloc b5.out.size _).drew
  have x0 : W0.heap[w5.heap.size]? = some (.cells I 69 (0, 0)) := by rw [hW0]; exact heap_alloc_new w5 _
  have y0 : W0.heap[w.heap.size]? = some (.cells Z 69 (0, 0)) := by rw [hW0]; exact (Below.heap_alloc _ _ _ (heap_lt x5.out)).trans x5.out
  obtain ⟨G, hG⟩ : ∃ G, G = w5.heap.size := ⟨_, rfl⟩
  obtain ⟨a0, ha0⟩ : ∃ a0 : Value, a0 = .slice a n cap := ⟨_, rfl⟩
  obtain ⟨a1, ha1⟩ : ∃ a1 : Value, a1 = .slice a' n' cap' := ⟨_, rfl⟩
  refine wp_act _ fun A hA => ?_
  rw [← hG, ← ha0, ← ha1] at hA
  rw [← hG] at x0
  have sz : A.tmps.size = 20 := by rw [hA]; rfl
  have e0 : A.eval (.tmp 0) = a0 := by rw [hA]; rfl
  have e5 : A.eval (.tmp 5) = .pointer (some ⟨G, 0, none⟩) := by rw [hA]; rfl
  have e4 : A.eval (.tmp 4) = .pointer (some ⟨w.heap.size, 0, none⟩) := by rw [hA]; rfl
  refine wp_split (fun A' W => ∃ t0 t1 t2 t3 t5 t6 t7 t8 t9 t10 t11 t12 t13 t14 t15 t16 t17 t18 O, A' = ⟨#[t0, t1, t2, t3, .pointer (some ⟨w.heap.size, 0, none⟩), t5, t6, t7, t8, t9, t10, t11, t12, t13, t14, t15, t16, t17, t18, .agg O], []⟩ ∧ HV O (sha (m2 ++ sha (m1 ++ b))) ∧ W.heap[w.heap.size]? = some (.cells O 69 (0, 0)) ∧ Below w.heap.size w W) ?_ ?_
  · refine wp_region_held (S := fun _ => True) hm ?_
    rw [show ({ (w5.alloc (.cells I 69)) with drawn := (w5.alloc (.cells I 69)).drawn + 1 } : World) = W0 from hW0.symm]
    refine wpAnyH_take (i := 1) (v := a0) rfl (by kernel_rfl) (by kernel_rfl) (by kernel_rfl) (fun _ _ _ h => nomatch h.1) (yields_move (by simp [Region.wanted]) (.tmp 0) rfl _ e0) trivial ?_
    refine wpAnyH_take (i := 4) (v := .slice (some ⟨G, 0, none⟩) 32 32) rfl (by kernel_rfl) (by kernel_rfl) (by kernel_rfl) (fun _ _ _ h => nomatch h.1) (yields_slice_hash (by simp [Region.wanted]) (.tmp 5) rfl G ((ev_ne _ _ (by decide)).trans e5)) trivial ?_
    obtain ⟨A2, hA2⟩ : ∃ A2, A2 = (A.put (some 14) a0).put (some 17) (.slice (some ⟨G, 0, none⟩) 32 32) := ⟨_, rfl⟩
    show wpAnyH _ _ _ _ _ _ _ ((A.put (some 14) a0).put (some 17) (.slice (some ⟨G, 0, none⟩) 32 32)) _
    have z2 : A2.tmps.size = 20 := by rw [hA2]; simp [put_sz, sz]
    have z14 : A2.eval (.tmp 14) = .slice a n cap := by rw [hA2, ha0]; exact (ev_ne _ _ (by decide)).trans (ev_eq _ _ (by simp [sz]))
    have z17 : A2.eval (.tmp 17) = .slice (some ⟨G, 0, none⟩) 32 32 := by rw [hA2]; exact ev_eq _ _ (by simp [put_sz, sz])
    have z4 : A2.eval (.tmp 4) = .pointer (some ⟨w.heap.size, 0, none⟩) := by rw [hA2]; exact (ev_ne _ _ (by decide)).trans ((ev_ne _ _ (by decide)).trans e4)
    rw [← hA2]
    clear hW0 e0 e5 e4 sz
    refine wpAnyH_all (rs := [0]) (by kernel_rfl) (by simp) fun i hmem => ?_
    obtain rfl : i = 0 := by simpa using hmem
    refine wpOp_own rfl rfl fun K' hK' => ?_
    refine wp_calls0 64 hf_start _ rfl ?_
    refine (start_rv _).mono ?_
    rintro _ w1 ⟨v13, rfl, hv13, hb1⟩
    have b1 := b0.trans (hb1.mono b0.size)
    have x1 := (hb1.block _ (heap_lt x0)).trans x0
    have y1 := (hb1.block _ (heap_lt y0)).trans y0
    refine ⟨_, rfl, hK' _ _ ⟨trivial, ?_⟩⟩
    clear hK' K' hmem
    show wpAnyH _ _ _ _ _ _ _ (A2.put (some 13) v13) _
    refine wpAnyH_all (rs := [2]) (by kernel_rfl) (by simp) fun i hmem => ?_
    obtain rfl : i = 2 := by simpa using hmem
    refine wpOp_own rfl rfl fun K' hK' => ?_
    refine wp_calls2 127 hf_masked (.tmp 14) (.const (.int .u8 92)) _ rfl (.slice a n cap) (.int .u8 92) ((ev_ne _ _ (by decide)).trans z14) rfl ?_
    refine (C2.out _ b1).mono ?_
    rintro _ w2 ⟨g15, rfl, hB15, hb2⟩
    have b2 := b1.trans (hb2.mono b1.size)
    have x2 := (hb2.block _ (heap_lt x1)).trans x1
    have y2 := (hb2.block _ (heap_lt y1)).trans y1
    refine ⟨_, rfl, hK' _ _ ⟨trivial, ?_⟩⟩
    clear hK' K' hmem
    obtain ⟨v15, hv15⟩ : ∃ v15 : Value, v15 = .slice (some ⟨g15, 0, none⟩) 64 64 := ⟨_, rfl⟩
    show wpAnyH _ _ _ _ _ _ _ ((A2.put (some 13) v13).put (some 15) (.slice (some ⟨g15, 0, none⟩) 64 64)) _
    rw [← hv15]
    refine wpAnyH_all (rs := [3]) (by kernel_rfl) (by simp) fun i hmem => ?_
    obtain rfl : i = 3 := by simpa using hmem
    refine wpOp_own rfl rfl fun K' hK' => ?_
    refine wp_calls2 65 hf_with (.tmp 13) (.tmp 15) _ rfl v13 (.slice (some ⟨g15, 0, none⟩) 64 64) ((ev_ne _ _ (by decide)).trans (ev_eq _ _ (by simp [z2]))) ((ev_eq _ _ (by simp [put_sz, z2])).trans hv15) ?_
    refine (with_rv hv13.out m2 _ _ _ l2.symm hB15 (by simp; omega) (by omega) (HK.out.below b2)).mono ?_
    rintro _ w3 ⟨v16, rfl, hv16, hb3⟩
    have b3 := b2.trans (hb3.mono b2.size)
    have x3 := (hb3.block _ (heap_lt x2)).trans x2
    have y3 := (hb3.block _ (heap_lt y2)).trans y2
    refine ⟨_, rfl, hK' _ _ ⟨trivial, ?_⟩⟩
    clear hK' K' hmem
    show wpAnyH _ _ _ _ _ _ _ (((A2.put (some 13) v13).put (some 15) v15).put (some 16) v16) _
    refine wpAnyH_all (rs := [5]) (by kernel_rfl) (by simp) fun i hmem => ?_
    obtain rfl : i = 5 := by simpa using hmem
    refine wpOp_own rfl rfl fun K' hK' => ?_
    refine wp_calls2 65 hf_with (.tmp 16) (.tmp 17) _ rfl v16 (.slice (some ⟨G, 0, none⟩) 32 32) (ev_eq _ _ (by simp [put_sz, z2])) ((ev_ne _ _ (by decide)).trans ((ev_ne _ _ (by decide)).trans ((ev_ne _ _ (by decide)).trans z17))) ?_
    refine (with_rv hv16.out _ _ 32 32 hI.out.len.symm (hI.out.bytes x3) (by rw [hI.out.len]; simp; omega) (by rw [hI.out.len]; omega) (HK.out.below b3)).mono ?_
    rintro _ w4 ⟨v18, rfl, hv18, hb4⟩
    have b4 := b3.trans (hb4.mono b3.size)
    have y4 := (hb4.block _ (heap_lt y3)).trans y3
    refine ⟨_, rfl, hK' _ _ ⟨trivial, ?_⟩⟩
    clear hK' K' hmem
    show wpAnyH _ _ _ _ _ _ _ ((((A2.put (some 13) v13).put (some 15) v15).put (some 16) v16).put (some 18) v18) _
    refine wpAnyH_all (rs := [6]) (by kernel_rfl) (by simp) fun i hmem => ?_
    obtain rfl : i = 6 := by simpa using hmem
    refine wpOp_own rfl rfl fun K' hK' => ?_
    refine wp_calls1 66 hf_sum (.tmp 18) _ rfl v18 (ev_eq _ _ (by simp [put_sz, z2])) ?_
    refine (sum_rv hv18.out (by simp [sha_length]; omega) (HK.out.below b4)).mono ?_
    rintro _ w6 ⟨O, rfl, hO, hb6⟩
    have b6 := b4.trans (hb6.mono b4.size)
    have y6 := (hb6.block _ (heap_lt y4)).trans y4
    refine ⟨_, rfl, hK' _ _ ⟨trivial, ?_⟩⟩
    clear hK' K' hmem
    obtain ⟨A5, hA5⟩ : ∃ A5, A5 = ((((A2.put (some 13) v13).put (some 15) v15).put (some 16) v16).put (some 18) v18).put (some 19) (.agg O) := ⟨_, rfl⟩
    show wpAnyH _ _ _ _ _ _ _ (((((A2.put (some 13) v13).put (some 15) v15).put (some 16) v16).put (some 18) v18).put (some 19) (.agg O)) _
    have u4 : A5.eval (.tmp 4) = .pointer (some ⟨w.heap.size, 0, none⟩) := by rw [hA5]; exact (ev_ne _ _ (by decide)).trans ((ev_ne _ _ (by decide)).trans ((ev_ne _ _ (by decide)).trans ((ev_ne _ _ (by decide)).trans ((ev_ne _ _ (by decide)).trans z4))))
    have u19 : A5.eval (.tmp 19) = .agg O := by rw [hA5]; exact ev_eq _ _ (by simp [put_sz, z2])
    rw [← hA5]
    refine wpAnyH_all (rs := [7]) (by kernel_rfl) (by simp) fun i hmem => ?_
    obtain rfl : i = 7 := by simpa using hmem
    refine wpOp_own rfl rfl fun K' hK' => ?_
    refine wp_store_hash (.tmp 4) (.tmp 19) rfl w.heap.size O Z hO.out hz.out u4 u19 y6 ?_
    have hOO : HV O (sha (m2 ++ sha (m1 ++ b))) := by
      have h := hO.out
      simpa only [List.nil_append] using h
    have hAA : A5 = ⟨#[a0, a1, undef, undef, .pointer (some ⟨w.heap.size, 0, none⟩), .pointer (some ⟨G, 0, none⟩), A.tmps[6]!, A.tmps[7]!, A.tmps[8]!, A.tmps[9]!, A.tmps[10]!, A.tmps[11]!, A.tmps[12]!, v13, a0, v15, v16, .slice (some ⟨G, 0, none⟩) 32 32, v18, .agg O], []⟩ := by
      rw [hA5, hA2, hA]
      simp [Act.put]
    refine hK' _ _ ⟨trivial, wpAnyH_done (by kernel_rfl) ⟨rfl, a0, a1, undef, undef, .pointer (some ⟨G, 0, none⟩), A.tmps[6]!, A.tmps[7]!, A.tmps[8]!, A.tmps[9]!, A.tmps[10]!, A.tmps[11]!, A.tmps[12]!, v13, a0, v15, v16, .slice (some ⟨G, 0, none⟩) 32 32, v18, O, hAA, hOO, setRow_heap _ _ _ _ _ _ y6, b6.setRow (by omega) _⟩ _⟩
  · rintro aa W ⟨t0, t1, t2, t3, t5, t6, t7, t8, t9, t10, t11, t12, t13, t14, t15, t16, t17, t18, O, rfl, hO, hrow, hb⟩
    have HO := hid hO
    have Hr := hid hrow
    have Hb := hid hb
    clear hO hrow hb HB HK hz zh x0 y0 b0 hW0 e0 e5 e4 sz hA C1 C2 HB' x5 b5 hI
    go_wp2
    show bodyPost _ _ _ _ _ _
    refine bodyPost_ret (results_cell_row rfl _ _ w.heap.size 69 O (0, 0) _ rfl Hr.out Tryd.underlying69 rfl HO.out.info) rfl ⟨O, rfl, ?_, Hb.out⟩
    rw [Hmac.out]; exact HO.out
end Go.Proofs.YthfmpebgmojcaaaDoor

/- The next link of a chain: hash.Chain. -/
namespace Go.Proofs.YthfmpebgmojcaaaDoor
open Go.RowKit
set_option linter.unusedVariables false
set_option maxRecDepth 20000
set_option maxRecDepth 20000

set_option maxHeartbeats 2000000 in
theorem chain_any {w : World} {h : List UInt8} {H : Array Value} (hH : HV H h) (b : List UInt8) (a : Option Addr) (n cap : Nat) (hn : n = b.length) (hB : Bytes w a b) (hl : b.length < 1000000000000000) (hcap : b.length ≤ cap) (hK : KAt w) :
    Calls Tryd.prog 60 #[.agg H, .slice a n cap] w fun e w' => ∃ O, e = .returned (.agg O) ∧ Hid (HV O (sha (h ++ b))) ∧ Below w.heap.size w w' := by
  obtain ⟨Z, hZ⟩ : ∃ Z, Z = bvs (List.replicate 32 0) := ⟨_, rfl⟩
  have zh := (zero_of_info zero_hash).1
  rw [← hZ] at zh
  have hz : Hid (HV Z (List.replicate 32 0)) := by
    show HV _ _
    rw [hZ]; exact hv_zero
  have zh := hid zh
  have HB := hid hB
  have HK := hid hK
  have HH := hid hH
  have Hn := hid hn
  have hlen : h.length = 32 := hH.len
  clear hZ hB hK hH hn
  go_enter Tryd.func60, Tryd.ntmps60
  go_wp2_with (with_reducible show Go.wpList _ _ _ _ _ _; refine wpList_alloc_row rfl 69 rfl Z zh.out ?_)
  have hm : Tryd.prog.follows .mixedOrders = true := by kernel_rfl
  obtain ⟨W0, hW0⟩ : ∃ W0, W0 = ((w.alloc (.cells H 69)).alloc (.cells Z 69)).drew := ⟨_, rfl⟩
  have b0 : Below w.heap.size w W0 := by rw [hW0]; exact (((Below.refl _ w).alloc (Nat.le_refl _) _).alloc (by simp) _).drew
  have x0 : W0.heap[w.heap.size]? = some (.cells H 69 (0, 0)) := by rw [hW0]; exact heap_alloc2_old w _ _
  have y0 : W0.heap[w.heap.size + 1]? = some (.cells Z 69 (0, 0)) := by rw [hW0]; exact heap_alloc2_new w _ _
  refine wp_act _ fun A hA => ?_
  rw [show (w.alloc (.cells H 69)).heap.size = w.heap.size + 1 by simp] at hA
  have sz : A.tmps.size = 11 := by rw [hA]; rfl
  have e1 : A.eval (.tmp 1) = .slice a n cap := by rw [hA]; rfl
  have e2 : A.eval (.tmp 2) = .pointer (some ⟨w.heap.size, 0, none⟩) := by rw [hA]; rfl
  have e4 : A.eval (.tmp 4) = .pointer (some ⟨w.heap.size + 1, 0, none⟩) := by rw [hA]; rfl
  obtain ⟨a0, ha0⟩ : ∃ a0, a0 = a := ⟨_, rfl⟩
  rw [← ha0] at hA
  refine wp_split (fun a W => ∃ v5 v6 v7 v8 v9 O, a = ⟨#[.agg H, .slice a0 n cap, .pointer (some ⟨w.heap.size, 0, none⟩), undef, .pointer (some ⟨w.heap.size + 1, 0, none⟩), v5, v6, v7, v8, v9, .agg O], []⟩ ∧ HV O (sha (h ++ b)) ∧ W.heap[w.heap.size + 1]? = some (.cells O 69 (0, 0)) ∧ Below w.heap.size w W) ?_ ?_
  · refine wp_region_held (S := fun _ => True) hm ?_
    rw [show ({ ((w.alloc (.cells H 69)).alloc (.cells Z 69)) with drawn := ((w.alloc (.cells H 69)).alloc (.cells Z 69)).drawn + 1 } : World) = W0 from hW0.symm]
    refine wpAnyH_take (i := 1) (v := .slice (some ⟨w.heap.size, 0, none⟩) 32 32) rfl (by kernel_rfl) (by kernel_rfl) (by kernel_rfl) (fun _ _ _ h => nomatch h.1) (yields_slice_hash (by simp [Region.wanted]) (.tmp 2) rfl w.heap.size e2) trivial ?_
    refine wpAnyH_take (i := 3) (v := .slice a n cap) rfl (by kernel_rfl) (by kernel_rfl) (by kernel_rfl) (fun _ _ _ h => nomatch h.1) (yields_move (by simp [Region.wanted]) (.tmp 1) rfl _ ((ev_ne _ _ (by decide)).trans e1)) trivial ?_
    obtain ⟨A2, hA2⟩ : ∃ A2, A2 = (A.put (some 6) (.slice (some ⟨w.heap.size, 0, none⟩) 32 32)).put (some 8) (.slice a n cap) := ⟨_, rfl⟩
    show wpAnyH _ _ _ _ _ _ _ ((A.put (some 6) (.slice (some ⟨w.heap.size, 0, none⟩) 32 32)).put (some 8) (.slice a n cap)) _
    have z2 : A2.tmps.size = 11 := by rw [hA2]; simp [put_sz, sz]
    have z6 : A2.eval (.tmp 6) = .slice (some ⟨w.heap.size, 0, none⟩) 32 32 := by rw [hA2]; exact (ev_ne _ _ (by decide)).trans (ev_eq _ _ (by simp [sz]))
    have z8 : A2.eval (.tmp 8) = .slice a n cap := by rw [hA2]; exact ev_eq _ _ (by simp [put_sz, sz])
    have z4 : A2.eval (.tmp 4) = .pointer (some ⟨w.heap.size + 1, 0, none⟩) := by rw [hA2]; exact (ev_ne _ _ (by decide)).trans ((ev_ne _ _ (by decide)).trans e4)
    rw [← hA2]
    clear hW0 e1 e2 e4 sz
    refine wpAnyH_all (rs := [0]) (by kernel_rfl) (by simp) fun i hmem => ?_
    obtain rfl : i = 0 := by simpa using hmem
    refine wpOp_own rfl rfl fun K' hK' => ?_
    refine wp_calls0 64 hf_start _ rfl ?_
    refine (start_rv _).mono ?_
    rintro _ w1 ⟨v5, rfl, hv5, hb1⟩
    have b1 := b0.trans (hb1.mono b0.size)
    have x1 := (hb1.block _ (heap_lt x0)).trans x0
    have y1 := (hb1.block _ (heap_lt y0)).trans y0
    refine ⟨_, rfl, hK' _ _ ⟨trivial, ?_⟩⟩
    clear hK' K' hmem
    show wpAnyH _ _ _ _ _ _ _ (A2.put (some 5) v5) _
    refine wpAnyH_all (rs := [2]) (by kernel_rfl) (by simp) fun i hmem => ?_
    obtain rfl : i = 2 := by simpa using hmem
    refine wpOp_own rfl rfl fun K' hK' => ?_
    refine wp_calls2 65 hf_with (.tmp 5) (.tmp 6) _ rfl v5 (.slice (some ⟨w.heap.size, 0, none⟩) 32 32) (ev_eq _ _ (by simp [z2])) ((ev_ne _ _ (by decide)).trans z6) ?_
    refine (with_rv hv5.out h (some ⟨w.heap.size, 0, none⟩) 32 32 hlen.symm (HH.out.bytes x1) (by simp; omega) (by omega) (HK.out.below b1)).mono ?_
    rintro _ w2 ⟨v7, rfl, hv7, hb2⟩
    have b2 := b1.trans (hb2.mono b1.size)
    have y2 := (hb2.block _ (heap_lt y1)).trans y1
    refine ⟨_, rfl, hK' _ _ ⟨trivial, ?_⟩⟩
    clear hK' K' hmem
    show wpAnyH _ _ _ _ _ _ _ ((A2.put (some 5) v5).put (some 7) v7) _
    refine wpAnyH_all (rs := [4]) (by kernel_rfl) (by simp) fun i hmem => ?_
    obtain rfl : i = 4 := by simpa using hmem
    refine wpOp_own rfl rfl fun K' hK' => ?_
    refine wp_calls2 65 hf_with (.tmp 7) (.tmp 8) _ rfl v7 (.slice a n cap) (ev_eq _ _ (by simp [put_sz, z2])) ((ev_ne _ _ (by decide)).trans ((ev_ne _ _ (by decide)).trans z8)) ?_
    refine (with_rv hv7.out b a n cap Hn.out (HB.out.below b2) (by simp; omega) hcap (HK.out.below b2)).mono ?_
    rintro _ w3 ⟨v9, rfl, hv9, hb3⟩
    have b3 := b2.trans (hb3.mono b2.size)
    have y3 := (hb3.block _ (heap_lt y2)).trans y2
    refine ⟨_, rfl, hK' _ _ ⟨trivial, ?_⟩⟩
    clear hK' K' hmem
    show wpAnyH _ _ _ _ _ _ _ (((A2.put (some 5) v5).put (some 7) v7).put (some 9) v9) _
    refine wpAnyH_all (rs := [5]) (by kernel_rfl) (by simp) fun i hmem => ?_
    obtain rfl : i = 5 := by simpa using hmem
    refine wpOp_own rfl rfl fun K' hK' => ?_
    refine wp_calls1 66 hf_sum (.tmp 9) _ rfl v9 (ev_eq _ _ (by simp [put_sz, z2])) ?_
    refine (sum_rv hv9.out (by simp; omega) (HK.out.below b3)).mono ?_
    rintro _ w4 ⟨O, rfl, hO, hb4⟩
    have b4 := b3.trans (hb4.mono b3.size)
    have y4 := (hb4.block _ (heap_lt y3)).trans y3
    refine ⟨_, rfl, hK' _ _ ⟨trivial, ?_⟩⟩
    clear hK' K' hmem
    obtain ⟨A5, hA5⟩ : ∃ A5, A5 = (((A2.put (some 5) v5).put (some 7) v7).put (some 9) v9).put (some 10) (.agg O) := ⟨_, rfl⟩
    show wpAnyH _ _ _ _ _ _ _ ((((A2.put (some 5) v5).put (some 7) v7).put (some 9) v9).put (some 10) (.agg O)) _
    have u4 : A5.eval (.tmp 4) = .pointer (some ⟨w.heap.size + 1, 0, none⟩) := by rw [hA5]; exact (ev_ne _ _ (by decide)).trans ((ev_ne _ _ (by decide)).trans ((ev_ne _ _ (by decide)).trans ((ev_ne _ _ (by decide)).trans z4)))
    have u10 : A5.eval (.tmp 10) = .agg O := by rw [hA5]; exact ev_eq _ _ (by simp [put_sz, z2])
    rw [← hA5]
    refine wpAnyH_all (rs := [6]) (by kernel_rfl) (by simp) fun i hmem => ?_
    obtain rfl : i = 6 := by simpa using hmem
    refine wpOp_own rfl rfl fun K' hK' => ?_
    refine wp_store_hash (.tmp 4) (.tmp 10) rfl (w.heap.size + 1) O Z hO.out hz.out u4 u10 y4 ?_
    refine hK' _ _ ⟨trivial, wpAnyH_done (by kernel_rfl) ⟨rfl, v5, .slice (some ⟨w.heap.size, 0, none⟩) 32 32, v7, .slice a n cap, v9, O, ?_, ?_, setRow_heap _ _ _ _ _ _ y4, b4.setRow (by omega) _⟩ _⟩
    · show A5 = _
      rw [hA5, hA2, hA]
      simp [Act.put]
    · have h := hO.out
      rwa [List.nil_append] at h
  · rintro aa W ⟨v5, v6, v7, v8, v9, O, rfl, hO, hrow, hb⟩
    have HO := hid hO
    have Hr := hid hrow
    have Hb := hid hb
    clear hO hrow hb HB HK HH hz zh x0 y0 b0 hW0 e1 e2 e4 sz
    go_wp2
    show bodyPost _ _ _ _ _ _
    refine bodyPost_ret (results_cell_row rfl _ _ (w.heap.size + 1) 69 O (0, 0) _ rfl Hr.out Tryd.underlying69 rfl HO.out.info) rfl ⟨O, rfl, HO, Hb.out⟩

end Go.Proofs.YthfmpebgmojcaaaDoor

/- Bytes appended from whatever slice; Copy and SameBytes of the reference (for the laws on sealed texts). -/
namespace Go.Proofs.YthfmpebgmojcaaaDoor
open Go.RowKit
set_option linter.unusedVariables false
set_option maxRecDepth 20000
set_option maxRecDepth 20000

/-- loading a hash, kept whole in the walk -/
def loadH (x : Value) : Sem Value := Instr.loadAt 69 x
theorem loadH_fold (x : Value) : Instr.loadAt 69 x = loadH x := rfl
theorem loadH_run {w : World} {g : Nat} {O : Array Value} {l : List UInt8} (hO : HV O l) (hg : w.heap[g]? = some (.cells O 69 (0, 0))) : (loadH (.pointer (some ⟨g, 0, none⟩))).run Tryd.prog w = .ok (.agg O) w := by
  have h := run_loadAt_mid (P := Tryd.prog) w g 0 69 O.toList _ (fun j v hj => by rw [Nat.zero_add, cell_of_row _ _ _ _ _ _ hg, ← hj, Array.getElem?_toList]) Tryd.underlying69 rfl (by rw [Array.length_toList]; exact hO.info)
  rw [Array.toArray_toList] at h
  exact h
theorem sizeOf_u8 (w : World) : (sizeOf 5).run Tryd.prog w = .ok 1 w := by
  have h : Tryd.t5.size = 1 := by kernel_rfl
  simp [sizeOf, h]
/-- two hashes compared by == -/
theorem hash_eq {A B : Array Value} {a b : List UInt8} (hA : HV A a) (hB : HV B b) (w : World) : (Op.equalIn 10000 69 (.agg A) (.agg B)).run Tryd.prog w = .ok (a == b) w := by
  rw [hA.eq, hB.eq]
  exact run_equalIn_bytes (P := Tryd.prog) w 9998 69 5 32 Tryd.underlying69 Tryd.underlying5 sizeOf_u8 a b hA.len hB.len
theorem hash_same {A B : Array Value} {a : List UInt8} (hA : HV A a) (hB : HV B a) (w : World) : (Op.equalIn 10000 69 (.agg A) (.agg B)).run Tryd.prog w = .ok true w := by
  rw [hash_eq hA hB, beq_self_eq_true]
/-- append(v, src...) where v is the call's own, src whatever bytes -/
theorem app_src (w : World) {ops : Array Oper} {rest : List Oper} {o : Oper} {a : Act} {Q : Exit → Act → World → Prop} (hgd : o.guard = none) (s x : Operand)
    (ho : o.op = .call { callee := .builtin .append, args := #[s, x], argTypes := #[40, 40] }) (base : Nat) (v : Value) (xs : List UInt8) (hs : a.eval s = v)
    (hown : w.ownsRow base 5 1 v xs.length (cellsOf xs)) (ad : Option Addr) (n c : Nat) (news : List UInt8) (hn : n = news.length) (hx : a.eval x = .slice ad n c) (hB : Bytes w ad news) (hc : ad = none → c = 0)
    (hb : xs.length + news.length ≤ 140737488355328) (hbase : base ≤ w.heap.size)
    (h : ∀ v' w', w'.ownsRow base 5 1 v' (xs ++ news).length (cellsOf (xs ++ news)) → Below base w w' → wpList Tryd.prog ops Q rest (a.put o.dst v') w') :
    wpList Tryd.prog ops Q (o :: rest) a w := by
  cases ad with
  | none =>
    obtain ⟨i0, hi, hz0, hz1, hz2⟩ := info_parts Tryd.info5
    have hl : news = [] := by
      cases news with
      | nil => rfl
      | cons c x => obtain ⟨b, o, e, _⟩ := hB 0 (by simp); cases e
    subst hl
    have h0 : n = 0 := hn
    subst h0
    rw [hc rfl] at hx
    refine wpList_append_own_none hgd s x 40 ho base 5 i0 1 Tryd.underlying40 hi v xs.length (cellsOf xs) hs hown hx ?_
    refine h v w ?_ (Below.refl _ w)
    rw [List.append_nil]
    exact hown
  | some ad =>
    refine app_bytes w hgd s x ho base v xs hs hown ad n c news hn.symm hx (fun j hj => ?_) (by rw [hn]; exact hb) hbase (fun v' w' h1 h2 _ => h v' w' h1 h2)
    obtain ⟨b, o, e, hcl⟩ := hB j hj
    cases e
    rw [addr_add]
    exact hcl

theorem below_drewN (B : Nat) (w : World) (n : Nat) : Below B w (w.drewN n) := ⟨rfl, rfl, rfl, Nat.le_refl _, fun _ _ => rfl⟩

end Go.Proofs.YthfmpebgmojcaaaDoor

/- A hash and an error as what a function answers. -/
namespace Go.Proofs.YthfmpebgmojcaaaDoor
open Go.RowKit
set_option linter.unusedVariables false
set_option maxRecDepth 20000
set_option maxRecDepth 20000

theorem built_hash : Tryd.prog.built 69 [] = some (bvs (List.replicate 32 0)) := by kernel_rfl
theorem wpList_build_none {ops : Array Oper} {rest : List Oper} {o : Oper} {a : Act} {w : World} {Q : Exit → Act → World → Prop} (hg : o.guard = none) (t : TypeId) (ho : o.op = .build t #[]) (cells : Array Value)
    (hb : Tryd.prog.built t [] = some cells) (h : wpList Tryd.prog ops Q rest (a.put o.dst (.agg cells)) w) : wpList Tryd.prog ops Q (o :: rest) a w := by
  refine wpList_build hg t #[] ho ?_ ?_
  · simp [hb]
  · simpa [hb] using h
theorem results_row_tmp {P : Program} {fn : Func} {p u : Tmp} {ty : TypeId} (h : fn.results = #[.cell p ty, .tmp u]) (tmps : Array Value) (w : World) (g : Nat) (t : TypeId) (cs : Array Value) (fr : Nat × Nat) (d : TypeDesc)
    (hp : tmps.getD p undef = .pointer (some ⟨g, 0, none⟩)) (hg : w.heap[g]? = some (.cells cs t fr))
    (hu : P.underlying ty = some d) (hd : (match d with | .struct _ | .array _ _ => true | _ => false) = true) (hi : (P.info? ty).map (·.size) = some cs.size) :
    (results fn tmps).run P w = .ok (.tuple #[.agg cs, tmps.getD u undef]) w := by
  rw [results_cell_tmp h, hp]
  simp [asAddr, run_loadVar_row w g t ty cs fr d hg hu hd hi, Result.andThen]

/-- a hash and an error -/
def HashErr (w : World) (l : List UInt8) (er : Int) (e : Ending) (w' : World) : Prop := ∃ O, e = .returned (.tuple #[.agg O, .int .i64 er]) ∧ HV O l ∧ Below w.heap.size w w'
end Go.Proofs.YthfmpebgmojcaaaDoor
