/- Keys below a key, and links of a chain, as the reference has them. -/
import Derived.Test.YtfiaefagnkmpoaaDoorHDerive
import Derived.Test.YtfiaefagnkmpoaaDoorHRefKey
import Derived.Test.YtfiaefagnkmpoaaDoorHRefSum
namespace Go.Proofs.YtfiaefagnkmpoaaDoor
open Go.RowKit
set_option linter.unusedVariables false
set_option maxRecDepth 20000

set_option maxHeartbeats 1000000 in
theorem refDerive_any {w : World} {K : Array Value} {key : List UInt8} (hK : HV K key) (l : List ByteArray) (a : Option Addr) (n cap : Nat) (hn : n = l.length) (hX : Texts w a l) (hsz : ∀ s ∈ l, s.size ≤ 140737488351232) (hlen : l.length ≤ 140737488351232) (hT : True) :
    Calls Tryd.prog 19 #[.agg K, .slice a n cap] w (HashErr w (derRes key l) (keyErr l : Int)) := by
  obtain ⟨Z, hZ⟩ : ∃ Z, Z = bvs (List.replicate 32 0) := ⟨_, rfl⟩
  have zh := (zero_of_info zero_hash).1
  have bh := built_hash
  rw [← hZ] at zh bh
  have hz : Hid (HV Z (List.replicate 32 0)) := by
    show HV _ _
    rw [hZ]; exact hv_zero
  have zh := hid zh
  have bh := hid bh
  have HK := hid hK
  have HX := hid hX
  have HT := hid hT
  have Hsz := hid hsz
  have hinf : (Tryd.prog.info? 26).map (·.size) = some K.size := hK.info
  obtain ⟨W0, hW0⟩ : ∃ W0, W0 = (w.alloc (.cells K 26)).alloc (.cells Z 26) := ⟨_, rfl⟩
  have b0 : Hid (Below w.heap.size w W0) := by
    show Below _ _ _
    rw [hW0]; exact ((Below.refl _ w).alloc (Nat.le_refl _) _).alloc (by simp) _
  have k0 : Hid (W0.heap[w.heap.size]? = some (.cells K 26 (0, 0))) := by
    show _ = _
    rw [hW0]; exact heap_alloc2_old w _ _
  have r0 : Hid (W0.heap[w.heap.size + 1]? = some (.cells Z 26 (0, 0))) := by
    show _ = _
    rw [hW0]; exact heap_alloc2_new w _ _
  have HW0 := hid hW0.symm
  have lk : keyErr l = 0 → (keyRes l).length ≤ 64 := fun h => by
    have h1 := h
    unfold keyErr at h
    unfold keyRes
    rw [if_pos h1]
    split at h
    · cases h
    · split at h
      · cases h
      · omega
  have Hlk := hid lk
  subst hn
  clear hK hX hT hsz hZ hW0 lk
  go_enter Tryd.func19, Tryd.ntmps19
  go_wp2_with (with_reducible show Go.wpList _ _ _ _ _ _; refine wpList_alloc_row rfl 26 rfl Z zh.out ?_)
  rw [HW0.out]
  refine (refKey_any l a cap _ (HX.out.below b0.out) Hsz.out hlen).mono ?_
  rintro _ W1 ⟨a1, c1, rfl, hB1, hb1, hc1, hcn1⟩
  have Hcn := hid hcn1
  clear hcn1
  have b1 : Hid (Below w.heap.size w W1) := Below.on' b0.out hb1
  have k1 : Hid (W1.heap[w.heap.size]? = some (.cells K 26 (0, 0))) := (hb1.block _ (heap_lt k0.out)).trans k0.out
  have r1 : Hid (W1.heap[w.heap.size + 1]? = some (.cells Z 26 (0, 0))) := (hb1.block _ (heap_lt r0.out)).trans r0.out
  have HB1 := hid hB1
  clear hb1 hB1 b0 k0 r0
  by_cases he : keyErr l = 0
  · have hl64 := Hlk.out he
    have Hr : Hid (derRes key l = hmac key (keyRes l)) := by
      show _ = _
      unfold derRes; rw [if_pos he]
    have He := hid he
    rw [he]
    obtain ⟨m, hm⟩ : ∃ m, m = (keyRes l).length := ⟨_, rfl⟩
    rw [← hm] at hl64 hc1 ⊢
    have Hm := hid hm
    clear he hm Hlk
    go_wp2_with (with_reducible show Go.wpList _ _ _ _ _ _; refine wpList_load_row rfl 26 _ rfl w.heap.size rfl _ _ _ _ k1.out Tryd.underlying26 rfl hinf ?_)
    refine (bytesOf_any HK.out).mono ?_
    rintro _ W6 ⟨v6, rfl, ho6, hb6⟩
    obtain ⟨a6, c6, rfl, B6, lc6, hn6⟩ := bytes_of_own0 ho6
    have HB6 := hid B6
    have HB1 : Hid (Bytes W6 a1 (keyRes l)) := HB1.out.below hb6
    have Hn6 := hid hn6
    have r1 : Hid (W6.heap[w.heap.size + 1]? = some (.cells Z 26 (0, 0))) := (hb6.block _ (heap_lt r1.out)).trans r1.out
    have b1 : Hid (Below w.heap.size w W6) := Below.on' b1.out hb6
    clear ho6 hb6 B6 hn6
    go_wp2_with fail
    refine (refTag_any sumOk key a6 key.length c6 rfl HB6.out Hn6.out (by rw [HK.out.len]; omega) lc6 (keyRes l) a1 m c1 Hm.out HB1.out Hcn.out (by have := Hm.out; omega) (by have := Hm.out; omega)).mono ?_
    rintro _ W2 ⟨O, rfl, hO, hb2⟩
    have HO := hid hO
    have b2 : Hid (Below w.heap.size w W2) := Below.on' b1.out hb2
    have r2 : Hid (W2.heap[w.heap.size + 1]? = some (.cells Z 26 (0, 0))) := (hb2.block _ (heap_lt r1.out)).trans r1.out
    clear hO hb2 b1 r1 k1 HB1
    go_wp2_with (with_reducible show Go.wpList _ _ _ _ _ _; refine wpList_store_row rfl 26 (.tmp 4) (.tmp 20) rfl (w.heap.size + 1) O rfl rfl 26 Z r2.out HO.out.info (hz.out.size.trans HO.out.size.symm) HO.out.one ?_)
    refine bodyPost_ret (results_row_tmp rfl _ _ (w.heap.size + 1) 26 O (0, 0) _ rfl (setRow_heap _ _ _ _ _ _ r2.out) Tryd.underlying26 rfl HO.out.info) rfl ?_
    rw [He.out]
    refine ⟨O, rfl, ?_, b2.out.setRow (by omega) _⟩
    rw [Hr.out]; exact HO.out
  · have Hr : Hid (derRes key l = List.replicate 32 0) := by
      show _ = _
      unfold derRes; rw [if_neg he]
    have q0 : ((keyErr l : Int) != 0) = true := by rw [bne_iff_ne]; omega
    have q1 : ¬ (keyErr l : Int) = 0 := by omega
    go_wp2_with (with_reducible show Go.wpList _ _ _ _ _ _; first
      | refine wpList_build_none rfl 26 rfl Z bh.out ?_
      | refine wpList_store_row rfl 26 (.tmp 4) (.tmp 15) rfl (w.heap.size + 1) Z rfl rfl 26 Z r1.out hz.out.info rfl hz.out.one ?_)
    refine bodyPost_ret (results_row_tmp rfl _ _ (w.heap.size + 1) 26 Z (0, 0) _ rfl (setRow_heap _ _ _ _ _ _ r1.out) Tryd.underlying26 rfl hz.out.info) rfl ?_
    refine ⟨Z, rfl, ?_, b1.out.setRow (by omega) _⟩
    rw [Hr.out]; exact hz.out

set_option maxHeartbeats 1000000 in
theorem refChain_any {w : World} {K : Array Value} {key : List UInt8} (hK : HV K key) (b : List UInt8) (a : Option Addr) (n cap : Nat) (hn : n = b.length) (hB : Bytes w a b) (hc : a = none → cap = 0) (hl : b.length ≤ 140737488351232) :
    Calls Tryd.prog 21 #[.agg K, .slice a n cap] w fun e w' => ∃ O, e = .returned (.agg O) ∧ Hid (HV O (sha (key ++ b))) ∧ Below w.heap.size w w' := by
  obtain ⟨Z, hZ⟩ : ∃ Z, Z = bvs (List.replicate 32 0) := ⟨_, rfl⟩
  have zh := (zero_of_info zero_hash).1
  rw [← hZ] at zh
  have hz : Hid (HV Z (List.replicate 32 0)) := by
    show HV _ _
    rw [hZ]; exact hv_zero
  have zh := hid zh
  have HK := hid hK
  have HB := hid hB
  have Hn := hid hn
  have Hc := hid hc
  have hinf : (Tryd.prog.info? 26).map (·.size) = some K.size := hK.info
  have lk : key.length = 32 := hK.len
  obtain ⟨W0, hW0⟩ : ∃ W0, W0 = (w.alloc (.cells K 26)).alloc (.cells Z 26) := ⟨_, rfl⟩
  have b0 : Hid (Below w.heap.size w W0) := by
    show Below _ _ _
    rw [hW0]; exact ((Below.refl _ w).alloc (Nat.le_refl _) _).alloc (by simp) _
  have k0 : Hid (W0.heap[w.heap.size]? = some (.cells K 26 (0, 0))) := by
    show _ = _
    rw [hW0]; exact heap_alloc2_old w _ _
  have r0 : Hid (W0.heap[w.heap.size + 1]? = some (.cells Z 26 (0, 0))) := by
    show _ = _
    rw [hW0]; exact heap_alloc2_new w _ _
  have HW0 := hid hW0.symm
  have s0 : Hid (W0.heap.size = w.heap.size + 2) := by
    show _ = _
    rw [hW0]; simp
  clear hK hB hn hc hZ hW0
  go_enter Tryd.func21, Tryd.ntmps21
  go_wp2_with (with_reducible show Go.wpList _ _ _ _ _ _; first
    | refine wpList_alloc_row rfl 26 rfl Z zh.out ?_
    | (rw [HW0.out]; refine wpList_load_row rfl 26 _ rfl w.heap.size rfl _ _ _ _ k0.out Tryd.underlying26 rfl hinf ?_))
  refine (bytesOf_any HK.out).mono ?_
  rintro _ W1 ⟨v1, rfl, ho1, hb1⟩
  have Ho1 := hid ho1
  have b1 : Hid (Below w.heap.size w W1) := Below.on' b0.out hb1
  have r1 : Hid (W1.heap[w.heap.size + 1]? = some (.cells Z 26 (0, 0))) := (hb1.block _ (heap_lt r0.out)).trans r0.out
  have s1 : Hid (W0.heap.size ≤ W1.heap.size) := hb1.size
  clear ho1 hb1
  go_wp2_with (at_builtin; refine app_src _ rfl (.tmp 8) (.tmp 9) rfl W0.heap.size _ key rfl Ho1.out a n cap b Hn.out rfl (HB.out.below b1.out) Hc.out (by omega) s1.out ?_; intro v2 W2 ho2 hb2; have Ho2 := hid ho2; have r2 : Hid (W2.heap[w.heap.size + 1]? = some (.cells Z 26 (0, 0))) := (hb2.block _ (by have := s0.out; omega)).trans r1.out; have b2 : Hid (Below w.heap.size w W2) := b1.out.trans (hb2.mono (by have := s0.out; omega)); clear ho2 hb2)
  obtain ⟨a2, c2, rfl, B2, lc2, hn2⟩ := bytes_of_own0 Ho2.out
  have lkb : (key ++ b).length = key.length + b.length := List.length_append
  refine (sumOk _ (key ++ b) a2 (key ++ b).length c2 rfl B2 hn2 (by omega) lc2).mono ?_
  rintro _ W3 ⟨O, rfl, hO, hb3⟩
  have r3 : Hid (W3.heap[w.heap.size + 1]? = some (.cells Z 26 (0, 0))) := (hb3.block _ (heap_lt r2.out)).trans r2.out
  have b3 : Hid (Below w.heap.size w W3) := Below.on' b2.out hb3
  clear B2 hb3 Ho2
  go_wp2_with (with_reducible show Go.wpList _ _ _ _ _ _; refine wpList_store_row rfl 26 _ _ rfl (w.heap.size + 1) O rfl rfl 26 Z r3.out hO.out.info (hz.out.size.trans hO.out.size.symm) hO.out.one ?_)
  refine bodyPost_ret (results_cell_row rfl _ _ (w.heap.size + 1) 26 O (0, 0) _ rfl (setRow_heap _ _ _ _ _ _ r3.out) Tryd.underlying26 rfl hO.out.info) rfl ⟨O, rfl, hO, b3.out.setRow (by omega) _⟩
end Go.Proofs.YtfiaefagnkmpoaaDoor
