/- A key below another one: hash.Derive. -/
import Derived.Test.YtkgengiopjjhbaaDoorHKey
import Derived.Test.YtkgengiopjjhbaaDoorEPair
namespace Go.Proofs.YtkgengiopjjhbaaDoor
open Go.RowKit
set_option linter.unusedVariables false
set_option maxRecDepth 20000

/-- what Derive answers -/
def derRes (key : List UInt8) (l : List ByteArray) : List UInt8 := if keyErr l = 0 then hmac key (keyRes l) else List.replicate 32 0

set_option maxHeartbeats 1000000 in
theorem derive_any {w : World} {K : Array Value} {key : List UInt8} (hK : HV K key) (l : List ByteArray) (a : Option Addr) (n cap : Nat) (hn : n = l.length) (hX : Texts w a l) (hsz : ∀ s ∈ l, s.size ≤ 140737488351232) (hlen : l.length ≤ 140737488351232) (hT : KAt w) :
    Calls Tryd.prog 20 #[.agg K, .slice a n cap] w (HashErr w (derRes key l) (keyErr l : Int)) := by
  obtain ⟨Z, hZ⟩ : ∃ Z, Z = bvs (List.replicate 32 0) := ⟨_, rfl⟩
  have zh := (zero_of_info zero_hash).1
  have bh := built_hash
  rw [← hZ] at zh bh
  have hz : Hid (HV Z (List.replicate 32 0)) := by
    show HV _ _
    rw [hZ]; exact hv_zero
  have zh := hid zh
  have bh := hid bh
  have HK := hid hK
  have HX := hid hX
  have HT := hid hT
  have Hsz := hid hsz
  have hinf : (Tryd.prog.info? 23).map (·.size) = some K.size := hK.info
  obtain ⟨W0, hW0⟩ : ∃ W0, W0 = (w.alloc (.cells K 23)).alloc (.cells Z 23) := ⟨_, rfl⟩
  have b0 : Hid (Below w.heap.size w W0) := by
    show Below _ _ _
    rw [hW0]; exact ((Below.refl _ w).alloc (Nat.le_refl _) _).alloc (by simp) _
  have k0 : Hid (W0.heap[w.heap.size]? = some (.cells K 23 (0, 0))) := by
    show _ = _
    rw [hW0]; exact heap_alloc2_old w _ _
  have r0 : Hid (W0.heap[w.heap.size + 1]? = some (.cells Z 23 (0, 0))) := by
    show _ = _
    rw [hW0]; exact heap_alloc2_new w _ _
  have HW0 := hid hW0.symm
  have lk : keyErr l = 0 → (keyRes l).length ≤ 64 := fun h => by
    have h1 := h
    unfold keyErr at h
    unfold keyRes
    rw [if_pos h1]
    split at h
    · cases h
    · split at h
      · cases h
      · omega
  have Hlk := hid lk
  subst hn
  clear hK hX hT hsz hZ hW0 lk
  go_enter Tryd.func20, Tryd.ntmps20
  go_wp2_with (with_reducible show Go.wpList _ _ _ _ _ _; refine wpList_alloc_row rfl 23 rfl Z zh.out ?_)
  rw [HW0.out]
  refine (key_any l a cap _ (HX.out.below b0.out) Hsz.out hlen).mono ?_
  rintro _ W1 ⟨a1, c1, rfl, hB1, hb1, hc1⟩
  have b1 : Hid (Below w.heap.size w W1) := Below.on' b0.out hb1
  have k1 : Hid (W1.heap[w.heap.size]? = some (.cells K 23 (0, 0))) := (hb1.block _ (heap_lt k0.out)).trans k0.out
  have r1 : Hid (W1.heap[w.heap.size + 1]? = some (.cells Z 23 (0, 0))) := (hb1.block _ (heap_lt r0.out)).trans r0.out
  have HB1 := hid hB1
  clear hb1 hB1 b0 k0 r0
  by_cases he : keyErr l = 0
  · have hl64 := Hlk.out he
    have Hr : Hid (derRes key l = hmac key (keyRes l)) := by
      show _ = _
      unfold derRes; rw [if_pos he]
    have He := hid he
    rw [he]
    obtain ⟨m, hm⟩ : ∃ m, m = (keyRes l).length := ⟨_, rfl⟩
    rw [← hm] at hl64 hc1 ⊢
    have Hm := hid hm
    clear he hm Hlk
    go_wp2_with fail
    refine (tag_any key (some ⟨w.heap.size, 0, none⟩) 32 32 HK.out.len.symm (HK.out.bytes k1.out) (by rw [HK.out.len]; omega) (by rw [HK.out.len]; omega) (keyRes l) a1 m c1 Hm.out HB1.out (by have := Hm.out; omega) (by have := Hm.out; omega) (HT.out.below b1.out)).mono ?_
    rintro _ W2 ⟨O, rfl, hO, hb2⟩
    have HO := hid hO
    have b2 : Hid (Below w.heap.size w W2) := Below.on' b1.out hb2
    have r2 : Hid (W2.heap[w.heap.size + 1]? = some (.cells Z 23 (0, 0))) := (hb2.block _ (heap_lt r1.out)).trans r1.out
    clear hO hb2 b1 r1 k1 HB1
    go_wp2_with (with_reducible show Go.wpList _ _ _ _ _ _; refine wpList_store_row rfl 23 (.tmp 4) (.tmp 19) rfl (w.heap.size + 1) O rfl rfl 23 Z r2.out HO.out.info (hz.out.size.trans HO.out.size.symm) HO.out.one ?_)
    refine bodyPost_ret (results_row_tmp rfl _ _ (w.heap.size + 1) 23 O (0, 0) _ rfl (setRow_heap _ _ _ _ _ _ r2.out) Tryd.underlying23 rfl HO.out.info) rfl ?_
    rw [He.out]
    refine ⟨O, rfl, ?_, b2.out.setRow (by omega) _⟩
    rw [Hr.out]; exact HO.out
  · have Hr : Hid (derRes key l = List.replicate 32 0) := by
      show _ = _
      unfold derRes; rw [if_neg he]
    have q0 : ((keyErr l : Int) != 0) = true := by rw [bne_iff_ne]; omega
    have q1 : ¬ (keyErr l : Int) = 0 := by omega
    go_wp2_with (with_reducible show Go.wpList _ _ _ _ _ _; first
      | refine wpList_build_none rfl 23 rfl Z bh.out ?_
      | refine wpList_store_row rfl 23 (.tmp 4) (.tmp 15) rfl (w.heap.size + 1) Z rfl rfl 23 Z r1.out hz.out.info rfl hz.out.one ?_)
    refine bodyPost_ret (results_row_tmp rfl _ _ (w.heap.size + 1) 23 Z (0, 0) _ rfl (setRow_heap _ _ _ _ _ _ r1.out) Tryd.underlying23 rfl hz.out.info) rfl ?_
    refine ⟨Z, rfl, ?_, b1.out.setRow (by omega) _⟩
    rw [Hr.out]; exact hz.out
end Go.Proofs.YtkgengiopjjhbaaDoor
