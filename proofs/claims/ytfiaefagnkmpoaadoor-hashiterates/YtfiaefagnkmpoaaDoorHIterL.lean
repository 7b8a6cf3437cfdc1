/- HashIterates of the laws on hashes, walked. -/
import Derived.Test.YtfiaefagnkmpoaaDoorHRefIter
import Derived.Test.YtfiaefagnkmpoaaDoorHCopy
namespace Go.Proofs.YtfiaefagnkmpoaaDoor
open Go.RowKit
set_option linter.unusedVariables false
set_option maxRecDepth 20000
attribute [local go_sem ↓] loadH_fold

set_option maxHeartbeats 2000000 in
theorem hashIterates_walk (p : ByteArray) (hp : p.size ≤ 140737488351232) (s : ByteArray) (hs : s.size ≤ 140737488351232) (c : Int) (hc : (Lit.int .i64 c).wf = true) (w : World) (hK : KAt w) :
    Calls Tryd.prog 4 #[.string p, .string s, .int .i64 c] w fun e w' => e = .returned (.bool true) ∧ Below w.heap.size w w' := by
  obtain ⟨Z, hZ⟩ : ∃ Z, Z = bvs (List.replicate 32 0) := ⟨_, rfl⟩
  have zh := (zero_of_info zero_hash).1
  rw [← hZ] at zh
  have hz : Hid (HV Z (List.replicate 32 0)) := by
    show HV _ _
    rw [hZ]; exact hv_zero
  have zh := hid zh
  have HK := hid hK
  have HLive : Hid (∀ W, Below w.heap.size w W → Calls Tryd.prog 10 #[] W fun e w' => e = .returned (.bool true) ∧ Below W.heap.size W w') := fun W hW => live_any (HK.out.below hW)
  obtain ⟨R, hR⟩ : ∃ R, R = itRes p s c := ⟨_, rfl⟩
  obtain ⟨er, her⟩ : ∃ er, er = itErr p s c := ⟨_, rfl⟩
  have I1 : Hid (∀ W, Below w.heap.size w W → Calls Tryd.prog 16 #[.string p, .string s, .int .i64 c] W (HashErr W R er)) := fun W hW => by
    rw [hR, her]; exact iterate_any p s c (by omega) (by omega) (HK.out.below hW)
  have I2 : Hid (∀ W, Calls Tryd.prog 17 #[.string p, .string s, .int .i64 c] W (HashErr W R er)) := fun W => by
    rw [hR, her]; exact refIterate_any p s c (by omega) (by omega) trivial
  clear hZ hK hR her
  go_enter Tryd.func4, Tryd.ntmps4
  go_wp2_with fail
  refine (I1.out _ (Below.refl _ _)).mono ?_
  rintro _ w1 ⟨X, rfl, hX, hb1⟩
  have HX := hid hX
  have b1 := hid hb1
  clear hX hb1
  go_wp2_with (with_reducible show Go.wpList _ _ _ _ _ _; first
    | refine wpList_alloc_row rfl 26 rfl Z zh.out ?_
    | (refine wpList_store_row rfl 26 _ _ rfl w1.heap.size X rfl rfl 26 Z (heap_alloc_new w1 _) HX.out.info (hz.out.size.trans HX.out.size.symm) HX.out.one ?_; rw [World.setRow_alloc_new]))
  have b2 : Hid (Below w.heap.size w (w1.alloc (.cells X 26))) := b1.out.alloc b1.out.size _
  refine (I2.out _).mono ?_
  rintro _ w2 ⟨Y, rfl, hY, hb2⟩
  have HY := hid hY
  have b3 : Hid (Below w.heap.size w w2) := Below.on' b2.out hb2
  have x3 : Hid (w2.heap[w1.heap.size]? = some (.cells X 26 (0, 0))) := (hb2.block _ (by simp)).trans (heap_alloc_new w1 _)
  clear hY hb2 b2 b1
  obtain ⟨W, hW⟩ : ∃ W, W = w2.alloc (.cells Y 26) := ⟨_, rfl⟩
  have b4 : Hid (Below w.heap.size w W) := by
    show Below _ _ _
    rw [hW]; exact b3.out.alloc b3.out.size _
  have x4 : Hid (W.heap[w1.heap.size]? = some (.cells X 26 (0, 0))) := by
    show _ = _
    rw [hW]; exact (Below.heap_alloc _ _ _ (heap_lt x3.out)).trans x3.out
  have y4 : Hid (W.heap[w2.heap.size]? = some (.cells Y 26 (0, 0))) := by
    show _ = _
    rw [hW]; exact heap_alloc_new w2 _
  have HWe := hid hW
  clear hW
  go_wp2_with (with_reducible show Go.wpList _ _ _ _ _ _; first
    | refine wpList_alloc_row rfl 26 rfl Z zh.out ?_
    | (refine wpList_store_row rfl 26 _ _ rfl w2.heap.size Y rfl rfl 26 Z (heap_alloc_new w2 _) HY.out.info (hz.out.size.trans HY.out.size.symm) HY.out.one ?_; rw [World.setRow_alloc_new, ← HWe.out]))
  refine (HLive.out _ b4.out).mono ?_
  rintro _ w5 ⟨rfl, hb5⟩
  have b5 : Hid (Below w.heap.size w w5) := Below.on' b4.out hb5
  have l1 := loadH_run HX.out ((hb5.block _ (heap_lt x4.out)).trans x4.out)
  have l2 := loadH_run HY.out ((hb5.block _ (heap_lt y4.out)).trans y4.out)
  have hq := hash_same HX.out HY.out w5
  clear hb5
  go_wp2
  go_ret
  exact ⟨ret_bool (by simp), b5.out⟩
end Go.Proofs.YtfiaefagnkmpoaaDoor
