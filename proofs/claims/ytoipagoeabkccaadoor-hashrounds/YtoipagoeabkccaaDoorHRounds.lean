/- HashRounds of the laws on hashes, walked. -/
import Derived.Test.YtoipagoeabkccaaDoorHIter
namespace Go.Proofs.YtoipagoeabkccaaDoor
open Go.RowKit
set_option linter.unusedVariables false
set_option maxRecDepth 20000

theorem rng_row {w : World} {g : Nat} {xs : List Value} {t : TypeId} (h : w.heap[g]? = some (.cells xs.toArray t (0, 0))) : w.rangeAt g 0 xs := fun j v hj => by rw [Nat.zero_add, cell_of_row _ _ _ _ _ _ h, List.getElem?_toArray, hj]

set_option maxHeartbeats 4000000 in
theorem hashRounds_walk (p : ByteArray) (hp : p.size ≤ 140737488351232) (s : ByteArray) (hs : s.size ≤ 140737488351232) (c : Int) (hc : (Lit.int .u8 c).wf = true) (w : World) (hK : KAt w) :
    Calls Tryd.prog 8 #[.string p, .string s, .int .u8 c] w fun e w' => e = .returned (.bool true) ∧ Below w.heap.size w w' := by
  have hr : 0 ≤ c ∧ c ≤ 255 := by simpa [Lit.wf, IntKind.min, IntKind.max, IntKind.signed, IntKind.bits] using hc
  obtain ⟨k, hk⟩ : ∃ k : Nat, k = c.toNat % 62 + 1 := ⟨_, rfl⟩
  have q1 : IntKind.i64.wrap c = c := by rw [IntKind.wrap_i64]; omega
  have q2 : c.tmod 62 = ((k - 1 : Nat) : Int) := by rw [Int.tmod_eq_emod_of_nonneg (by omega)]; omega
  have q3 : ((k - 1 : Nat) : Int) + 1 = (k : Int) := by omega
  have q4 : IntKind.i64.wrap (((k - 1 : Nat) : Int) + 1) = (k : Int) := by rw [IntKind.wrap_i64]; omega
  have k1 : 1 ≤ k := by omega
  have k62 : k ≤ 62 := by omega
  obtain ⟨Z, hZ⟩ : ∃ Z, Z = bvs (List.replicate 32 0) := ⟨_, rfl⟩
  have zh := (zero_of_info zero_hash).1
  rw [← hZ] at zh
  have hz : Hid (HV Z (List.replicate 32 0)) := by
    show HV _ _
    rw [hZ]; exact hv_zero
  have zh := hid zh
  have HK := hid hK
  have HLive : Hid (∀ W, Below w.heap.size w W → Calls Tryd.prog 19 #[] W fun e w' => e = .returned (.bool true) ∧ Below W.heap.size W w') := fun W hW => live_any (HK.out.below hW)
  clear hZ hK hk
  by_cases hbad : 64 < p.size ∨ 8 < s.size
  · have I1 : Hid (∀ W, Below w.heap.size w W → Calls Tryd.prog 25 #[.string p, .string s, .int .i64 (k : Int)] W (HashErr W (itRes p s (k : Int)) 6)) := fun W hW => by
      have h := iterate_any p s (k : Int) (by omega) (by omega) (HK.out.below hW)
      rwa [show itErr p s (k : Int) = 6 by simp [itErr, hbad]] at h
    have I2 : Hid (∀ W, Below w.heap.size w W → Calls Tryd.prog 25 #[.string p, .string s, .int .i64 ((k : Int) + 1)] W (HashErr W (itRes p s ((k : Int) + 1)) 6)) := fun W hW => by
      have h := iterate_any p s ((k : Int) + 1) (by omega) (by omega) (HK.out.below hW)
      rwa [show itErr p s ((k : Int) + 1) = 6 by simp [itErr, hbad]] at h
    clear hbad
    go_enter Tryd.func8, Tryd.ntmps8
    go_wp2_with fail
    refine (I1.out _ (Below.refl _ _)).mono ?_
    rintro _ w1 ⟨X, rfl, hX, hb1⟩
    have HX := hid hX
    have b1 := hid hb1
    clear hX hb1
    go_wp2_with (with_reducible show Go.wpList _ _ _ _ _ _; first
      | refine wpList_alloc_row rfl 26 rfl Z zh.out ?_
      | (refine wpList_store_row rfl 26 _ _ rfl w1.heap.size X rfl rfl 26 Z (heap_alloc_new w1 _) HX.out.info (hz.out.size.trans HX.out.size.symm) HX.out.one ?_; rw [World.setRow_alloc_new]))
    have b2 : Hid (Below w.heap.size w (w1.alloc (.cells X 26))) := b1.out.alloc b1.out.size _
    refine (I2.out _ b2.out).mono ?_
    rintro _ w2 ⟨Y, rfl, hY, hb2⟩
    obtain ⟨ys, rfl⟩ : ∃ ys : List Value, Y = ys.toArray := ⟨Y.toList, by simp⟩
    have HY := hid hY
    have b3 : Hid (Below w.heap.size w w2) := Below.on' b2.out hb2
    have x3 : Hid (w2.heap[w1.heap.size]? = some (.cells X 26 (0, 0))) := (hb2.block _ (by simp)).trans (heap_alloc_new w1 _)
    have hu := Tryd.underlying26
    have hinf : (Tryd.prog.info? 26).map (·.size) = some ys.length := hY.info
    clear hY hb2 b2 b1
    obtain ⟨W, hW⟩ : ∃ W, W = w2.alloc (.cells ys.toArray 26) := ⟨_, rfl⟩
    have b4 : Hid (Below w.heap.size w W) := by
      show Below _ _ _
      rw [hW]; exact b3.out.alloc b3.out.size _
    have x4 : Hid (W.heap[w1.heap.size]? = some (.cells X 26 (0, 0))) := by
      show _ = _
      rw [hW]; exact (Below.heap_alloc _ _ _ (heap_lt x3.out)).trans x3.out
    have y4 : Hid (W.heap[w2.heap.size]? = some (.cells ys.toArray 26 (0, 0))) := by
      show _ = _
      rw [hW]; exact heap_alloc_new w2 _
    have HWe := hid hW
    clear hW
    go_wp2_with (with_reducible show Go.wpList _ _ _ _ _ _; first
      | refine wpList_alloc_row rfl 26 rfl Z zh.out ?_
      | (refine wpList_store_row rfl 26 _ _ rfl w2.heap.size ys.toArray rfl rfl 26 Z (heap_alloc_new w2 _) HY.out.info (hz.out.size.trans HY.out.size.symm) HY.out.one ?_; rw [World.setRow_alloc_new, ← HWe.out]))
    refine (HLive.out _ b4.out).mono ?_
    rintro _ w5 ⟨rfl, hb5⟩
    have b5 : Hid (Below w.heap.size w w5) := Below.on' b4.out hb5
    clear hb5
    go_wp2
    go_ret
    exact ⟨rfl, b5.out⟩
  · have I1 : Hid (∀ W, Below w.heap.size w W → Calls Tryd.prog 25 #[.string p, .string s, .int .i64 (k : Int)] W (HashErr W (iterN p.data.toList s.data.toList k) 0)) := fun W hW => by
      have h := iterate_any p s (k : Int) (by omega) (by omega) (HK.out.below hW)
      rw [show itErr p s (k : Int) = 0 by unfold itErr; rw [if_neg hbad, if_neg (by omega)], show itRes p s (k : Int) = iterN p.data.toList s.data.toList k by unfold itRes; rw [if_neg hbad, if_neg (by omega)]; simp] at h
      exact h
    have I2 : Hid (∀ W, Below w.heap.size w W → Calls Tryd.prog 25 #[.string p, .string s, .int .i64 ((k : Int) + 1)] W (HashErr W (hmac p.data.toList (iterN p.data.toList s.data.toList k)) 0)) := fun W hW => by
      have h := iterate_any p s ((k : Int) + 1) (by omega) (by omega) (HK.out.below hW)
      rw [show itErr p s ((k : Int) + 1) = 0 by unfold itErr; rw [if_neg hbad, if_neg (by omega)], show itRes p s ((k : Int) + 1) = hmac p.data.toList (iterN p.data.toList s.data.toList k) by unfold itRes; rw [if_neg hbad, if_neg (by omega), show ((k : Int) + 1).toNat = k + 1 by omega]; rfl] at h
      exact h
    have Hlp : Hid (p.data.toList.length = p.size) := Array.length_toList
    clear hbad
    go_enter Tryd.func8, Tryd.ntmps8
    go_wp2_with fail
    refine (I1.out _ (Below.refl _ _)).mono ?_
    rintro _ w1 ⟨X, rfl, hX, hb1⟩
    have HX := hid hX
    have b1 := hid hb1
    clear hX hb1
    go_wp2_with (with_reducible show Go.wpList _ _ _ _ _ _; first
      | refine wpList_alloc_row rfl 26 rfl Z zh.out ?_
      | (refine wpList_store_row rfl 26 _ _ rfl w1.heap.size X rfl rfl 26 Z (heap_alloc_new w1 _) HX.out.info (hz.out.size.trans HX.out.size.symm) HX.out.one ?_; rw [World.setRow_alloc_new]))
    have b2 : Hid (Below w.heap.size w (w1.alloc (.cells X 26))) := b1.out.alloc b1.out.size _
    refine (I2.out _ b2.out).mono ?_
    rintro _ w2 ⟨Y, rfl, hY, hb2⟩
    obtain ⟨ys, rfl⟩ : ∃ ys : List Value, Y = ys.toArray := ⟨Y.toList, by simp⟩
    have HY := hid hY
    have b3 : Hid (Below w.heap.size w w2) := Below.on' b2.out hb2
    have x3 : Hid (w2.heap[w1.heap.size]? = some (.cells X 26 (0, 0))) := (hb2.block _ (by simp)).trans (heap_alloc_new w1 _)
    have hu := Tryd.underlying26
    have hinf : (Tryd.prog.info? 26).map (·.size) = some ys.length := hY.info
    clear hY hb2 b2 b1
    obtain ⟨W, hW⟩ : ∃ W, W = w2.alloc (.cells ys.toArray 26) := ⟨_, rfl⟩
    have b4 : Hid (Below w.heap.size w W) := by
      show Below _ _ _
      rw [hW]; exact b3.out.alloc b3.out.size _
    have x4 : Hid (W.heap[w1.heap.size]? = some (.cells X 26 (0, 0))) := by
      show _ = _
      rw [hW]; exact (Below.heap_alloc _ _ _ (heap_lt x3.out)).trans x3.out
    have y4 : Hid (W.heap[w2.heap.size]? = some (.cells ys.toArray 26 (0, 0))) := by
      show _ = _
      rw [hW]; exact heap_alloc_new w2 _
    have HWe := hid hW
    clear hW
    go_wp2_with (with_reducible show Go.wpList _ _ _ _ _ _; first
      | refine wpList_alloc_row rfl 26 rfl Z zh.out ?_
      | (refine wpList_store_row rfl 26 _ _ rfl w2.heap.size ys.toArray rfl rfl 26 Z (heap_alloc_new w2 _) HY.out.info (hz.out.size.trans HY.out.size.symm) HY.out.one ?_; rw [World.setRow_alloc_new, ← HWe.out]))
    have s4 : Hid (W.rangeAt w2.heap.size 0 ys) := rng_row y4.out
    clear zh
    go_region_held (fun w9 => w9.rangeAt w2.heap.size 0 ys) (first | exact s4.out | exact s5.out | exact s6.out | exact s7.out | exact s8.out)
      (first
        | (go_at_call 19; refine (HLive.out _ b4.out.drew).mono ?_; rintro _ w5 ⟨rfl, hb5⟩; have b5 : Hid (Below w.heap.size w w5) := Below.on' b4.out (undrew1 hb5); have x5 : Hid (w5.heap[w1.heap.size]? = some (.cells X 26 (0, 0))) := (hb5.block _ (heap_lt x4.out)).trans x4.out; have s5 : Hid (w5.rangeAt w2.heap.size 0 ys) := rng_row ((hb5.block _ (heap_lt y4.out)).trans y4.out); obtain ⟨cq, w6, hcq, hB6, lc6, hb6⟩ := conv_str w5 p; have b6 : Hid (Below w.heap.size w w6) := Below.on' b5.out hb6; have x6 : Hid (w6.heap[w1.heap.size]? = some (.cells X 26 (0, 0))) := (hb6.block _ (heap_lt x5.out)).trans x5.out; have HB6 := hid hB6; have s6 : Hid (w6.rangeAt w2.heap.size 0 ys) := rng_below s5.out hb6; clear hb5 hb6 hB6)
        | (go_at_call 22; refine (tag_any p.data.toList (some ⟨w5.heap.size, 0, none⟩) p.size cq Hlp.out.symm HB6.out (by have := Hlp.out; omega) (by have := Hlp.out; omega) (iterN p.data.toList s.data.toList k) (some ⟨w1.heap.size, 0, none⟩) 32 32 (iterN_length _ _ _).symm (HX.out.bytes x6.out) (by rw [iterN_length]; omega) (by rw [iterN_length]; omega) (HK.out.below b6.out)).mono ?_; rintro _ w7 ⟨T, rfl, hT, hb7⟩; have HT := hid hT; have b7 : Hid (Below w.heap.size w w7) := Below.on' b6.out hb7; have s7 : Hid (w7.rangeAt w2.heap.size 0 ys) := rng_below s6.out hb7; clear hb7 hT)
        | (go_at_call 35; refine (same_any HY.out HT.out).mono ?_; rintro _ w8 ⟨rfl, hb8⟩; have b8 : Hid (Below w.heap.size w w8) := Below.on' b7.out hb8; have s8 : Hid (w8.rangeAt w2.heap.size 0 ys) := rng_below s7.out hb8; clear hb8))
    go_wp2
    go_ret
    exact ⟨rfl, b8.out⟩
end Go.Proofs.YtoipagoeabkccaaDoor
