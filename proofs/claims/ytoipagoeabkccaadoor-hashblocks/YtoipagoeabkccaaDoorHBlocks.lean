/- HashBlocks of the laws on hashes, walked. -/
import Derived.Test.YtoipagoeabkccaaDoorHCopy
namespace Go.Proofs.YtoipagoeabkccaaDoor
open Go.RowKit
set_option linter.unusedVariables false
set_option maxRecDepth 20000

theorem hmac_long (key b : List UInt8) (h : 64 < key.length) : hmac key b = hmac (sha key) b := by
  unfold hmac
  rw [blockOf_long key h, blockOf_short (sha key) (by rw [sha_length]; omega)]
theorem hmac_fill (key b : List UInt8) (h : ¬ 64 < key.length) : hmac key b = hmac (fillB key) b := by
  unfold hmac
  rw [blockOf_short key h, blockOf_short (fillB key) (by rw [fillB_length key (by omega)]; omega)]
  have : fillB (fillB key) = fillB key := by
    have h1 : ∀ k : List UInt8, k.length = 64 → fillB k = k := fun k hk => by simp [fillB, hk]
    exact h1 _ (fillB_length key (by omega))
  rw [this]

theorem rng_row {w : World} {g : Nat} {xs : List Value} {t : TypeId} (h : w.heap[g]? = some (.cells xs.toArray t (0, 0))) : w.rangeAt g 0 xs := fun j v hj => by rw [Nat.zero_add, cell_of_row _ _ _ _ _ _ h, List.getElem?_toArray, hj]

/-- copy of at most 64 bytes onto 64 noughts; all other blocks stay -/
theorem copy_fill' {W : World} {g : Nat} {k : List UInt8} {a : Option Addr} {cap : Nat} (hk : k.length ≤ 64) (hB : Bytes W a k) (hcap : k.length ≤ cap) (hg : W.heap[g]? = some (.cells (cellsOf (List.replicate 64 0)).toArray 5 (0, 0))) :
    ∃ v W2, Hid ((Builtin.copy_ #[22, 22] 3 #[.slice (some ⟨g, 0, none⟩) 64 64, .slice a k.length cap]).run Tryd.prog W = .ok v W2) ∧ Hid (W2.heap[g]? = some (.cells (cellsOf (fillB k)).toArray 5 (0, 0))) ∧ Hid (∀ B w0, B ≤ g → Below B w0 W → Below B w0 W2 ∧ ∀ j, j ≠ g → W2.heap[j]? = W.heap[j]?) := by
  by_cases h0 : k.length = 0
  · have hr := run_copy_none (P := Tryd.prog) W 22 22 3 5 (some ⟨g, 0, none⟩) a 64 64 k.length cap Tryd.underlying22 size_byte (by rw [h0]; exact Nat.min_eq_left (by omega))
    refine ⟨_, _, hr, ?_, fun B w0 _ h => ⟨h, fun _ _ => rfl⟩⟩
    obtain rfl : k = [] := List.length_eq_zero_iff.1 h0
    exact hg
  · obtain ⟨b0, o0, ha0, _⟩ := hB 0 (by omega)
    obtain rfl : a = some ⟨b0, o0, none⟩ := ha0
    have hr := run_copy_row (P := Tryd.prog) W 22 22 3 5 g 0 64 64 ⟨b0, o0, none⟩ k.length cap _ 5 (cellsOf k) Tryd.underlying22 size_byte hg
      (by rw [cellsOf_length]; exact (Nat.min_eq_left hk).symm)
      (fun j v hj => by
        have hj' : j < k.length := by have := (List.getElem?_eq_some_iff.1 hj).1; simpa [cellsOf_length] using this
        obtain ⟨b', o', e', hcl⟩ := hB j hj'
        cases e'
        rw [cellsOf_get k j hj'] at hj
        rw [Addr.add_mid, hcl, ← hj])
      (by rw [cellsOf_length]; simp [cellsOf]; omega) (cellsOf_one k)
    refine ⟨_, _, hr, ?_, fun B w0 hB h => ⟨h.setRow hB _, fun j hj => setRow_other _ _ _ _ hj⟩⟩
    show (W.setRow _ _).heap[g]? = _
    rw [setRow_heap _ _ _ _ _ _ hg]
    have e : List.take 0 (cellsOf (List.replicate 64 0)).toArray.toList ++ (cellsOf k ++ List.drop (0 + (cellsOf k).length) (cellsOf (List.replicate 64 0)).toArray.toList) = cellsOf (fillB k) := by
      rw [cellsOf_length, Nat.zero_add, List.take_zero, List.nil_append, fillB, cellsOf_append]
      simp only [cellsOf, ← List.map_drop, List.drop_replicate]
    rw [List.append_assoc, e]

set_option maxHeartbeats 4000000 in
theorem hashBlocks_walk {w : World} (key : List UInt8) (a : Option Addr) (cap : Nat) (hk : BytesIn w a cap key) (b : List UInt8) (a' : Option Addr) (cap' : Nat) (hb : BytesIn w a' cap' b) (hK : KAt w) :
    Calls Tryd.prog 9 #[.slice a key.length cap, .slice a' b.length cap'] w fun e w' => e = .returned (.bool true) ∧ Below w.heap.size w w' := by
  obtain ⟨i0, hi, hz0, hz1, hz2⟩ := info_parts Tryd.info5
  obtain ⟨Z, hZ⟩ : ∃ Z, Z = bvs (List.replicate 32 0) := ⟨_, rfl⟩
  have zh := (zero_of_info zero_hash).1
  rw [← hZ] at zh
  have hz : Hid (HV Z (List.replicate 32 0)) := by
    show HV _ _
    rw [hZ]; exact hv_zero
  have zh := hid zh
  have HA := hid hk
  have HB := hid hb
  have HK := hid hK
  have la := hk.length
  have lb := hb.length
  have ca := hk.cap
  have cb := hb.cap
  obtain ⟨na, hna⟩ : ∃ na, na = key.length := ⟨_, rfl⟩
  obtain ⟨nb, hnb⟩ : ∃ nb, nb = b.length := ⟨_, rfl⟩
  rw [← hna] at la ca ⊢
  rw [← hnb] at lb cb ⊢
  have Hna := hid hna
  have Hnb := hid hnb
  clear hk hb hK hnb hna hZ
  have HTag : Hid (∀ W, Below w.heap.size w W → Calls Tryd.prog 22 #[.slice a na cap, .slice a' nb cap'] W (TagPost W (hmac key b))) := fun W hW =>
    tag_any key a na cap Hna.out (HA.out.bytes.below hW) (by have := Hna.out; omega) (by have := Hna.out; omega) b a' nb cap' Hnb.out (HB.out.bytes.below hW) (by have := Hnb.out; omega) (by have := Hnb.out; omega) (HK.out.below hW)
  have HLive : Hid (∀ W, Below w.heap.size w W → Calls Tryd.prog 19 #[] W fun e w' => e = .returned (.bool true) ∧ Below W.heap.size W w') := fun W hW => live_any (HK.out.below hW)
  go_enter Tryd.func9, Tryd.ntmps9
  go_wp2_with fail
  refine (HTag.out _ (Below.refl _ _)).mono ?_
  rintro _ w1 ⟨X, rfl, hX, hb1⟩
  obtain ⟨xs, rfl⟩ : ∃ xs : List Value, X = xs.toArray := ⟨X.toList, by simp⟩
  have HX := hid hX
  have b1 := hid hb1
  have hu := Tryd.underlying26
  have hinf : (Tryd.prog.info? 26).map (·.size) = some xs.length := hX.info
  clear hX hb1
  by_cases hlong : 64 < na
  · have d1 : (64 : Int) < (na : Int) := by omega
    go_wp2_with (with_reducible show Go.wpList _ _ _ _ _ _; first
      | refine wpList_alloc_row rfl 26 rfl Z zh.out ?_
      | (refine wpList_store_row rfl 26 _ _ rfl w1.heap.size xs.toArray rfl rfl 26 Z (heap_alloc_new w1 _) HX.out.info (hz.out.size.trans HX.out.size.symm) HX.out.one ?_; rw [World.setRow_alloc_new]))
    have b2 : Hid (Below w.heap.size w (w1.alloc (.cells xs.toArray 26))) := b1.out.alloc b1.out.size _
    refine (hsum_any key a na cap Hna.out (HA.out.bytes.below b2.out) (by have := Hna.out; omega) (by have := Hna.out; omega) (HK.out.below b2.out)).mono ?_
    rintro _ w2 ⟨S, rfl, hS, hb2⟩
    have b3 : Hid (Below w.heap.size w w2) := Below.on' b2.out hb2
    have x2 : Hid (w2.heap[w1.heap.size]? = some (.cells xs.toArray 26 (0, 0))) := (hb2.block _ (by simp)).trans (heap_alloc_new w1 _)
    clear hb2 b2
    go_wp2_with (with_reducible show Go.wpList _ _ _ _ _ _; first
      | refine wpList_alloc_row rfl 26 rfl Z zh.out ?_
      | (refine wpList_store_row rfl 26 _ _ rfl w2.heap.size S rfl rfl 26 Z (heap_alloc_new w2 _) hS.out.info (hz.out.size.trans hS.out.size.symm) hS.out.one ?_; rw [World.setRow_alloc_new]))
    obtain ⟨W, hW⟩ : ∃ W, W = w2.alloc (.cells S 26) := ⟨_, rfl⟩
    have b4 : Hid (Below w.heap.size w W) := by
      show Below _ _ _
      rw [hW]; exact b3.out.alloc b3.out.size _
    have x4 : Hid (W.heap[w1.heap.size]? = some (.cells xs.toArray 26 (0, 0))) := by
      show _ = _
      rw [hW]; exact (Below.heap_alloc _ _ _ (heap_lt x2.out)).trans x2.out
    have y4 : Hid (W.heap[w2.heap.size]? = some (.cells S 26 (0, 0))) := by
      show _ = _
      rw [hW]; exact heap_alloc_new w2 _
    have He : Hid (hmac key b = hmac (sha key) b) := hmac_long key b (by have := Hna.out; omega)
    rw [← hW]
    clear hW x2 b3 b1 HTag
    have s4 : Hid (W.rangeAt w1.heap.size 0 xs) := rng_row x4.out
    go_region_held3 (fun w9 => w9.rangeAt w1.heap.size 0 xs) (first | exact s4.out | exact s5.out | exact s6.out | exact s7.out)
      (first
        | (go_at_call 19; refine (HLive.out _ b4.out.drew).mono ?_; rintro _ w5 ⟨rfl, hb5⟩; have b5 : Hid (Below w.heap.size w w5) := Below.on' b4.out (undrew1 hb5); have x5 : Hid (w5.heap[w1.heap.size]? = some (.cells xs.toArray 26 (0, 0))) := (hb5.block _ (heap_lt x4.out)).trans x4.out; have y5 : Hid (w5.heap[w2.heap.size]? = some (.cells S 26 (0, 0))) := (hb5.block _ (heap_lt y4.out)).trans y4.out; have s5 := hid (rng_row x5.out); clear hb5)
        | (go_at_call 22; refine (tag_any (sha key) (some ⟨w2.heap.size, 0, none⟩) 32 32 (sha_length key).symm (hS.out.bytes y5.out) (by rw [sha_length]; omega) (by rw [sha_length]; omega) b a' nb cap' Hnb.out (HB.out.bytes.below b5.out) (by have := Hnb.out; omega) (by have := Hnb.out; omega) (HK.out.below b5.out)).mono ?_; rintro _ w6 ⟨Y, rfl, hY, hb6⟩; have HY := hid hY; have b6 : Hid (Below w.heap.size w w6) := Below.on' b5.out hb6; have s6 : Hid (w6.rangeAt w1.heap.size 0 xs) := rng_below s5.out hb6; clear hb6 hY)
        | (go_at_call 35; refine (same_any HX.out HY.out).mono ?_; rintro _ w7 ⟨rfl, hb7⟩; have b7 : Hid (Below w.heap.size w w7) := Below.on' b6.out hb7; have s7 : Hid (w7.rangeAt w1.heap.size 0 xs) := rng_below s6.out hb7; clear hb7))
    have hd : decide (hmac key b = hmac (sha key) b) = true := by rw [He.out]; simp
    go_wp2
    go_ret
    exact ⟨ret_bool (by first | rfl | simpa using hd), b7.out⟩
  · have d1 : ¬ (64 : Int) < (na : Int) := by omega
    go_wp2_with (with_reducible show Go.wpList _ _ _ _ _ _; first
      | refine wpList_alloc_row rfl 26 rfl Z zh.out ?_
      | (refine wpList_store_row rfl 26 _ _ rfl w1.heap.size xs.toArray rfl rfl 26 Z (heap_alloc_new w1 _) HX.out.info (hz.out.size.trans HX.out.size.symm) HX.out.one ?_; rw [World.setRow_alloc_new]))
    rw [run_make (P := Tryd.prog) _ 22 5 i0 (.int .u8 0) Tryd.underlying22 hi hz0 .i64 .i64 64 64 (by omega) (by omega) (by rw [hz2]; omega) (by omega)]
    simp only [Result.andThen]
    rw [Oper.upon_value, show (64 : Int).toNat = 64 from rfl, hz1, Nat.mul_one, made_row]
    obtain ⟨W1, hW1⟩ : ∃ W1, W1 = w1.alloc (.cells xs.toArray 26) := ⟨_, rfl⟩
    have b2 : Hid (Below w.heap.size w W1) := by
      show Below _ _ _
      rw [hW1]; exact b1.out.alloc b1.out.size _
    have x2 : Hid (W1.heap[w1.heap.size]? = some (.cells xs.toArray 26 (0, 0))) := by
      show _ = _
      rw [hW1]; exact heap_alloc_new w1 _
    rw [← hW1]
    clear hW1
    obtain ⟨W2, hW2⟩ : ∃ W2, W2 = W1.alloc (.cells (cellsOf (List.replicate 64 0)).toArray 5) := ⟨_, rfl⟩
    have g2 : W2.heap[W1.heap.size]? = some (.cells (cellsOf (List.replicate 64 0)).toArray 5 (0, 0)) := by rw [hW2]; exact heap_alloc_new W1 _
    have b3 : Below w.heap.size w W2 := by rw [hW2]; exact b2.out.alloc b2.out.size _
    have x3 : W2.heap[w1.heap.size]? = some (.cells xs.toArray 26 (0, 0)) := by rw [hW2]; exact (Below.heap_alloc _ _ _ (heap_lt x2.out)).trans x2.out
    obtain ⟨vc, W3, hrun, hrow, hbel⟩ := copy_fill' (by have := Hna.out; omega) (HA.out.bytes.below b3) HA.out.cap g2
    rw [← Hna.out] at hrun
    have b4 : Hid (Below w.heap.size w W3) := (hbel.out _ _ b2.out.size b3).1
    have x4 : Hid (W3.heap[w1.heap.size]? = some (.cells xs.toArray 26 (0, 0))) := ((hbel.out _ _ b2.out.size b3).2 _ (by have := heap_lt x2.out; omega)).trans x3
    rw [← hW2]
    obtain ⟨M, hM⟩ : ∃ M, M = W1.heap.size := ⟨_, rfl⟩
    rw [← hM] at hrun hrow ⊢
    have y4 : Hid (W3.heap[M]? = some (.cells (cellsOf (fillB key)).toArray 5 (0, 0))) := hrow
    have He : Hid (hmac key b = hmac (fillB key) b) := hmac_fill key b (by have := Hna.out; omega)
    have lf : (fillB key).length = 64 := fillB_length key (by have := Hna.out; omega)
    clear hM hW2 g2 b3 x3 hbel b2 x2 b1 HTag hrow hi hz0 hz1 hz2
    go_wp2_with fail
    rw [hrun.out]
    simp only [Result.andThen]
    rw [Oper.upon_value]
    clear hrun
    have s4 : Hid (W3.rangeAt w1.heap.size 0 xs) := rng_row x4.out
    go_wp2_with fail
    go_region_held3 (fun w9 => w9.rangeAt w1.heap.size 0 xs) (first | exact s4.out | exact s5.out | exact s6.out | exact s7.out)
      (first
        | (go_at_call 19; refine (HLive.out _ b4.out.drew).mono ?_; rintro _ w5 ⟨rfl, hb5⟩; have b5 : Hid (Below w.heap.size w w5) := Below.on' b4.out (undrew1 hb5); have x5 : Hid (w5.heap[w1.heap.size]? = some (.cells xs.toArray 26 (0, 0))) := (hb5.block _ (heap_lt x4.out)).trans x4.out; have y5 : Hid (w5.heap[M]? = some (.cells (cellsOf (fillB key)).toArray 5 (0, 0))) := (hb5.block _ (heap_lt y4.out)).trans y4.out; have s5 := hid (rng_row x5.out); clear hb5)
        | (go_at_call 22; refine (tag_any (fillB key) (some ⟨M, 0, none⟩) 64 64 lf.symm (row_bytes _ _ y5.out) (by omega) (by omega) b a' nb cap' Hnb.out (HB.out.bytes.below b5.out) (by have := Hnb.out; omega) (by have := Hnb.out; omega) (HK.out.below b5.out)).mono ?_; rintro _ w6 ⟨Y, rfl, hY, hb6⟩; have HY := hid hY; have b6 : Hid (Below w.heap.size w w6) := Below.on' b5.out hb6; have s6 : Hid (w6.rangeAt w1.heap.size 0 xs) := rng_below s5.out hb6; clear hb6 hY)
        | (go_at_call 35; refine (same_any HX.out HY.out).mono ?_; rintro _ w7 ⟨rfl, hb7⟩; have b7 : Hid (Below w.heap.size w w7) := Below.on' b6.out hb7; have s7 : Hid (w7.rangeAt w1.heap.size 0 xs) := rng_below s6.out hb7; clear hb7))
    have hd : decide (hmac key b = hmac (fillB key) b) = true := by rw [He.out]; simp
    go_wp2
    go_ret
    exact ⟨ret_bool (by first | rfl | simpa using hd), b7.out⟩
end Go.Proofs.YtoipagoeabkccaaDoor
