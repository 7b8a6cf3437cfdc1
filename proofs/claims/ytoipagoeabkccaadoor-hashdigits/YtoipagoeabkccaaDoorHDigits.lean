/- HashDigits of the laws on hashes, walked. -/
import Derived.Test.YtoipagoeabkccaaDoorHRefHex
namespace Go.Proofs.YtoipagoeabkccaaDoor
open Go.RowKit
set_option linter.unusedVariables false
set_option maxRecDepth 20000

theorem hexOf_at (h : List UInt8) (i : Nat) (hi : i < h.length) : (hexOf h).getD (2 * i) 0 = dig (h[i].toNat / 16) ∧ (hexOf h).getD (2 * i + 1) 0 = dig (h[i].toNat % 16) := by
  induction h generalizing i with
  | nil => simp at hi
  | cons b h ih =>
    have e : hexOf (b :: h) = dig (b.toNat / 16) :: dig (b.toNat % 16) :: hexOf h := rfl
    cases i with
    | zero => rw [e]; exact ⟨rfl, rfl⟩
    | succ i =>
      have := ih i (by simpa using hi)
      rw [e, show 2 * (i + 1) = 2 * i + 1 + 1 by omega]
      exact this
theorem undig_dig' (x : Nat) (hx : x < 16) : undig (dig x) = (x : Int) := undig_dig ⟨x, hx⟩
theorem un_hex_ok (h : List UInt8) (hl : h.length = 32) : unOk (hexOf h) := by
  refine ⟨by rw [hexOf_length, hl], fun i hi => ?_⟩
  have h1 := hexOf_at h (i / 2) (by omega)
  have b256 := (h[i / 2]'(by omega)).toNat_lt
  by_cases he : i % 2 = 0
  · rw [show i = 2 * (i / 2) by omega, h1.1, undig_dig' _ (by omega)]; omega
  · rw [show i = 2 * (i / 2) + 1 by omega, h1.2, undig_dig' _ (by omega)]; omega
theorem un_hex (h : List UInt8) (hl : h.length = 32) : unAt (hexOf h) 32 = h := by
  apply List.ext_getElem
  · rw [unAt_length, hl]
  · intro i h1 h2
    have hi : i < 32 := by omega
    have h3 := hexOf_at h i h2
    have b256 := (h[i]).toNat_lt
    simp only [unAt, List.getElem_map, List.getElem_range, if_pos hi, dv]
    rw [h3.1, h3.2, undig_dig' _ (by omega), undig_dig' _ (by omega)]
    apply UInt8.toNat_inj.1
    rw [UInt8.toNat_ofNat']
    simp only [Int.toNat_natCast]
    omega
theorem rng_row {w : World} {g : Nat} {xs : List Value} {t : TypeId} (h : w.heap[g]? = some (.cells xs.toArray t (0, 0))) : w.rangeAt g 0 xs := fun j v hj => by rw [Nat.zero_add, cell_of_row _ _ _ _ _ _ h, List.getElem?_toArray, hj]
theorem hf_live : ∀ (args : Array Value) (w : World), (callFunc 19 args).run Tryd.prog w = .ok (.enter 19 args) w := fun args w => by simp [go_sem]
theorem hf_hex : ∀ (args : Array Value) (w : World), (callFunc 33 args).run Tryd.prog w = .ok (.enter 33 args) w := fun args w => by simp [go_sem]
theorem hf_rhex : ∀ (args : Array Value) (w : World), (callFunc 34 args).run Tryd.prog w = .ok (.enter 34 args) w := fun args w => by simp [go_sem]
theorem hf_same : ∀ (args : Array Value) (w : World), (callFunc 35 args).run Tryd.prog w = .ok (.enter 35 args) w := fun args w => by simp [go_sem]
/-- five rows -/
def Five (g0 g1 g2 g3 : Nat) (hs gs xs ys bs : List Value) (w9 : World) : Prop := w9.rangeAt g0 0 hs ∧ w9.rangeAt (g0 + 1) 0 gs ∧ w9.rangeAt g1 0 xs ∧ w9.rangeAt g2 0 ys ∧ w9.rangeAt g3 0 bs
theorem Five.below {g0 g1 g2 g3 : Nat} {hs gs xs ys bs : List Value} {w w' : World} (h : Five g0 g1 g2 g3 hs gs xs ys bs w) (hb : Below w.heap.size w w') : Five g0 g1 g2 g3 hs gs xs ys bs w' :=
  ⟨rng_below h.1 hb, rng_below h.2.1 hb, rng_below h.2.2.1 hb, rng_below h.2.2.2.1 hb, rng_below h.2.2.2.2 hb⟩

set_option maxHeartbeats 2000000 in
theorem hashDigits_walk {w : World} {H : Array Value} {h : List UInt8} (hH : HV H h) {G : Array Value} {g : List UInt8} (hG : HV G g) (s : ByteArray) (hs : s.size ≤ 140737488351232) (hK : KAt w) :
    Calls Tryd.prog 6 #[.agg H, .agg G, .string s] w fun e w' => e = .returned (.bool true) ∧ Below w.heap.size w w' := by
  obtain ⟨Z, hZ⟩ : ∃ Z, Z = bvs (List.replicate 32 0) := ⟨_, rfl⟩
  have zh := (zero_of_info zero_hash).1
  rw [← hZ] at zh
  have hz : Hid (HV Z (List.replicate 32 0)) := by
    show HV _ _
    rw [hZ]; exact hv_zero
  have zh := hid zh
  obtain ⟨hl, rfl⟩ : ∃ xs : List Value, H = xs.toArray := ⟨H.toList, by simp⟩
  obtain ⟨gl, rfl⟩ : ∃ xs : List Value, G = xs.toArray := ⟨G.toList, by simp⟩
  have HH := hid hH
  have HG := hid hG
  have HK := hid hK
  have lh := hid hH.len
  have HLive : Hid (∀ W, Below w.heap.size w W → Calls Tryd.prog 19 #[] W fun e w' => e = .returned (.bool true) ∧ Below W.heap.size W w') := fun W hW => live_any (HK.out.below hW)
  have x0 := hid (heap_alloc2_old w (.cells hl.toArray 26) (.cells gl.toArray 26))
  have y0 := hid (heap_alloc2_new w (.cells hl.toArray 26) (.cells gl.toArray 26))
  have b0 : Hid (Below w.heap.size w ((w.alloc (.cells hl.toArray 26)).alloc (.cells gl.toArray 26))) := ((Below.refl _ w).alloc (Nat.le_refl _) _).alloc (by simp) _
  have hu := Tryd.underlying26
  have ihl : (Tryd.prog.info? 26).map (·.size) = some hl.length := hH.info
  have igl : (Tryd.prog.info? 26).map (·.size) = some gl.length := hG.info
  clear hZ hK hH hG
  go_enter Tryd.func6, Tryd.ntmps6
  go_wp2_with fail
  refine (unhex_any s (by omega)).mono ?_
  rintro _ w1 ⟨X, l1, e1, rfl, hX, hres1, hb1⟩
  obtain ⟨xs, rfl⟩ : ∃ xs : List Value, X = xs.toArray := ⟨X.toList, by simp⟩
  have HX := hid hX
  have Hr1 := hid hres1
  have b1 : Hid (Below w.heap.size w w1) := Below.on' b0.out hb1
  have x1 : Hid (w1.heap[w.heap.size]? = some (.cells hl.toArray 26 (0, 0))) := (hb1.block _ (heap_lt x0.out)).trans x0.out
  have y1 : Hid (w1.heap[w.heap.size + 1]? = some (.cells gl.toArray 26 (0, 0))) := (hb1.block _ (heap_lt y0.out)).trans y0.out
  have ixs : (Tryd.prog.info? 26).map (·.size) = some xs.length := hX.info
  clear hX hres1 hb1 b0 x0 y0
  obtain ⟨W1, hW1⟩ : ∃ W1, W1 = w1.alloc (.cells xs.toArray 26) := ⟨_, rfl⟩
  have HW1 := hid hW1
  have b1a : Hid (Below w.heap.size w W1) := by show Below _ _ _; rw [hW1]; exact b1.out.alloc b1.out.size _
  have x1a : Hid (W1.heap[w.heap.size]? = some (.cells hl.toArray 26 (0, 0))) := by show _ = _; rw [hW1]; exact (Below.heap_alloc _ _ _ (heap_lt x1.out)).trans x1.out
  have y1a : Hid (W1.heap[w.heap.size + 1]? = some (.cells gl.toArray 26 (0, 0))) := by show _ = _; rw [hW1]; exact (Below.heap_alloc _ _ _ (heap_lt y1.out)).trans y1.out
  have z1a : Hid (W1.heap[w1.heap.size]? = some (.cells xs.toArray 26 (0, 0))) := by show _ = _; rw [hW1]; exact heap_alloc_new w1 _
  clear hW1 x1 y1 b1
  go_wp2_with (with_reducible show Go.wpList _ _ _ _ _ _; first
    | refine wpList_alloc_row rfl 26 rfl Z zh.out ?_
    | (refine wpList_store_row rfl 26 _ _ rfl w1.heap.size xs.toArray rfl rfl 26 Z (heap_alloc_new w1 _) HX.out.info (hz.out.size.trans HX.out.size.symm) HX.out.one ?_; rw [World.setRow_alloc_new, ← HW1.out]))
  refine (refUnhex_any s (by omega)).mono ?_
  rintro _ w2 ⟨Y, l2, e2, rfl, hY, hres2, hb2⟩
  have hee : e1 = e2 ∧ l1 = l2 := by
    rcases Hr1.out with ⟨u1, u2, u3⟩ | ⟨u1, u2, u3⟩ <;> rcases hres2 with ⟨v1, v2, v3⟩ | ⟨v1, v2, v3⟩
    · exact ⟨u2.trans v2.symm, u3.trans v3.symm⟩
    · exact absurd u1 v1
    · exact absurd v1 u1
    · exact ⟨u2.trans v2.symm, u3.trans v3.symm⟩
  obtain ⟨rfl, rfl⟩ := hee
  obtain ⟨ys, rfl⟩ : ∃ xs : List Value, Y = xs.toArray := ⟨Y.toList, by simp⟩
  have HY := hid hY
  have b2 : Hid (Below w.heap.size w w2) := Below.on' b1a.out hb2
  have x2 : Hid (w2.heap[w.heap.size]? = some (.cells hl.toArray 26 (0, 0))) := (hb2.block _ (heap_lt x1a.out)).trans x1a.out
  have y2 : Hid (w2.heap[w.heap.size + 1]? = some (.cells gl.toArray 26 (0, 0))) := (hb2.block _ (heap_lt y1a.out)).trans y1a.out
  have z2 : Hid (w2.heap[w1.heap.size]? = some (.cells xs.toArray 26 (0, 0))) := (hb2.block _ (heap_lt z1a.out)).trans z1a.out
  have iys : (Tryd.prog.info? 26).map (·.size) = some ys.length := hY.info
  clear hY hres2 hb2 b1a x1a y1a z1a Hr1 HW1
  obtain ⟨W2, hW2⟩ : ∃ W2, W2 = w2.alloc (.cells ys.toArray 26) := ⟨_, rfl⟩
  have HW2 := hid hW2
  have b2a : Hid (Below w.heap.size w W2) := by show Below _ _ _; rw [hW2]; exact b2.out.alloc b2.out.size _
  have x2a : Hid (W2.heap[w.heap.size]? = some (.cells hl.toArray 26 (0, 0))) := by show _ = _; rw [hW2]; exact (Below.heap_alloc _ _ _ (heap_lt x2.out)).trans x2.out
  have y2a : Hid (W2.heap[w.heap.size + 1]? = some (.cells gl.toArray 26 (0, 0))) := by show _ = _; rw [hW2]; exact (Below.heap_alloc _ _ _ (heap_lt y2.out)).trans y2.out
  have z2a : Hid (W2.heap[w1.heap.size]? = some (.cells xs.toArray 26 (0, 0))) := by show _ = _; rw [hW2]; exact (Below.heap_alloc _ _ _ (heap_lt z2.out)).trans z2.out
  have t2a : Hid (W2.heap[w2.heap.size]? = some (.cells ys.toArray 26 (0, 0))) := by show _ = _; rw [hW2]; exact heap_alloc_new w2 _
  clear hW2 x2 y2 z2 b2
  go_wp2_with (with_reducible show Go.wpList _ _ _ _ _ _; first
    | refine wpList_alloc_row rfl 26 rfl Z zh.out ?_
    | (refine wpList_store_row rfl 26 _ _ rfl w2.heap.size ys.toArray rfl rfl 26 Z (heap_alloc_new w2 _) HY.out.info (hz.out.size.trans HY.out.size.symm) HY.out.one ?_; rw [World.setRow_alloc_new, ← HW2.out])
    | refine wpList_load_row rfl 26 _ rfl w.heap.size rfl _ _ _ _ x2a.out Tryd.underlying26 rfl HH.out.info ?_)
  refine (hex_any HH.out).mono ?_
  rintro _ w3 ⟨rfl, hb3⟩
  have b3 : Hid (Below w.heap.size w w3) := Below.on' b2a.out hb3
  have x3 : Hid (w3.heap[w.heap.size]? = some (.cells hl.toArray 26 (0, 0))) := (hb3.block _ (heap_lt x2a.out)).trans x2a.out
  have y3 : Hid (w3.heap[w.heap.size + 1]? = some (.cells gl.toArray 26 (0, 0))) := (hb3.block _ (heap_lt y2a.out)).trans y2a.out
  have z3 : Hid (w3.heap[w1.heap.size]? = some (.cells xs.toArray 26 (0, 0))) := (hb3.block _ (heap_lt z2a.out)).trans z2a.out
  have t3 : Hid (w3.heap[w2.heap.size]? = some (.cells ys.toArray 26 (0, 0))) := (hb3.block _ (heap_lt t2a.out)).trans t2a.out
  clear hb3 b2a x2a y2a z2a t2a HW2
  obtain ⟨hx, hhx⟩ : ∃ hx : ByteArray, hx = ⟨(hexOf h).toArray⟩ := ⟨_, rfl⟩
  have Hhx := hid hhx
  rw [← hhx]
  have UB : Hid (∀ W, Calls Tryd.prog 31 #[.string hx] W fun e w' => ∃ B, e = .returned (.tuple #[.agg B, .int .i64 0]) ∧ HV B h ∧ Below W.heap.size W w') := fun W => by
    have hsz : hx.size ≤ 140737488355328 := by
      rw [hhx]; show (hexOf h).toArray.size ≤ _; rw [List.size_toArray, hexOf_length, lh.out]; omega
    refine (unhex_any hx hsz).mono fun e w' hh => ?_
    obtain ⟨B, lB, eB, rfl, hB, hr, hb⟩ := hh
    have e0 : hx.data.toList = hexOf h := by rw [hhx]
    rw [e0] at hr
    rcases hr with ⟨_, rfl, rfl⟩ | ⟨hn, _, _⟩
    · exact ⟨B, rfl, by rw [un_hex h lh.out] at hB; exact hB, hb⟩
    · exact absurd (un_hex_ok h lh.out) hn
  clear hhx
  go_wp2_with fail
  refine (UB.out _).mono ?_
  rintro _ w4 ⟨B, rfl, hB, hb4⟩
  obtain ⟨bs, rfl⟩ : ∃ xs : List Value, B = xs.toArray := ⟨B.toList, by simp⟩
  have HBk := hid hB
  have b4 : Hid (Below w.heap.size w w4) := Below.on' b3.out hb4
  have x4 : Hid (w4.heap[w.heap.size]? = some (.cells hl.toArray 26 (0, 0))) := (hb4.block _ (heap_lt x3.out)).trans x3.out
  have y4 : Hid (w4.heap[w.heap.size + 1]? = some (.cells gl.toArray 26 (0, 0))) := (hb4.block _ (heap_lt y3.out)).trans y3.out
  have z4 : Hid (w4.heap[w1.heap.size]? = some (.cells xs.toArray 26 (0, 0))) := (hb4.block _ (heap_lt z3.out)).trans z3.out
  have t4 : Hid (w4.heap[w2.heap.size]? = some (.cells ys.toArray 26 (0, 0))) := (hb4.block _ (heap_lt t3.out)).trans t3.out
  have ibs : (Tryd.prog.info? 26).map (·.size) = some bs.length := hB.info
  clear hB hb4 b3 x3 y3 z3 t3 UB
  obtain ⟨W4, hW4⟩ : ∃ W4, W4 = w4.alloc (.cells bs.toArray 26) := ⟨_, rfl⟩
  have HW4 := hid hW4
  have b5 : Hid (Below w.heap.size w W4) := by show Below _ _ _; rw [hW4]; exact b4.out.alloc b4.out.size _
  have s5 : Hid (Five w.heap.size w1.heap.size w2.heap.size w4.heap.size hl gl xs ys bs W4) := by
    show Five _ _ _ _ _ _ _ _ _ _
    rw [hW4]
    exact ⟨rng_row ((Below.heap_alloc _ _ _ (heap_lt x4.out)).trans x4.out), rng_row ((Below.heap_alloc _ _ _ (heap_lt y4.out)).trans y4.out), rng_row ((Below.heap_alloc _ _ _ (heap_lt z4.out)).trans z4.out), rng_row ((Below.heap_alloc _ _ _ (heap_lt t4.out)).trans t4.out), rng_row (heap_alloc_new w4 _)⟩
  clear hW4 x4 y4 z4 t4 b4
  go_wp2_with (with_reducible show Go.wpList _ _ _ _ _ _; first
    | refine wpList_alloc_row rfl 26 rfl Z zh.out ?_
    | (refine wpList_store_row rfl 26 _ _ rfl w4.heap.size bs.toArray rfl rfl 26 Z (heap_alloc_new w4 _) HBk.out.info (hz.out.size.trans HBk.out.size.symm) HBk.out.one ?_; rw [World.setRow_alloc_new, ← HW4.out]))
  have q1 := hash_same HX.out HY.out
  have q2 := hash_same HBk.out HH.out
  have q3 := hash_eq HH.out HG.out
  have q4 : (h == g) = decide (h = g) := by by_cases hh : h = g <;> simp [hh]
  rw [q4] at q3
  clear HW4 zh hz HX HY q4
  generalize w1.heap.size = n1 at *
  generalize w2.heap.size = n2 at *
  generalize w4.heap.size = n4 at *
  have s5d : Five w.heap.size n1 n2 n4 hl gl xs ys bs W4.drew := s5.out.below ((Below.refl _ _).drew)
  refine wp_region_held (S := fun w9 => Five w.heap.size n1 n2 n4 hl gl xs ys bs w9) (by kernel_rfl) ?_
  refine wpAnyH_all (rs := [0]) (by kernel_rfl) (by simp) fun i hmem => ?_
  obtain rfl : i = 0 := by simpa using hmem
  refine wpOp_step rfl fun K' hK' => ?_
  rw [if_pos (by rfl)]
  refine wp_calls0 19 hf_live _ rfl ?_
  refine (HLive.out _ b5.out.drew).mono ?_
  rintro _ w6 ⟨rfl, hb6⟩
  have b6 : Below w.heap.size w w6 := Below.on' b5.out (undrew1 hb6)
  have s6 := s5.out.below (undrew1 hb6)
  refine ⟨_, rfl, hK' _ _ ⟨s6, ?_⟩⟩
  clear hK' K' hmem
  show wpAnyH _ _ _ _ _ _ _ (Act.put _ (some 29) _) _
  simp only [Act.put, List.setIfInBounds_toArray, List.set_cons_zero, List.set_cons_succ]
  refine wpAnyH_take (i := 1) (v := .bool true) rfl (by kernel_rfl) (by kernel_rfl) (by kernel_rfl) (fun _ _ _ h => h) (Or.inl ⟨by rfl, fun w9 h9 => by go_simp⟩) s6 ?_
  show wpAnyH _ _ _ _ _ _ _ (Act.put _ (some 30) _) _
  simp only [Act.put, List.setIfInBounds_toArray, List.set_cons_zero, List.set_cons_succ]
  refine wpAnyH_take (i := 2) (v := .agg xs.toArray) rfl (by kernel_rfl) (by kernel_rfl) (by kernel_rfl) (fun _ _ _ h => h) (yieldsIf_load_mid (by rfl) _ _ rfl _ _ rfl xs _ (fun _ h => h.2.2.1) hu rfl ixs) s6 ?_
  show wpAnyH _ _ _ _ _ _ _ (Act.put _ (some 31) _) _
  simp only [Act.put, List.setIfInBounds_toArray, List.set_cons_zero, List.set_cons_succ]
  refine wpAnyH_take (i := 3) (v := .agg ys.toArray) rfl (by kernel_rfl) (by kernel_rfl) (by kernel_rfl) (fun _ _ _ h => h) (yieldsIf_load_mid (by rfl) _ _ rfl _ _ rfl ys _ (fun _ h => h.2.2.2.1) hu rfl iys) s6 ?_
  show wpAnyH _ _ _ _ _ _ _ (Act.put _ (some 32) _) _
  simp only [Act.put, List.setIfInBounds_toArray, List.set_cons_zero, List.set_cons_succ]
  refine wpAnyH_take (i := 4) (v := .bool true) rfl (by kernel_rfl) (by kernel_rfl) (by kernel_rfl) (fun _ _ _ h => h) (Or.inl ⟨by rfl, fun w9 h9 => by go_simp⟩) s6 ?_
  show wpAnyH _ _ _ _ _ _ _ (Act.put _ (some 33) _) _
  simp only [Act.put, List.setIfInBounds_toArray, List.set_cons_zero, List.set_cons_succ]
  refine wpAnyH_take (i := 5) (v := .bool true) rfl (by kernel_rfl) (by kernel_rfl) (by kernel_rfl) (fun _ _ _ h => h) (Or.inl ⟨by rfl, fun w9 h9 => by go_simp⟩) s6 ?_
  show wpAnyH _ _ _ _ _ _ _ (Act.put _ (some 34) _) _
  simp only [Act.put, List.setIfInBounds_toArray, List.set_cons_zero, List.set_cons_succ]
  refine wpAnyH_take (i := 6) (v := .bool true) rfl (by kernel_rfl) (by kernel_rfl) (by kernel_rfl) (fun _ _ _ h => h) (Or.inl ⟨by rfl, fun w9 h9 => by go_simp⟩) s6 ?_
  show wpAnyH _ _ _ _ _ _ _ (Act.put _ (some 35) _) _
  simp only [Act.put, List.setIfInBounds_toArray, List.set_cons_zero, List.set_cons_succ]
  refine wpAnyH_take (i := 7) (v := .int .i64 e1) rfl (by kernel_rfl) (by kernel_rfl) (by kernel_rfl) (fun _ _ _ h => h) (Or.inl ⟨by rfl, fun w9 h9 => by go_simp⟩) s6 ?_
  show wpAnyH _ _ _ _ _ _ _ (Act.put _ (some 36) _) _
  simp only [Act.put, List.setIfInBounds_toArray, List.set_cons_zero, List.set_cons_succ]
  refine wpAnyH_take (i := 8) (v := .int .i64 e1) rfl (by kernel_rfl) (by kernel_rfl) (by kernel_rfl) (fun _ _ _ h => h) (Or.inl ⟨by rfl, fun w9 h9 => by go_simp⟩) s6 ?_
  show wpAnyH _ _ _ _ _ _ _ (Act.put _ (some 37) _) _
  simp only [Act.put, List.setIfInBounds_toArray, List.set_cons_zero, List.set_cons_succ]
  refine wpAnyH_take (i := 9) (v := .bool true) rfl (by kernel_rfl) (by kernel_rfl) (by kernel_rfl) (fun _ _ _ h => h) (Or.inl ⟨by rfl, fun w9 h9 => by go_simp⟩) s6 ?_
  show wpAnyH _ _ _ _ _ _ _ (Act.put _ (some 38) _) _
  simp only [Act.put, List.setIfInBounds_toArray, List.set_cons_zero, List.set_cons_succ]
  refine wpAnyH_take (i := 10) (v := .bool true) rfl (by kernel_rfl) (by kernel_rfl) (by kernel_rfl) (fun _ _ _ h => h) (Or.inl ⟨by rfl, fun w9 h9 => by go_simp⟩) s6 ?_
  show wpAnyH _ _ _ _ _ _ _ (Act.put _ (some 39) _) _
  simp only [Act.put, List.setIfInBounds_toArray, List.set_cons_zero, List.set_cons_succ]
  refine wpAnyH_take (i := 11) (v := .bool true) rfl (by kernel_rfl) (by kernel_rfl) (by kernel_rfl) (fun _ _ _ h => h) (Or.inl ⟨by rfl, fun w9 h9 => by go_simp⟩) s6 ?_
  show wpAnyH _ _ _ _ _ _ _ (Act.put _ (some 40) _) _
  simp only [Act.put, List.setIfInBounds_toArray, List.set_cons_zero, List.set_cons_succ]
  refine wpAnyH_take (i := 12) (v := .int .i64 0) rfl (by kernel_rfl) (by kernel_rfl) (by kernel_rfl) (fun _ _ _ h => h) (Or.inl ⟨by rfl, fun w9 h9 => by go_simp⟩) s6 ?_
  show wpAnyH _ _ _ _ _ _ _ (Act.put _ (some 41) _) _
  simp only [Act.put, List.setIfInBounds_toArray, List.set_cons_zero, List.set_cons_succ]
  refine wpAnyH_take (i := 13) (v := .bool true) rfl (by kernel_rfl) (by kernel_rfl) (by kernel_rfl) (fun _ _ _ h => h) (Or.inl ⟨by rfl, fun w9 h9 => by go_simp⟩) s6 ?_
  show wpAnyH _ _ _ _ _ _ _ (Act.put _ (some 42) _) _
  simp only [Act.put, List.setIfInBounds_toArray, List.set_cons_zero, List.set_cons_succ]
  refine wpAnyH_take (i := 14) (v := .bool true) rfl (by kernel_rfl) (by kernel_rfl) (by kernel_rfl) (fun _ _ _ h => h) (Or.inl ⟨by rfl, fun w9 h9 => by go_simp⟩) s6 ?_
  show wpAnyH _ _ _ _ _ _ _ (Act.put _ (some 43) _) _
  simp only [Act.put, List.setIfInBounds_toArray, List.set_cons_zero, List.set_cons_succ]
  refine wpAnyH_take (i := 15) (v := .bool true) rfl (by kernel_rfl) (by kernel_rfl) (by kernel_rfl) (fun _ _ _ h => h) (Or.inl ⟨by rfl, fun w9 h9 => by go_simp⟩) s6 ?_
  show wpAnyH _ _ _ _ _ _ _ (Act.put _ (some 44) _) _
  simp only [Act.put, List.setIfInBounds_toArray, List.set_cons_zero, List.set_cons_succ]
  refine wpAnyH_take (i := 16) (v := .agg bs.toArray) rfl (by kernel_rfl) (by kernel_rfl) (by kernel_rfl) (fun _ _ _ h => h) (yieldsIf_load_mid (by rfl) _ _ rfl _ _ rfl bs _ (fun _ h => h.2.2.2.2) hu rfl ibs) s6 ?_
  show wpAnyH _ _ _ _ _ _ _ (Act.put _ (some 45) _) _
  simp only [Act.put, List.setIfInBounds_toArray, List.set_cons_zero, List.set_cons_succ]
  refine wpAnyH_take (i := 17) (v := .agg hl.toArray) rfl (by kernel_rfl) (by kernel_rfl) (by kernel_rfl) (fun _ _ _ h => h) (yieldsIf_load_mid (by rfl) _ _ rfl _ _ rfl hl _ (fun _ h => h.1) hu rfl ihl) s6 ?_
  show wpAnyH _ _ _ _ _ _ _ (Act.put _ (some 46) _) _
  simp only [Act.put, List.setIfInBounds_toArray, List.set_cons_zero, List.set_cons_succ]
  refine wpAnyH_take (i := 18) (v := .bool true) rfl (by kernel_rfl) (by kernel_rfl) (by kernel_rfl) (fun _ _ _ h => h) (Or.inl ⟨by rfl, fun w9 h9 => by go_simp⟩) s6 ?_
  show wpAnyH _ _ _ _ _ _ _ (Act.put _ (some 47) _) _
  simp only [Act.put, List.setIfInBounds_toArray, List.set_cons_zero, List.set_cons_succ]
  refine wpAnyH_take (i := 19) (v := .bool true) rfl (by kernel_rfl) (by kernel_rfl) (by kernel_rfl) (fun _ _ _ h => h) (Or.inl ⟨by rfl, fun w9 h9 => by go_simp⟩) s6 ?_
  show wpAnyH _ _ _ _ _ _ _ (Act.put _ (some 48) _) _
  simp only [Act.put, List.setIfInBounds_toArray, List.set_cons_zero, List.set_cons_succ]
  refine wpAnyH_take (i := 20) (v := .bool true) rfl (by kernel_rfl) (by kernel_rfl) (by kernel_rfl) (fun _ _ _ h => h) (Or.inl ⟨by rfl, fun w9 h9 => by go_simp⟩) s6 ?_
  show wpAnyH _ _ _ _ _ _ _ (Act.put _ (some 49) _) _
  simp only [Act.put, List.setIfInBounds_toArray, List.set_cons_zero, List.set_cons_succ]
  refine wpAnyH_take (i := 21) (v := .agg hl.toArray) rfl (by kernel_rfl) (by kernel_rfl) (by kernel_rfl) (fun _ _ _ h => h) (yieldsIf_load_mid (by rfl) _ _ rfl _ _ rfl hl _ (fun _ h => h.1) hu rfl ihl) s6 ?_
  show wpAnyH _ _ _ _ _ _ _ (Act.put _ (some 50) _) _
  simp only [Act.put, List.setIfInBounds_toArray, List.set_cons_zero, List.set_cons_succ]
  refine wpAnyH_take (i := 23) (v := .agg hl.toArray) rfl (by kernel_rfl) (by kernel_rfl) (by kernel_rfl) (fun _ _ _ h => h) (yieldsIf_load_mid (by rfl) _ _ rfl _ _ rfl hl _ (fun _ h => h.1) hu rfl ihl) s6 ?_
  show wpAnyH _ _ _ _ _ _ _ (Act.put _ (some 52) _) _
  simp only [Act.put, List.setIfInBounds_toArray, List.set_cons_zero, List.set_cons_succ]
  refine wpAnyH_all (rs := [22]) (by kernel_rfl) (by simp) fun i hmem => ?_
  obtain rfl : i = 22 := by simpa using hmem
  refine wpOp_step rfl fun K' hK' => ?_
  rw [if_pos (by rfl)]
  refine wp_calls1 33 hf_hex _ _ rfl (.agg hl.toArray) rfl ?_
  refine (hex_any HH.out).mono ?_
  rintro _ w7 ⟨rfl, hb7⟩
  have b7 : Below w.heap.size w w7 := Below.on' b6 hb7
  have s7 := s6.below hb7
  refine ⟨_, rfl, hK' _ _ ⟨s7, ?_⟩⟩
  clear hK' K' hmem
  show wpAnyH _ _ _ _ _ _ _ (Act.put _ (some 51) _) _
  simp only [Act.put, List.setIfInBounds_toArray, List.set_cons_zero, List.set_cons_succ]
  refine wpAnyH_all (rs := [24]) (by kernel_rfl) (by simp) fun i hmem => ?_
  obtain rfl : i = 24 := by simpa using hmem
  refine wpOp_step rfl fun K' hK' => ?_
  rw [if_pos (by rfl)]
  refine wp_calls1 34 hf_rhex _ _ rfl (.agg hl.toArray) rfl ?_
  refine (refHex_any HH.out).mono ?_
  rintro _ w8 ⟨rfl, hb8⟩
  have b8 : Below w.heap.size w w8 := Below.on' b7 hb8
  have s8 := s7.below hb8
  refine ⟨_, rfl, hK' _ _ ⟨s8, ?_⟩⟩
  clear hK' K' hmem
  show wpAnyH _ _ _ _ _ _ _ (Act.put _ (some 53) _) _
  simp only [Act.put, List.setIfInBounds_toArray, List.set_cons_zero, List.set_cons_succ]
  refine wpAnyH_take (i := 25) (v := .bool true) rfl (by kernel_rfl) (by kernel_rfl) (by kernel_rfl) (fun _ _ _ h => h) (Or.inl ⟨by rfl, fun w9 h9 => by go_simp⟩) s8 ?_
  show wpAnyH _ _ _ _ _ _ _ (Act.put _ (some 54) _) _
  simp only [Act.put, List.setIfInBounds_toArray, List.set_cons_zero, List.set_cons_succ]
  refine wpAnyH_take (i := 26) (v := .bool true) rfl (by kernel_rfl) (by kernel_rfl) (by kernel_rfl) (fun _ _ _ h => h) (Or.inl ⟨by rfl, fun w9 h9 => by go_simp⟩) s8 ?_
  show wpAnyH _ _ _ _ _ _ _ (Act.put _ (some 55) _) _
  simp only [Act.put, List.setIfInBounds_toArray, List.set_cons_zero, List.set_cons_succ]
  refine wpAnyH_take (i := 27) (v := .bool true) rfl (by kernel_rfl) (by kernel_rfl) (by kernel_rfl) (fun _ _ _ h => h) (Or.inl ⟨by rfl, fun w9 h9 => by go_simp⟩) s8 ?_
  show wpAnyH _ _ _ _ _ _ _ (Act.put _ (some 56) _) _
  simp only [Act.put, List.setIfInBounds_toArray, List.set_cons_zero, List.set_cons_succ]
  refine wpAnyH_take (i := 28) (v := .agg hl.toArray) rfl (by kernel_rfl) (by kernel_rfl) (by kernel_rfl) (fun _ _ _ h => h) (yieldsIf_load_mid (by rfl) _ _ rfl _ _ rfl hl _ (fun _ h => h.1) hu rfl ihl) s8 ?_
  show wpAnyH _ _ _ _ _ _ _ (Act.put _ (some 57) _) _
  simp only [Act.put, List.setIfInBounds_toArray, List.set_cons_zero, List.set_cons_succ]
  refine wpAnyH_take (i := 29) (v := .agg gl.toArray) rfl (by kernel_rfl) (by kernel_rfl) (by kernel_rfl) (fun _ _ _ h => h) (yieldsIf_load_mid (by rfl) _ _ rfl _ _ rfl gl _ (fun _ h => h.2.1) hu rfl igl) s8 ?_
  show wpAnyH _ _ _ _ _ _ _ (Act.put _ (some 58) _) _
  simp only [Act.put, List.setIfInBounds_toArray, List.set_cons_zero, List.set_cons_succ]
  refine wpAnyH_take (i := 31) (v := .agg hl.toArray) rfl (by kernel_rfl) (by kernel_rfl) (by kernel_rfl) (fun _ _ _ h => h) (yieldsIf_load_mid (by rfl) _ _ rfl _ _ rfl hl _ (fun _ h => h.1) hu rfl ihl) s8 ?_
  show wpAnyH _ _ _ _ _ _ _ (Act.put _ (some 60) _) _
  simp only [Act.put, List.setIfInBounds_toArray, List.set_cons_zero, List.set_cons_succ]
  refine wpAnyH_take (i := 32) (v := .agg gl.toArray) rfl (by kernel_rfl) (by kernel_rfl) (by kernel_rfl) (fun _ _ _ h => h) (yieldsIf_load_mid (by rfl) _ _ rfl _ _ rfl gl _ (fun _ h => h.2.1) hu rfl igl) s8 ?_
  show wpAnyH _ _ _ _ _ _ _ (Act.put _ (some 61) _) _
  simp only [Act.put, List.setIfInBounds_toArray, List.set_cons_zero, List.set_cons_succ]
  refine wpAnyH_take (i := 33) (v := .bool (decide (h = g))) rfl (by kernel_rfl) (by kernel_rfl) (by kernel_rfl) (fun _ _ _ h => h) (Or.inl ⟨by rfl, fun w9 h9 => by go_simp⟩) s8 ?_
  show wpAnyH _ _ _ _ _ _ _ (Act.put _ (some 62) _) _
  simp only [Act.put, List.setIfInBounds_toArray, List.set_cons_zero, List.set_cons_succ]
  refine wpAnyH_all (rs := [30]) (by kernel_rfl) (by simp) fun i hmem => ?_
  obtain rfl : i = 30 := by simpa using hmem
  refine wpOp_step rfl fun K' hK' => ?_
  rw [if_pos (by rfl)]
  refine wp_calls2 35 hf_same _ _ _ rfl (.agg hl.toArray) (.agg gl.toArray) rfl rfl ?_
  refine (same_any HH.out HG.out).mono ?_
  rintro _ w9 ⟨rfl, hb9⟩
  have b9 : Below w.heap.size w w9 := Below.on' b8 hb9
  have s9 := s8.below hb9
  refine ⟨_, rfl, hK' _ _ ⟨s9, ?_⟩⟩
  clear hK' K' hmem
  show wpAnyH _ _ _ _ _ _ _ (Act.put _ (some 59) _) _
  simp only [Act.put, List.setIfInBounds_toArray, List.set_cons_zero, List.set_cons_succ]
  refine wpAnyH_take (i := 34) (v := .bool true) rfl (by kernel_rfl) (by kernel_rfl) (by kernel_rfl) (fun _ _ _ h => h) (Or.inl ⟨by rfl, fun w9 h9 => by go_simp⟩) s9 ?_
  show wpAnyH _ _ _ _ _ _ _ (Act.put _ (some 63) _) _
  simp only [Act.put, List.setIfInBounds_toArray, List.set_cons_zero, List.set_cons_succ]
  refine wpAnyH_take (i := 35) (v := .bool true) rfl (by kernel_rfl) (by kernel_rfl) (by kernel_rfl) (fun _ _ _ h => h) (Or.inl ⟨by rfl, fun w9 h9 => by go_simp⟩) s9 ?_
  show wpAnyH _ _ _ _ _ _ _ (Act.put _ (some 64) _) _
  simp only [Act.put, List.setIfInBounds_toArray, List.set_cons_zero, List.set_cons_succ]
  refine wpAnyH_take (i := 36) (v := .bool true) rfl (by kernel_rfl) (by kernel_rfl) (by kernel_rfl) (fun _ _ _ h => h) (Or.inl ⟨by rfl, fun w9 h9 => by go_simp⟩) s9 ?_
  show wpAnyH _ _ _ _ _ _ _ (Act.put _ (some 65) _) _
  simp only [Act.put, List.setIfInBounds_toArray, List.set_cons_zero, List.set_cons_succ]
  refine wpAnyH_take (i := 37) (v := .agg gl.toArray) rfl (by kernel_rfl) (by kernel_rfl) (by kernel_rfl) (fun _ _ _ h => h) (yieldsIf_load_mid (by rfl) _ _ rfl _ _ rfl gl _ (fun _ h => h.2.1) hu rfl igl) s9 ?_
  show wpAnyH _ _ _ _ _ _ _ (Act.put _ (some 66) _) _
  simp only [Act.put, List.setIfInBounds_toArray, List.set_cons_zero, List.set_cons_succ]
  refine wpAnyH_take (i := 38) (v := .agg gl.toArray) rfl (by kernel_rfl) (by kernel_rfl) (by kernel_rfl) (fun _ _ _ h => h) (yieldsIf_load_mid (by rfl) _ _ rfl _ _ rfl gl _ (fun _ h => h.2.1) hu rfl igl) s9 ?_
  show wpAnyH _ _ _ _ _ _ _ (Act.put _ (some 67) _) _
  simp only [Act.put, List.setIfInBounds_toArray, List.set_cons_zero, List.set_cons_succ]
  refine wpAnyH_all (rs := [39]) (by kernel_rfl) (by simp) fun i hmem => ?_
  obtain rfl : i = 39 := by simpa using hmem
  refine wpOp_step rfl fun K' hK' => ?_
  rw [if_pos (by rfl)]
  refine wp_calls2 35 hf_same _ _ _ rfl (.agg gl.toArray) (.agg gl.toArray) rfl rfl ?_
  refine (same_any HG.out HG.out).mono ?_
  rintro _ w10 ⟨rfl, hb10⟩
  have b10 : Below w.heap.size w w10 := Below.on' b9 hb10
  have s10 := s9.below hb10
  rw [show decide (g = g) = true by simp]
  refine ⟨_, rfl, hK' _ _ ⟨s10, ?_⟩⟩
  clear hK' K' hmem
  show wpAnyH _ _ _ _ _ _ _ (Act.put _ (some 68) _) _
  simp only [Act.put, List.setIfInBounds_toArray, List.set_cons_zero, List.set_cons_succ]
  refine wpAnyH_take (i := 40) (v := .bool true) rfl (by kernel_rfl) (by kernel_rfl) (by kernel_rfl) (fun _ _ _ h => h) (Or.inl ⟨by rfl, fun w9 h9 => by go_simp⟩) s10 ?_
  show wpAnyH _ _ _ _ _ _ _ (Act.put _ (some 69) _) _
  simp only [Act.put, List.setIfInBounds_toArray, List.set_cons_zero, List.set_cons_succ]
  refine wpAnyH_take (i := 41) (v := .bool true) rfl (by kernel_rfl) (by kernel_rfl) (by kernel_rfl) (fun _ _ _ h => h) (Or.inl ⟨by rfl, fun w9 h9 => by go_simp⟩) s10 ?_
  show wpAnyH _ _ _ _ _ _ _ (Act.put _ (some 6) _) _
  simp only [Act.put, List.setIfInBounds_toArray, List.set_cons_zero, List.set_cons_succ]
  refine wpAnyH_done (by kernel_rfl) ?_ _
  have B := hid b10
  clear b10 b9 b8 b7 b6 s10 s9 s8 s7 s6 s5d s5 b5 q1 q2 q3
  go_wp2
  go_ret
  exact ⟨rfl, B.out⟩
end Go.Proofs.YtoipagoeabkccaaDoor
