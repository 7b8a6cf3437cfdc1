/- HashDerives of the laws on hashes, walked. -/
import Derived.Test.YtfiaefagnkmpoaaDoorHRefDer
import Derived.Test.YtfiaefagnkmpoaaDoorHChain
import Derived.Test.YtfiaefagnkmpoaaDoorHArgs
import Derived.Test.YtfiaefagnkmpoaaDoorHCopy
import Derived.Test.YtfiaefagnkmpoaaDoorHLive
namespace Go.Proofs.YtfiaefagnkmpoaaDoor
open Go.RowKit
set_option linter.unusedVariables false
set_option maxRecDepth 20000
theorem rng_row {w : World} {g : Nat} {xs : List Value} {t : TypeId} (h : w.heap[g]? = some (.cells xs.toArray t (0, 0))) : w.rangeAt g 0 xs := fun j v hj => by rw [Nat.zero_add, cell_of_row _ _ _ _ _ _ h, List.getElem?_toArray, hj]
theorem hf_live : ∀ (args : Array Value) (w : World), (callFunc 10 args).run Tryd.prog w = .ok (.enter 10 args) w := fun args w => by simp [go_sem]
theorem hf_chain : ∀ (args : Array Value) (w : World), (callFunc 20 args).run Tryd.prog w = .ok (.enter 20 args) w := fun args w => by simp [go_sem]
theorem hf_rchain : ∀ (args : Array Value) (w : World), (callFunc 21 args).run Tryd.prog w = .ok (.enter 21 args) w := fun args w => by simp [go_sem]
/-- three rows -/
def Three (g0 g1 g2 : Nat) (ks xs ys : List Value) (w9 : World) : Prop := w9.rangeAt g0 0 ks ∧ w9.rangeAt g1 0 xs ∧ w9.rangeAt g2 0 ys
theorem Three.below {g0 g1 g2 : Nat} {ks xs ys : List Value} {w w' : World} (h : Three g0 g1 g2 ks xs ys w) (hb : Below w.heap.size w w') : Three g0 g1 g2 ks xs ys w' :=
  ⟨rng_below h.1 hb, rng_below h.2.1 hb, rng_below h.2.2 hb⟩

set_option maxHeartbeats 2000000 in
theorem hashDerives_walk {w : World} {K : Array Value} {key : List UInt8} (hK : HV K key) (l : List ByteArray) (a : Option Addr) (cap : Nat) (hl : TextsIn w a cap l) (b : List UInt8) (a' : Option Addr) (cap' : Nat) (hb : BytesIn w a' cap' b) (hT : KAt w) :
    Calls Tryd.prog 5 #[.agg K, .slice a l.length cap, .slice a' b.length cap'] w fun e w' => e = .returned (.bool true) ∧ Below w.heap.size w w' := by
  obtain ⟨Z, hZ⟩ : ∃ Z, Z = bvs (List.replicate 32 0) := ⟨_, rfl⟩
  have zh := (zero_of_info zero_hash).1
  rw [← hZ] at zh
  have hz : Hid (HV Z (List.replicate 32 0)) := by
    show HV _ _
    rw [hZ]; exact hv_zero
  have zh := hid zh
  obtain ⟨kl, rfl⟩ : ∃ xs : List Value, K = xs.toArray := ⟨K.toList, by simp⟩
  have HK := hid hK
  have HL := hid hl
  have HB := hid hb
  have HT := hid hT
  have HLive : Hid (∀ W, Below w.heap.size w W → Calls Tryd.prog 10 #[] W fun e w' => e = .returned (.bool true) ∧ Below W.heap.size W w') := fun W hW => live_any (HT.out.below hW)
  obtain ⟨R, hR⟩ : ∃ R, R = derRes key l := ⟨_, rfl⟩
  obtain ⟨er, her⟩ : ∃ er : Int, er = (keyErr l : Int) := ⟨_, rfl⟩
  obtain ⟨nl, hnl⟩ : ∃ nl, nl = l.length := ⟨_, rfl⟩
  obtain ⟨nb, hnb⟩ : ∃ nb, nb = b.length := ⟨_, rfl⟩
  have Hnb := hid hnb
  have D1 : Hid (∀ W, Below w.heap.size w W → Calls Tryd.prog 18 #[.agg kl.toArray, .slice a nl cap] W (HashErr W R er)) := fun W hW => by
    rw [hR, her]; exact derive_any HK.out l a nl cap hnl (HL.out.texts.below hW) HL.out.sizes HL.out.length (HT.out.below hW)
  have D2 : Hid (∀ W, Below w.heap.size w W → Calls Tryd.prog 19 #[.agg kl.toArray, .slice a nl cap] W (HashErr W R er)) := fun W hW => by
    rw [hR, her]; exact refDerive_any HK.out l a nl cap hnl (HL.out.texts.below hW) HL.out.sizes HL.out.length trivial
  have x0 := hid (heap_alloc_new w (.cells kl.toArray 26))
  have b0 : Hid (Below w.heap.size w (w.alloc (.cells kl.toArray 26))) := (Below.refl _ w).alloc (Nat.le_refl _) _
  have hu := Tryd.underlying26
  have ikl : (Tryd.prog.info? 26).map (·.size) = some kl.length := hK.info
  rw [← hnl, ← hnb]
  clear hZ hK hl hb hT hR her hnl hnb
  go_enter Tryd.func5, Tryd.ntmps5
  go_wp2_with (with_reducible show Go.wpList _ _ _ _ _ _; refine wpList_load_row rfl 26 _ rfl w.heap.size rfl _ _ _ _ x0.out Tryd.underlying26 rfl HK.out.info ?_)
  refine (D1.out _ b0.out).mono ?_
  rintro _ w1 ⟨X, rfl, hX, hb1⟩
  obtain ⟨xs, rfl⟩ : ∃ xs : List Value, X = xs.toArray := ⟨X.toList, by simp⟩
  have HX := hid hX
  have b1 : Hid (Below w.heap.size w w1) := Below.on' b0.out hb1
  have x1 : Hid (w1.heap[w.heap.size]? = some (.cells kl.toArray 26 (0, 0))) := (hb1.block _ (heap_lt x0.out)).trans x0.out
  have ixs : (Tryd.prog.info? 26).map (·.size) = some xs.length := hX.info
  clear hX hb1 b0 x0
  obtain ⟨W1, hW1⟩ : ∃ W1, W1 = w1.alloc (.cells xs.toArray 26) := ⟨_, rfl⟩
  have HW1 := hid hW1
  have b1a : Hid (Below w.heap.size w W1) := by show Below _ _ _; rw [hW1]; exact b1.out.alloc b1.out.size _
  have x1a : Hid (W1.heap[w.heap.size]? = some (.cells kl.toArray 26 (0, 0))) := by show _ = _; rw [hW1]; exact (Below.heap_alloc _ _ _ (heap_lt x1.out)).trans x1.out
  have z1a : Hid (W1.heap[w1.heap.size]? = some (.cells xs.toArray 26 (0, 0))) := by show _ = _; rw [hW1]; exact heap_alloc_new w1 _
  clear hW1 x1 b1
  go_wp2_with (with_reducible show Go.wpList _ _ _ _ _ _; first
    | refine wpList_alloc_row rfl 26 rfl Z zh.out ?_
    | (refine wpList_store_row rfl 26 _ _ rfl w1.heap.size xs.toArray rfl rfl 26 Z (heap_alloc_new w1 _) HX.out.info (hz.out.size.trans HX.out.size.symm) HX.out.one ?_; rw [World.setRow_alloc_new, ← HW1.out])
    | refine wpList_load_row rfl 26 _ rfl w.heap.size rfl _ _ _ _ x1a.out Tryd.underlying26 rfl HK.out.info ?_)
  refine (D2.out _ b1a.out).mono ?_
  rintro _ w2 ⟨Y, rfl, hY, hb2⟩
  obtain ⟨ys, rfl⟩ : ∃ xs : List Value, Y = xs.toArray := ⟨Y.toList, by simp⟩
  have HY := hid hY
  have b2 : Hid (Below w.heap.size w w2) := Below.on' b1a.out hb2
  have x2 : Hid (w2.heap[w.heap.size]? = some (.cells kl.toArray 26 (0, 0))) := (hb2.block _ (heap_lt x1a.out)).trans x1a.out
  have z2 : Hid (w2.heap[w1.heap.size]? = some (.cells xs.toArray 26 (0, 0))) := (hb2.block _ (heap_lt z1a.out)).trans z1a.out
  have iys : (Tryd.prog.info? 26).map (·.size) = some ys.length := hY.info
  clear hY hb2 b1a x1a z1a HW1
  obtain ⟨W4, hW4⟩ : ∃ W4, W4 = w2.alloc (.cells ys.toArray 26) := ⟨_, rfl⟩
  have HW4 := hid hW4
  have b5 : Hid (Below w.heap.size w W4) := by show Below _ _ _; rw [hW4]; exact b2.out.alloc b2.out.size _
  have s5 : Hid (Three w.heap.size w1.heap.size w2.heap.size kl xs ys W4) := by
    show Three _ _ _ _ _ _ _
    rw [hW4]
    exact ⟨rng_row ((Below.heap_alloc _ _ _ (heap_lt x2.out)).trans x2.out), rng_row ((Below.heap_alloc _ _ _ (heap_lt z2.out)).trans z2.out), rng_row (heap_alloc_new w2 _)⟩
  clear hW4 x2 z2 b2
  go_wp2_with (with_reducible show Go.wpList _ _ _ _ _ _; first
    | refine wpList_alloc_row rfl 26 rfl Z zh.out ?_
    | (refine wpList_store_row rfl 26 _ _ rfl w2.heap.size ys.toArray rfl rfl 26 Z (heap_alloc_new w2 _) HY.out.info (hz.out.size.trans HY.out.size.symm) HY.out.one ?_; rw [World.setRow_alloc_new, ← HW4.out]))
  have q1 := hash_same HX.out HY.out
  generalize w1.heap.size = n1 at s5 ⊢
  generalize w2.heap.size = n2 at s5 ⊢
  have s5d : Three w.heap.size n1 n2 kl xs ys W4.drew := s5.out.below ((Below.refl _ _).drew)
  refine wp_region_held (S := fun w9 => Three w.heap.size n1 n2 kl xs ys w9) (by kernel_rfl) ?_
  refine wpAnyH_all (rs := [0]) (by kernel_rfl) (by simp) fun i hmem => ?_
  obtain rfl : i = 0 := by simpa using hmem
  refine wpOp_step rfl fun K' hK' => ?_
  rw [if_pos (by rfl)]
  refine wp_calls0 10 hf_live _ rfl ?_
  refine (HLive.out _ b5.out.drew).mono ?_
  rintro _ w6 ⟨rfl, hb6⟩
  have b6 : Below w.heap.size w w6 := Below.on' b5.out (undrew1 hb6)
  have s6 := s5.out.below (undrew1 hb6)
  refine ⟨_, rfl, hK' _ _ ⟨s6, ?_⟩⟩
  clear hK' K' hmem
  show wpAnyH _ _ _ _ _ _ _ (Act.put _ (some 23) _) _
  simp only [Act.put, List.setIfInBounds_toArray, List.set_cons_zero, List.set_cons_succ]
  refine wpAnyH_take (i := 1) (v := .bool true) rfl (by kernel_rfl) (by kernel_rfl) (by kernel_rfl) (fun _ _ _ h => h) (Or.inl ⟨by rfl, fun w9 h9 => by go_simp⟩) s6 ?_
  show wpAnyH _ _ _ _ _ _ _ (Act.put _ (some 24) _) _
  simp only [Act.put, List.setIfInBounds_toArray, List.set_cons_zero, List.set_cons_succ]
  refine wpAnyH_take (i := 2) (v := .agg xs.toArray) rfl (by kernel_rfl) (by kernel_rfl) (by kernel_rfl) (fun _ _ _ h => h) (yieldsIf_load_mid (by rfl) _ _ rfl _ _ rfl xs _ (fun _ h => h.2.1) hu rfl ixs) s6 ?_
  show wpAnyH _ _ _ _ _ _ _ (Act.put _ (some 25) _) _
  simp only [Act.put, List.setIfInBounds_toArray, List.set_cons_zero, List.set_cons_succ]
  refine wpAnyH_take (i := 3) (v := .agg ys.toArray) rfl (by kernel_rfl) (by kernel_rfl) (by kernel_rfl) (fun _ _ _ h => h) (yieldsIf_load_mid (by rfl) _ _ rfl _ _ rfl ys _ (fun _ h => h.2.2) hu rfl iys) s6 ?_
  show wpAnyH _ _ _ _ _ _ _ (Act.put _ (some 26) _) _
  simp only [Act.put, List.setIfInBounds_toArray, List.set_cons_zero, List.set_cons_succ]
  refine wpAnyH_take (i := 4) (v := .bool true) rfl (by kernel_rfl) (by kernel_rfl) (by kernel_rfl) (fun _ _ _ h => h) (Or.inl ⟨by rfl, fun w9 h9 => by go_simp⟩) s6 ?_
  show wpAnyH _ _ _ _ _ _ _ (Act.put _ (some 27) _) _
  simp only [Act.put, List.setIfInBounds_toArray, List.set_cons_zero, List.set_cons_succ]
  refine wpAnyH_take (i := 5) (v := .bool true) rfl (by kernel_rfl) (by kernel_rfl) (by kernel_rfl) (fun _ _ _ h => h) (Or.inl ⟨by rfl, fun w9 h9 => by go_simp⟩) s6 ?_
  show wpAnyH _ _ _ _ _ _ _ (Act.put _ (some 28) _) _
  simp only [Act.put, List.setIfInBounds_toArray, List.set_cons_zero, List.set_cons_succ]
  refine wpAnyH_take (i := 6) (v := .bool true) rfl (by kernel_rfl) (by kernel_rfl) (by kernel_rfl) (fun _ _ _ h => h) (Or.inl ⟨by rfl, fun w9 h9 => by go_simp⟩) s6 ?_
  show wpAnyH _ _ _ _ _ _ _ (Act.put _ (some 29) _) _
  simp only [Act.put, List.setIfInBounds_toArray, List.set_cons_zero, List.set_cons_succ]
  refine wpAnyH_take (i := 7) (v := .int .i64 er) rfl (by kernel_rfl) (by kernel_rfl) (by kernel_rfl) (fun _ _ _ h => h) (Or.inl ⟨by rfl, fun w9 h9 => by go_simp⟩) s6 ?_
  show wpAnyH _ _ _ _ _ _ _ (Act.put _ (some 30) _) _
  simp only [Act.put, List.setIfInBounds_toArray, List.set_cons_zero, List.set_cons_succ]
  refine wpAnyH_take (i := 8) (v := .int .i64 er) rfl (by kernel_rfl) (by kernel_rfl) (by kernel_rfl) (fun _ _ _ h => h) (Or.inl ⟨by rfl, fun w9 h9 => by go_simp⟩) s6 ?_
  show wpAnyH _ _ _ _ _ _ _ (Act.put _ (some 31) _) _
  simp only [Act.put, List.setIfInBounds_toArray, List.set_cons_zero, List.set_cons_succ]
  refine wpAnyH_take (i := 9) (v := .bool true) rfl (by kernel_rfl) (by kernel_rfl) (by kernel_rfl) (fun _ _ _ h => h) (Or.inl ⟨by rfl, fun w9 h9 => by go_simp⟩) s6 ?_
  show wpAnyH _ _ _ _ _ _ _ (Act.put _ (some 32) _) _
  simp only [Act.put, List.setIfInBounds_toArray, List.set_cons_zero, List.set_cons_succ]
  refine wpAnyH_take (i := 10) (v := .bool true) rfl (by kernel_rfl) (by kernel_rfl) (by kernel_rfl) (fun _ _ _ h => h) (Or.inl ⟨by rfl, fun w9 h9 => by go_simp⟩) s6 ?_
  show wpAnyH _ _ _ _ _ _ _ (Act.put _ (some 33) _) _
  simp only [Act.put, List.setIfInBounds_toArray, List.set_cons_zero, List.set_cons_succ]
  refine wpAnyH_take (i := 11) (v := .bool true) rfl (by kernel_rfl) (by kernel_rfl) (by kernel_rfl) (fun _ _ _ h => h) (Or.inl ⟨by rfl, fun w9 h9 => by go_simp⟩) s6 ?_
  show wpAnyH _ _ _ _ _ _ _ (Act.put _ (some 34) _) _
  simp only [Act.put, List.setIfInBounds_toArray, List.set_cons_zero, List.set_cons_succ]
  refine wpAnyH_take (i := 12) (v := .agg kl.toArray) rfl (by kernel_rfl) (by kernel_rfl) (by kernel_rfl) (fun _ _ _ h => h) (yieldsIf_load_mid (by rfl) _ _ rfl _ _ rfl kl _ (fun _ h => h.1) hu rfl ikl) s6 ?_
  show wpAnyH _ _ _ _ _ _ _ (Act.put _ (some 35) _) _
  simp only [Act.put, List.setIfInBounds_toArray, List.set_cons_zero, List.set_cons_succ]
  refine wpAnyH_take (i := 13) (v := .slice a' nb cap') rfl (by kernel_rfl) (by kernel_rfl) (by kernel_rfl) (fun _ _ _ h => h) (Or.inl ⟨by rfl, fun w9 h9 => by go_simp⟩) s6 ?_
  show wpAnyH _ _ _ _ _ _ _ (Act.put _ (some 36) _) _
  simp only [Act.put, List.setIfInBounds_toArray, List.set_cons_zero, List.set_cons_succ]
  refine wpAnyH_take (i := 15) (v := .agg kl.toArray) rfl (by kernel_rfl) (by kernel_rfl) (by kernel_rfl) (fun _ _ _ h => h) (yieldsIf_load_mid (by rfl) _ _ rfl _ _ rfl kl _ (fun _ h => h.1) hu rfl ikl) s6 ?_
  show wpAnyH _ _ _ _ _ _ _ (Act.put _ (some 38) _) _
  simp only [Act.put, List.setIfInBounds_toArray, List.set_cons_zero, List.set_cons_succ]
  refine wpAnyH_take (i := 16) (v := .slice a' nb cap') rfl (by kernel_rfl) (by kernel_rfl) (by kernel_rfl) (fun _ _ _ h => h) (Or.inl ⟨by rfl, fun w9 h9 => by go_simp⟩) s6 ?_
  show wpAnyH _ _ _ _ _ _ _ (Act.put _ (some 39) _) _
  simp only [Act.put, List.setIfInBounds_toArray, List.set_cons_zero, List.set_cons_succ]
  refine wpAnyH_all (rs := [14]) (by kernel_rfl) (by simp) fun i hmem => ?_
  obtain rfl : i = 14 := by simpa using hmem
  refine wpOp_step rfl fun K' hK' => ?_
  rw [if_pos (by rfl)]
  refine wp_calls2 20 hf_chain _ _ _ rfl (.agg kl.toArray) (.slice a' nb cap') rfl rfl ?_
  refine (chain_any HK.out b a' nb cap' Hnb.out (HB.out.bytes.below b6) (by have := HB.out.length; omega) HB.out.cap (HT.out.below b6)).mono ?_
  rintro _ w7 ⟨C, rfl, hC, hb7⟩
  have b7 : Below w.heap.size w w7 := Below.on' b6 hb7
  have s7 := s6.below hb7
  refine ⟨_, rfl, hK' _ _ ⟨s7, ?_⟩⟩
  clear hK' K' hmem
  show wpAnyH _ _ _ _ _ _ _ (Act.put _ (some 37) _) _
  simp only [Act.put, List.setIfInBounds_toArray, List.set_cons_zero, List.set_cons_succ]
  refine wpAnyH_all (rs := [17]) (by kernel_rfl) (by simp) fun i hmem => ?_
  obtain rfl : i = 17 := by simpa using hmem
  refine wpOp_step rfl fun K' hK' => ?_
  rw [if_pos (by rfl)]
  refine wp_calls2 21 hf_rchain _ _ _ rfl (.agg kl.toArray) (.slice a' nb cap') rfl rfl ?_
  refine (refChain_any HK.out b a' nb cap' Hnb.out (HB.out.bytes.below b7) HB.out.nilcap HB.out.length).mono ?_
  rintro _ w8 ⟨D, rfl, hD, hb8⟩
  have b8 : Below w.heap.size w w8 := Below.on' b7 hb8
  have s8 := s7.below hb8
  have q2 := hash_same hC.out hD.out
  refine ⟨_, rfl, hK' _ _ ⟨s8, ?_⟩⟩
  clear hK' K' hmem
  show wpAnyH _ _ _ _ _ _ _ (Act.put _ (some 40) _) _
  simp only [Act.put, List.setIfInBounds_toArray, List.set_cons_zero, List.set_cons_succ]
  refine wpAnyH_take (i := 18) (v := .bool true) rfl (by kernel_rfl) (by kernel_rfl) (by kernel_rfl) (fun _ _ _ h => h) (Or.inl ⟨by rfl, fun w9 h9 => by go_simp⟩) s8 ?_
  show wpAnyH _ _ _ _ _ _ _ (Act.put _ (some 41) _) _
  simp only [Act.put, List.setIfInBounds_toArray, List.set_cons_zero, List.set_cons_succ]
  refine wpAnyH_take (i := 19) (v := .bool true) rfl (by kernel_rfl) (by kernel_rfl) (by kernel_rfl) (fun _ _ _ h => h) (Or.inl ⟨by rfl, fun w9 h9 => by go_simp⟩) s8 ?_
  show wpAnyH _ _ _ _ _ _ _ (Act.put _ (some 42) _) _
  simp only [Act.put, List.setIfInBounds_toArray, List.set_cons_zero, List.set_cons_succ]
  refine wpAnyH_take (i := 20) (v := .bool true) rfl (by kernel_rfl) (by kernel_rfl) (by kernel_rfl) (fun _ _ _ h => h) (Or.inl ⟨by rfl, fun w9 h9 => by go_simp⟩) s8 ?_
  show wpAnyH _ _ _ _ _ _ _ (Act.put _ (some 6) _) _
  simp only [Act.put, List.setIfInBounds_toArray, List.set_cons_zero, List.set_cons_succ]
  refine wpAnyH_done (by kernel_rfl) ?_ _
  have B := hid b8
  clear b8 b7 b6 s8 s7 s6 s5d s5 b5 q1 q2
  go_wp2
  go_ret
  exact ⟨rfl, B.out⟩
end Go.Proofs.YtfiaefagnkmpoaaDoor
