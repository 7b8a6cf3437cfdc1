/- The next link of a chain: hash.Chain. -/
import Derived.Test.YthnciogaibhmcaaDoorHTag
namespace Go.Proofs.YthnciogaibhmcaaDoor
open Go.RowKit
set_option linter.unusedVariables false
set_option maxRecDepth 20000
set_option maxRecDepth 20000

set_option maxHeartbeats 2000000 in
theorem chain_any {w : World} {h : List UInt8} {H : Array Value} (hH : HV H h) (b : List UInt8) (a : Option Addr) (n cap : Nat) (hn : n = b.length) (hB : Bytes w a b) (hl : b.length < 1000000000000000) (hcap : b.length ≤ cap) (hK : KAt w) :
    Calls Tryd.prog 53 #[.agg H, .slice a n cap] w fun e w' => ∃ O, e = .returned (.agg O) ∧ Hid (HV O (sha (h ++ b))) ∧ Below w.heap.size w w' := by
  obtain ⟨Z, hZ⟩ : ∃ Z, Z = bvs (List.replicate 32 0) := ⟨_, rfl⟩
  have zh := (zero_of_info zero_hash).1
  rw [← hZ] at zh
  have hz : Hid (HV Z (List.replicate 32 0)) := by
    show HV _ _
    rw [hZ]; exact hv_zero
  have zh := hid zh
  have HB := hid hB
  have HK := hid hK
  have HH := hid hH
  have Hn := hid hn
  have hlen : h.length = 32 := hH.len
  clear hZ hB hK hH hn
  go_enter Tryd.func53, Tryd.ntmps53
  go_wp2_with (with_reducible show Go.wpList _ _ _ _ _ _; refine wpList_alloc_row rfl 49 rfl Z zh.out ?_)
  have hm : Tryd.prog.follows .mixedOrders = true := by kernel_rfl
  obtain ⟨W0, hW0⟩ : ∃ W0, W0 = ((w.alloc (.cells H 49)).alloc (.cells Z 49)).drew := ⟨_, rfl⟩
  have b0 : Below w.heap.size w W0 := by rw [hW0]; exact (((Below.refl _ w).alloc (Nat.le_refl _) _).alloc (by simp) _).drew
  have x0 : W0.heap[w.heap.size]? = some (.cells H 49 (0, 0)) := by rw [hW0]; exact heap_alloc2_old w _ _
  have y0 : W0.heap[w.heap.size + 1]? = some (.cells Z 49 (0, 0)) := by rw [hW0]; exact heap_alloc2_new w _ _
  refine wp_act _ fun A hA => ?_
  rw [show (w.alloc (.cells H 49)).heap.size = w.heap.size + 1 by simp] at hA
  have sz : A.tmps.size = 11 := by rw [hA]; rfl
  have e1 : A.eval (.tmp 1) = .slice a n cap := by rw [hA]; rfl
  have e2 : A.eval (.tmp 2) = .pointer (some ⟨w.heap.size, 0, none⟩) := by rw [hA]; rfl
  have e4 : A.eval (.tmp 4) = .pointer (some ⟨w.heap.size + 1, 0, none⟩) := by rw [hA]; rfl
  obtain ⟨a0, ha0⟩ : ∃ a0, a0 = a := ⟨_, rfl⟩
  rw [← ha0] at hA
  refine wp_split (fun a W => ∃ v5 v6 v7 v8 v9 O, a = ⟨#[.agg H, .slice a0 n cap, .pointer (some ⟨w.heap.size, 0, none⟩), undef, .pointer (some ⟨w.heap.size + 1, 0, none⟩), v5, v6, v7, v8, v9, .agg O], []⟩ ∧ HV O (sha (h ++ b)) ∧ W.heap[w.heap.size + 1]? = some (.cells O 49 (0, 0)) ∧ Below w.heap.size w W) ?_ ?_
  · refine wp_region_held (S := fun _ => True) hm ?_
    rw [show ({ ((w.alloc (.cells H 49)).alloc (.cells Z 49)) with drawn := ((w.alloc (.cells H 49)).alloc (.cells Z 49)).drawn + 1 } : World) = W0 from hW0.symm]
    refine wpAnyH_take (i := 1) (v := .slice (some ⟨w.heap.size, 0, none⟩) 32 32) rfl (by kernel_rfl) (by kernel_rfl) (by kernel_rfl) (fun _ _ _ h => nomatch h.1) (yields_slice_hash (by simp [Region.wanted]) (.tmp 2) rfl w.heap.size e2) trivial ?_
    refine wpAnyH_take (i := 3) (v := .slice a n cap) rfl (by kernel_rfl) (by kernel_rfl) (by kernel_rfl) (fun _ _ _ h => nomatch h.1) (yields_move (by simp [Region.wanted]) (.tmp 1) rfl _ ((ev_ne _ _ (by decide)).trans e1)) trivial ?_
    obtain ⟨A2, hA2⟩ : ∃ A2, A2 = (A.put (some 6) (.slice (some ⟨w.heap.size, 0, none⟩) 32 32)).put (some 8) (.slice a n cap) := ⟨_, rfl⟩
    show wpAnyH _ _ _ _ _ _ _ ((A.put (some 6) (.slice (some ⟨w.heap.size, 0, none⟩) 32 32)).put (some 8) (.slice a n cap)) _
    have z2 : A2.tmps.size = 11 := by rw [hA2]; simp [put_sz, sz]
    have z6 : A2.eval (.tmp 6) = .slice (some ⟨w.heap.size, 0, none⟩) 32 32 := by rw [hA2]; exact (ev_ne _ _ (by decide)).trans (ev_eq _ _ (by simp [sz]))
    have z8 : A2.eval (.tmp 8) = .slice a n cap := by rw [hA2]; exact ev_eq _ _ (by simp [put_sz, sz])
    have z4 : A2.eval (.tmp 4) = .pointer (some ⟨w.heap.size + 1, 0, none⟩) := by rw [hA2]; exact (ev_ne _ _ (by decide)).trans ((ev_ne _ _ (by decide)).trans e4)
    rw [← hA2]
    clear hW0 e1 e2 e4 sz
    refine wpAnyH_all (rs := [0]) (by kernel_rfl) (by simp) fun i hmem => ?_
    obtain rfl : i = 0 := by simpa using hmem
    refine wpOp_own rfl rfl fun K' hK' => ?_
    refine wp_calls0 69 hf_start _ rfl ?_
    refine (start_rv _).mono ?_
    rintro _ w1 ⟨v5, rfl, hv5, hb1⟩
    have b1 := b0.trans (hb1.mono b0.size)
    have x1 := (hb1.block _ (heap_lt x0)).trans x0
    have y1 := (hb1.block _ (heap_lt y0)).trans y0
    refine ⟨_, rfl, hK' _ _ ⟨trivial, ?_⟩⟩
    clear hK' K' hmem
    show wpAnyH _ _ _ _ _ _ _ (A2.put (some 5) v5) _
    refine wpAnyH_all (rs := [2]) (by kernel_rfl) (by simp) fun i hmem => ?_
    obtain rfl : i = 2 := by simpa using hmem
    refine wpOp_own rfl rfl fun K' hK' => ?_
    refine wp_calls2 70 hf_with (.tmp 5) (.tmp 6) _ rfl v5 (.slice (some ⟨w.heap.size, 0, none⟩) 32 32) (ev_eq _ _ (by simp [z2])) ((ev_ne _ _ (by decide)).trans z6) ?_
    refine (with_rv hv5.out h (some ⟨w.heap.size, 0, none⟩) 32 32 hlen.symm (HH.out.bytes x1) (by simp; omega) (by omega) (HK.out.below b1)).mono ?_
    rintro _ w2 ⟨v7, rfl, hv7, hb2⟩
    have b2 := b1.trans (hb2.mono b1.size)
    have y2 := (hb2.block _ (heap_lt y1)).trans y1
    refine ⟨_, rfl, hK' _ _ ⟨trivial, ?_⟩⟩
    clear hK' K' hmem
    show wpAnyH _ _ _ _ _ _ _ ((A2.put (some 5) v5).put (some 7) v7) _
    refine wpAnyH_all (rs := [4]) (by kernel_rfl) (by simp) fun i hmem => ?_
    obtain rfl : i = 4 := by simpa using hmem
    refine wpOp_own rfl rfl fun K' hK' => ?_
    refine wp_calls2 70 hf_with (.tmp 7) (.tmp 8) _ rfl v7 (.slice a n cap) (ev_eq _ _ (by simp [put_sz, z2])) ((ev_ne _ _ (by decide)).trans ((ev_ne _ _ (by decide)).trans z8)) ?_
    refine (with_rv hv7.out b a n cap Hn.out (HB.out.below b2) (by simp; omega) hcap (HK.out.below b2)).mono ?_
    rintro _ w3 ⟨v9, rfl, hv9, hb3⟩
    have b3 := b2.trans (hb3.mono b2.size)
    have y3 := (hb3.block _ (heap_lt y2)).trans y2
    refine ⟨_, rfl, hK' _ _ ⟨trivial, ?_⟩⟩
    clear hK' K' hmem
    show wpAnyH _ _ _ _ _ _ _ (((A2.put (some 5) v5).put (some 7) v7).put (some 9) v9) _
    refine wpAnyH_all (rs := [5]) (by kernel_rfl) (by simp) fun i hmem => ?_
    obtain rfl : i = 5 := by simpa using hmem
    refine wpOp_own rfl rfl fun K' hK' => ?_
    refine wp_calls1 71 hf_sum (.tmp 9) _ rfl v9 (ev_eq _ _ (by simp [put_sz, z2])) ?_
    refine (sum_rv hv9.out (by simp; omega) (HK.out.below b3)).mono ?_
    rintro _ w4 ⟨O, rfl, hO, hb4⟩
    have b4 := b3.trans (hb4.mono b3.size)
    have y4 := (hb4.block _ (heap_lt y3)).trans y3
    refine ⟨_, rfl, hK' _ _ ⟨trivial, ?_⟩⟩
    clear hK' K' hmem
    obtain ⟨A5, hA5⟩ : ∃ A5, A5 = (((A2.put (some 5) v5).put (some 7) v7).put (some 9) v9).put (some 10) (.agg O) := ⟨_, rfl⟩
    show wpAnyH _ _ _ _ _ _ _ ((((A2.put (some 5) v5).put (some 7) v7).put (some 9) v9).put (some 10) (.agg O)) _
    have u4 : A5.eval (.tmp 4) = .pointer (some ⟨w.heap.size + 1, 0, none⟩) := by rw [hA5]; exact (ev_ne _ _ (by decide)).trans ((ev_ne _ _ (by decide)).trans ((ev_ne _ _ (by decide)).trans ((ev_ne _ _ (by decide)).trans z4)))
    have u10 : A5.eval (.tmp 10) = .agg O := by rw [hA5]; exact ev_eq _ _ (by simp [put_sz, z2])
    rw [← hA5]
    refine wpAnyH_all (rs := [6]) (by kernel_rfl) (by simp) fun i hmem => ?_
    obtain rfl : i = 6 := by simpa using hmem
    refine wpOp_own rfl rfl fun K' hK' => ?_
    refine wp_store_hash (.tmp 4) (.tmp 10) rfl (w.heap.size + 1) O Z hO.out hz.out u4 u10 y4 ?_
    refine hK' _ _ ⟨trivial, wpAnyH_done (by kernel_rfl) ⟨rfl, v5, .slice (some ⟨w.heap.size, 0, none⟩) 32 32, v7, .slice a n cap, v9, O, ?_, ?_, setRow_heap _ _ _ _ _ _ y4, b4.setRow (by omega) _⟩ _⟩
    · show A5 = _
      rw [hA5, hA2, hA]
      simp [Act.put]
    · have h := hO.out
      rwa [List.nil_append] at h
  · rintro aa W ⟨v5, v6, v7, v8, v9, O, rfl, hO, hrow, hb⟩
    have HO := hid hO
    have Hr := hid hrow
    have Hb := hid hb
    clear hO hrow hb HB HK HH hz zh x0 y0 b0 hW0 e1 e2 e4 sz
    go_wp2
    show bodyPost _ _ _ _ _ _
    refine bodyPost_ret (results_cell_row rfl _ _ (w.heap.size + 1) 49 O (0, 0) _ rfl Hr.out Tryd.underlying49 rfl HO.out.info) rfl ⟨O, rfl, HO, Hb.out⟩

end Go.Proofs.YthnciogaibhmcaaDoor
