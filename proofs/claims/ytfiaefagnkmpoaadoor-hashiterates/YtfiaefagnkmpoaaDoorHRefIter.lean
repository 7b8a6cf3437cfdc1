/- What a password becomes by so many rounds, as the reference has it. -/
import Derived.Test.YtfiaefagnkmpoaaDoorHIter
import Derived.Test.YtfiaefagnkmpoaaDoorHRefSum
namespace Go.Proofs.YtfiaefagnkmpoaaDoor
open Go.RowKit
set_option linter.unusedVariables false
set_option maxRecDepth 20000

set_option maxHeartbeats 4000000 in
theorem refIterate_any {w : World} (p s : ByteArray) (c : Int) (hp : p.size ≤ 140737488355328) (hs : s.size ≤ 140737488355328) (hW9 : True) :
    Calls Tryd.prog 17 #[.string p, .string s, .int .i64 c] w (HashErr w (itRes p s c) (itErr p s c)) := by
  obtain ⟨Z, hZ⟩ : ∃ Z, Z = bvs (List.replicate 32 0) := ⟨_, rfl⟩
  have zh := (zero_of_info zero_hash).1
  have bh := built_hash
  rw [← hZ] at zh bh
  have hz : Hid (HV Z (List.replicate 32 0)) := by
    show HV _ _
    rw [hZ]; exact hv_zero
  have zh := hid zh
  have bh := hid bh
  clear hZ hW9
  have x0 := hid (heap_alloc_new w (.cells Z 26))
  have b0 : Hid (Below w.heap.size w (w.alloc (.cells Z 26))) := (Below.refl _ w).alloc (Nat.le_refl _) _
  by_cases h1 : 64 < p.size
  · have d1 : (64 : Int) < (p.size : Int) := by omega
    have e1 : Hid (itErr p s c = 6 ∧ itRes p s c = List.replicate 32 0) := by
      show _ ∧ _
      simp [itErr, itRes, h1]
    go_enter Tryd.func17, Tryd.ntmps17
    go_wp2_with (with_reducible show Go.wpList _ _ _ _ _ _; first
      | refine wpList_alloc_row rfl 26 rfl Z zh.out ?_
      | refine wpList_build_none rfl 26 rfl Z bh.out ?_
      | refine wpList_store_row rfl 26 _ _ rfl w.heap.size Z rfl rfl 26 Z x0.out hz.out.info rfl hz.out.one ?_)
    refine bodyPost_ret (results_row_tmp rfl _ _ w.heap.size 26 Z (0, 0) _ rfl (setRow_heap _ _ _ _ _ _ x0.out) Tryd.underlying26 rfl hz.out.info) rfl ?_
    rw [e1.out.1, e1.out.2]
    exact ⟨Z, rfl, hz.out, b0.out.setRow (by omega) _⟩
  · by_cases h2 : 8 < s.size
    · have d1 : ¬ (64 : Int) < (p.size : Int) := by omega
      have d2 : (8 : Int) < (s.size : Int) := by omega
      have e1 : Hid (itErr p s c = 6 ∧ itRes p s c = List.replicate 32 0) := by
        show _ ∧ _
        simp [itErr, itRes, h2]
      go_enter Tryd.func17, Tryd.ntmps17
      go_wp2_with (with_reducible show Go.wpList _ _ _ _ _ _; first
        | refine wpList_alloc_row rfl 26 rfl Z zh.out ?_
        | refine wpList_build_none rfl 26 rfl Z bh.out ?_
        | refine wpList_store_row rfl 26 _ _ rfl w.heap.size Z rfl rfl 26 Z x0.out hz.out.info rfl hz.out.one ?_)
      refine bodyPost_ret (results_row_tmp rfl _ _ w.heap.size 26 Z (0, 0) _ rfl (setRow_heap _ _ _ _ _ _ x0.out) Tryd.underlying26 rfl hz.out.info) rfl ?_
      rw [e1.out.1, e1.out.2]
      exact ⟨Z, rfl, hz.out, b0.out.setRow (by omega) _⟩
    · have d1 : ¬ (64 : Int) < (p.size : Int) := by omega
      have d2 : ¬ (8 : Int) < (s.size : Int) := by omega
      by_cases h3 : c < 1
      · have e1 : Hid (itErr p s c = 2 ∧ itRes p s c = List.replicate 32 0) := by
          show _ ∧ _
          simp [itErr, itRes, h1, h2, h3]
        go_enter Tryd.func17, Tryd.ntmps17
        go_wp2_with (with_reducible show Go.wpList _ _ _ _ _ _; first
          | refine wpList_alloc_row rfl 26 rfl Z zh.out ?_
          | refine wpList_build_none rfl 26 rfl Z bh.out ?_
          | refine wpList_store_row rfl 26 _ _ rfl w.heap.size Z rfl rfl 26 Z x0.out hz.out.info rfl hz.out.one ?_)
        refine bodyPost_ret (results_row_tmp rfl _ _ w.heap.size 26 Z (0, 0) _ rfl (setRow_heap _ _ _ _ _ _ x0.out) Tryd.underlying26 rfl hz.out.info) rfl ?_
        rw [e1.out.1, e1.out.2]
        exact ⟨Z, rfl, hz.out, b0.out.setRow (by omega) _⟩
      · by_cases h4 : 64 < c
        · have e1 : Hid (itErr p s c = 2 ∧ itRes p s c = List.replicate 32 0) := by
            show _ ∧ _
            simp [itErr, itRes, h1, h2, h4]
          go_enter Tryd.func17, Tryd.ntmps17
          go_wp2_with (with_reducible show Go.wpList _ _ _ _ _ _; first
            | refine wpList_alloc_row rfl 26 rfl Z zh.out ?_
            | refine wpList_build_none rfl 26 rfl Z bh.out ?_
            | refine wpList_store_row rfl 26 _ _ rfl w.heap.size Z rfl rfl 26 Z x0.out hz.out.info rfl hz.out.one ?_)
          refine bodyPost_ret (results_row_tmp rfl _ _ w.heap.size 26 Z (0, 0) _ rfl (setRow_heap _ _ _ _ _ _ x0.out) Tryd.underlying26 rfl hz.out.info) rfl ?_
          rw [e1.out.1, e1.out.2]
          exact ⟨Z, rfl, hz.out, b0.out.setRow (by omega) _⟩
        · obtain ⟨C, hC⟩ : ∃ C : Nat, c = (C : Int) := ⟨c.toNat, by omega⟩
          subst hC
          have e1 : Hid (itErr p s (C : Int) = 0 ∧ itRes p s (C : Int) = iterN p.data.toList s.data.toList C) := by
            show _ ∧ _
            simp [itErr, itRes, h1, h2, h3, h4]
          have lp : p.data.toList.length = p.size := Array.length_toList
          have ls : s.data.toList.length = s.size := Array.length_toList
          obtain ⟨pl, hpl⟩ : ∃ pl, pl = p.data.toList := ⟨_, rfl⟩
          obtain ⟨sl, hsl⟩ : ∃ sl, sl = s.data.toList := ⟨_, rfl⟩
          rw [← hpl] at lp e1
          rw [← hsl] at ls e1
          obtain ⟨cs, W1, hc1, B1, lc1, bel1⟩ := conv_str (w.alloc (.cells Z 26)) s
          obtain ⟨cp, W2, hc2, B2, lc2, bel2⟩ := conv_str W1 p
          rw [← hsl] at B1
          rw [← hpl] at B2
          rw [show (w.alloc (.cells Z 26)).heap.size = w.heap.size + 1 by simp] at hc1 B1
          have HB1 : Hid (Bytes W2 (some ⟨w.heap.size + 1, 0, none⟩) sl) := B1.below bel2
          have HB2 := hid B2
          have b2 : Hid (Below w.heap.size w W2) := Below.on' (Below.on' b0.out bel1) bel2
          have x2 : Hid (W2.heap[w.heap.size]? = some (.cells Z 26 (0, 0))) := (bel2.block _ (heap_lt ((bel1.block _ (heap_lt x0.out)).trans x0.out))).trans ((bel1.block _ (heap_lt x0.out)).trans x0.out)
          have Hlp := hid lp
          have Hls := hid ls
          have Hpl := hid hpl
          clear hpl hsl B1 B2 bel1 bel2 x0 b0 bh lp ls
          go_enter Tryd.func17, Tryd.ntmps17
          go_wp2_with (with_reducible show Go.wpList _ _ _ _ _ _; refine wpList_alloc_row rfl 26 rfl Z zh.out ?_)
          refine (refTag_any sumOk sl (some ⟨w.heap.size + 1, 0, none⟩) s.size cs Hls.out.symm HB1.out (fun h => nomatch h) (by have := Hls.out; omega) (by have := Hls.out; omega) pl (some ⟨W1.heap.size, 0, none⟩) p.size cp Hlp.out.symm HB2.out (fun h => nomatch h) (by have := Hlp.out; omega) (by have := Hlp.out; omega)).mono ?_
          rintro _ w3 ⟨O, rfl, hO, hb3⟩
          have HO := hid hO
          have b3 : Hid (Below w.heap.size w w3) := Below.on' b2.out hb3
          have x3 : Hid (w3.heap[w.heap.size]? = some (.cells Z 26 (0, 0))) := (hb3.block _ (heap_lt x2.out)).trans x2.out
          clear hb3 hO b2 x2 HB1 HB2 hc1 hc2
          go_wp2_with (with_reducible show Go.wpList _ _ _ _ _ _; first
            | refine wpList_alloc_row rfl 26 rfl Z zh.out ?_
            | (refine wpList_store_row rfl 26 _ _ rfl w3.heap.size O rfl rfl 26 Z (heap_alloc_new w3 _) HO.out.info (hz.out.size.trans HO.out.size.symm) HO.out.one ?_; rw [World.setRow_alloc_new]))
          have I0 : Hid (IterAt w (w3.alloc (.cells O 26)) w3.heap.size w.heap.size Z (iterN pl sl 0)) :=
            ⟨O, HO.out, heap_alloc_new w3 _, (Below.heap_alloc _ _ _ (heap_lt x3.out)).trans x3.out, b3.out.alloc b3.out.size _⟩
          have Hle : Hid (w.heap.size < w3.heap.size) := heap_lt x3.out
          clear HO b3 x3 zh
          go_loopw [9] (fun i wr => ∃ k : Nat, k ≤ C ∧ i = .int .i64 k ∧ IterAt w wr w3.heap.size w.heap.size Z (iterN pl sl k)) (fun i _ => C - (intOf i).toNat)
          case atStart => exact ⟨0, Nat.zero_le _, rfl, I0.out⟩
          case round =>
            clear I0
            obtain ⟨k, hk, rfl, hI⟩ := hrel
            obtain ⟨O, hO, hg, hr, hb⟩ := hI
            have HO := hid hO
            have Hg := hid hg
            have Hr := hid hr
            have Hb := hid hb
            have hsz := hid hO.info
            clear hO hg hr hb
            by_cases hlt : k < C
            · have q1 : (k : Int) < (C : Int) := by omega
              obtain ⟨cp5, W5, hc5, B5, lc5, bel5⟩ := conv_str wr p
              rw [← Hpl.out] at B5
              have HB5 := hid B5
              have Hg5 : Hid (W5.heap[w3.heap.size]? = some (.cells O 26 (0, 0))) := (bel5.block _ (heap_lt Hg.out)).trans Hg.out
              have Hr5 : Hid (W5.heap[w.heap.size]? = some (.cells Z 26 (0, 0))) := (bel5.block _ (heap_lt Hr.out)).trans Hr.out
              have Hb5 : Hid (Below w.heap.size w W5) := Below.on' Hb.out bel5
              clear B5 bel5
              go_wp2_with (with_reducible show Go.wpList _ _ _ _ _ _; refine wpList_load_row rfl 26 _ rfl w3.heap.size rfl _ _ _ _ Hg5.out Tryd.underlying26 rfl hsz.out ?_)
              refine (bytesOf_any HO.out).mono ?_
              rintro _ w6 ⟨v6, rfl, ho6, hb6⟩
              obtain ⟨a6, c6, rfl, B6, lc6, hn6⟩ := bytes_of_own0 ho6
              have HB6 := hid B6
              have HB56 : Hid (Bytes w6 (some ⟨wr.heap.size, 0, none⟩) pl) := HB5.out.below hb6
              have Hg6 : Hid (w6.heap[w3.heap.size]? = some (.cells O 26 (0, 0))) := (hb6.block _ (heap_lt Hg5.out)).trans Hg5.out
              have Hr6 : Hid (w6.heap[w.heap.size]? = some (.cells Z 26 (0, 0))) := (hb6.block _ (heap_lt Hr5.out)).trans Hr5.out
              have Hb6 : Hid (Below w.heap.size w w6) := Below.on' Hb5.out hb6
              have Hn6 := hid hn6
              clear ho6 hb6 B6 Hg5 Hr5 Hb5 HB5 hc5 hn6
              go_wp2_with fail
              refine (refTag_any sumOk pl (some ⟨wr.heap.size, 0, none⟩) p.size cp5 Hlp.out.symm HB56.out (fun h => nomatch h) (by have := Hlp.out; omega) (by have := Hlp.out; omega) (iterN pl sl k) a6 (iterN pl sl k).length c6 rfl HB6.out Hn6.out (by rw [iterN_length]; omega) lc6).mono ?_
              rintro _ w4 ⟨O2, rfl, hO2, hb4⟩
              have HO2 := hid hO2
              have Hg4 : Hid (w4.heap[w3.heap.size]? = some (.cells O 26 (0, 0))) := (hb4.block _ (heap_lt Hg6.out)).trans Hg6.out
              have Hr4 : Hid (w4.heap[w.heap.size]? = some (.cells Z 26 (0, 0))) := (hb4.block _ (heap_lt Hr6.out)).trans Hr6.out
              have Hb4 : Hid (Below w.heap.size w w4) := Below.on' Hb6.out hb4
              clear hO2 hb4 Hg6 Hr6 Hb6
              go_wp2_with (with_reducible show Go.wpList _ _ _ _ _ _; refine wpList_store_row rfl 26 _ _ rfl w3.heap.size O2 rfl rfl 26 O Hg4.out HO2.out.info (HO.out.size.trans HO2.out.size.symm) HO2.out.one ?_)
              go_roundw
              case rel =>
                refine ⟨k + 1, by omega, by go_num, ⟨O2, HO2.out, setRow_heap _ _ _ _ _ _ Hg4.out, (setRow_other _ _ _ _ (by have := Hle.out; omega)).trans Hr4.out, Hb4.out.setRow (by have := Hle.out; omega) _⟩⟩
              case measure => simp [intOf]; omega
            · have q1 : ¬ (k : Int) < (C : Int) := by omega
              obtain rfl : k = C := by omega
              have hso : Hid (Z.size = O.size) := hz.out.size.trans HO.out.size.symm
              have ho1 := hid HO.out.one
              go_wp2_with (with_reducible show Go.wpList _ _ _ _ _ _; first
                | refine wpList_load_row rfl 26 _ rfl w3.heap.size rfl _ _ _ _ Hg.out Tryd.underlying26 rfl hsz.out ?_
                | refine wpList_store_row rfl 26 _ _ rfl w.heap.size O rfl rfl 26 Z Hr.out hsz.out hso.out ho1.out ?_)
              show bodyPost _ _ _ _ _ _
              refine bodyPost_ret (results_row_tmp rfl _ _ w.heap.size 26 O (0, 0) _ rfl (setRow_heap _ _ _ _ _ _ Hr.out) Tryd.underlying26 rfl hsz.out) rfl ?_
              rw [e1.out.1, e1.out.2]
              exact ⟨O, rfl, HO.out, Hb.out.setRow (by omega) _⟩
end Go.Proofs.YtfiaefagnkmpoaaDoor
