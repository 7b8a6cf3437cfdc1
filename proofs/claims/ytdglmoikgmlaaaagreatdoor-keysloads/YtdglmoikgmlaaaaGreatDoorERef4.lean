/- The reference's Open. -/
import Derived.Test.YtdglmoikgmlaaaaGreatDoorERef3
namespace Go.Proofs.YtdglmoikgmlaaaaGreatDoor
open Go.RowKit
set_option linter.unusedVariables false
set_option maxRecDepth 20000
theorem hf_tag8r : ∀ (args : Array Value) (w : World), (callFunc 67 args).run Tryz.prog w = .ok (.enter 67 args) w := fun args w => by simp [go_sem]
theorem hf_same01r : ∀ (args : Array Value) (w : World), (callFunc 19 args).run Tryz.prog w = .ok (.enter 19 args) w := fun args w => by simp [go_sem]
theorem bytes_dropr {w : World} {g o : Nat} {l : List UInt8} (h : Bytes w (some ⟨g, o, none⟩) l) (n : Nat) : Bytes w (some ⟨g, o + n, none⟩) (l.drop n) := fun i hi => by
  have h1 : n + i < l.length := by simp at hi; omega
  obtain ⟨b, q, e, hc⟩ := h (n + i) h1
  cases e
  refine ⟨g, o + n, rfl, ?_⟩
  rw [Nat.add_assoc, hc]
  simp
set_option maxHeartbeats 400000 in
theorem refOpen_bad {w : World} {K : Array Value} {key : List UInt8} (hK : HV K key) (a : Option Addr) (n cap : Nat) (hn : n < 24 ∨ 1048 < n) :
    Calls Tryz.prog 48 #[.agg K, .slice a n cap] w fun e w' => e = .returned (.tuple #[.slice none 0 0, .int .u64 0, .int .i64 (if n < 24 then 3 else 6)]) ∧ Below w.heap.size w w' := by
  have b0 : Hid (Below w.heap.size w (w.alloc (.cells K 23))) := (Below.refl _ w).alloc (Nat.le_refl _) _
  have hinf : (Tryz.prog.info? 23).map (·.size) = some K.size := hK.info
  by_cases h : n < 24
  · rw [if_pos h]
    have d1 : (n : Int) < 24 := by omega
    clear hn
    go_enter Tryz.func48, Tryz.ntmps48
    go_wp2
    go_ret3
    exact ⟨rfl, b0.out⟩
  · rw [if_neg h]
    have d1 : ¬ (n : Int) < 24 := by omega
    have d2 : (1048 : Int) < (n : Int) := by omega
    clear hn
    go_enter Tryz.func48, Tryz.ntmps48
    go_wp2
    go_ret3
    exact ⟨rfl, b0.out⟩
set_option maxHeartbeats 4000000 in
theorem refOpen_wrong {w : World} {K : Array Value} {key : List UInt8} (hK : HV K key) (SB : List UInt8) (ab ao N cap : Nat) (hN : N = SB.length) (hB : Bytes w (some ⟨ab, ao, none⟩) SB) (h24 : 24 ≤ N) (h48 : N ≤ 1048) (hcap : N ≤ cap) (hD : SB.drop (N - 16) ≠ tagB key (SB.take (N - 16))) :
    Calls Tryz.prog 48 #[.agg K, .slice (some ⟨ab, ao, none⟩) N cap] w fun e w' => e = .returned (.tuple #[.slice none 0 0, .int .u64 0, .int .i64 10]) ∧ Below w.heap.size w w' := by
  have HK := hid hK
  have HSB : Hid (SB.length = N) := hN.symm
  have hinf : (Tryz.prog.info? 23).map (·.size) = some K.size := hK.info
  have d1 : ¬ (N : Int) < 24 := by omega
  have d2 : ¬ (1048 : Int) < (N : Int) := by omega
  obtain ⟨M, hM⟩ : ∃ M, M = N - 16 := ⟨_, rfl⟩
  rw [← hM] at hD
  have hMlt : M < N := by omega
  have hMc : M ≤ cap := by omega
  have hM16 : (N : Int) - 16 = (M : Int) := by omega
  have HD := hid hD
  obtain ⟨W5, hW5⟩ : ∃ W5, W5 = w.alloc (.cells K 23) := ⟨_, rfl⟩
  have b5 : Hid (Below w.heap.size w W5) := by show Below _ _ _; rw [hW5]; exact (Below.refl _ w).alloc (Nat.le_refl _) _
  have s5 : W5.drew.heap[w.heap.size]? = some (.cells K 23 (0, 0)) := by rw [hW5]; exact heap_alloc_new w _
  have HB5 : Hid (Bytes W5 (some ⟨ab, ao, none⟩) SB) := hB.below b5.out
  have HW5 := hid hW5.symm
  clear hK hB hN hD hM hW5
  go_enter Tryz.func48, Tryz.ntmps48
  go_wp2_with fail
  rw [HW5.out]
  refine wp_region_held (S := fun w9 => w9.heap[w.heap.size]? = some (.cells K 23 (0, 0))) (by kernel_rfl) ?_
  refine wpAnyH_take (i := 0) (v := .agg K) rfl (by kernel_rfl) (by kernel_rfl) (by kernel_rfl) (fun _ _ _ h => h) (y_loadK (by simp [Region.wanted]) (.tmp 2) rfl w.heap.size HK.out rfl (fun _ h => h)) s5 ?_
  show wpAnyH _ _ _ _ _ _ _ (Act.put _ (some 20) _) _
  simp only [Act.put, List.setIfInBounds_toArray, List.set_cons_zero, List.set_cons_succ]
  refine wpAnyH_take (i := 1) (v := .slice (some ⟨ab, ao, none⟩) N cap) rfl (by kernel_rfl) (by kernel_rfl) (by kernel_rfl) (fun _ _ _ h => h) (yields_move (by simp [Region.wanted]) (.tmp 1) rfl _ rfl) s5 ?_
  show wpAnyH _ _ _ _ _ _ _ (Act.put _ (some 21) _) _
  simp only [Act.put, List.setIfInBounds_toArray, List.set_cons_zero, List.set_cons_succ]
  refine wpAnyH_take (i := 2) (v := .int .i64 (N : Int)) rfl (by kernel_rfl) (by kernel_rfl) (by kernel_rfl) (fun _ _ _ h => h) (yields_move (by simp [Region.wanted]) (.tmp 7) rfl _ rfl) s5 ?_
  show wpAnyH _ _ _ _ _ _ _ (Act.put _ (some 22) _) _
  simp only [Act.put, List.setIfInBounds_toArray, List.set_cons_zero, List.set_cons_succ]
  refine wpAnyH_take (i := 3) (v := .int .i64 (M : Int)) rfl (by kernel_rfl) (by kernel_rfl) (by kernel_rfl) (fun _ _ _ h => h) (y_subi (by simp [Region.wanted]) (.tmp 22) (.const (.int .i64 16)) rfl (N : Int) 16 _ rfl rfl (by rw [IntKind.wrap_i64]; omega)) s5 ?_
  show wpAnyH _ _ _ _ _ _ _ (Act.put _ (some 23) _) _
  simp only [Act.put, List.setIfInBounds_toArray, List.set_cons_zero, List.set_cons_succ]
  refine wpAnyH_take (i := 4) (v := .slice (some ⟨ab, ao, none⟩) M cap) rfl (by kernel_rfl) (by kernel_rfl) (by kernel_rfl) (fun _ _ _ h => h) (y_upto (by simp [Region.wanted]) (.tmp 21) 23 rfl ab ao N cap M rfl rfl (by omega)) s5 ?_
  show wpAnyH _ _ _ _ _ _ _ (Act.put _ (some 24) _) _
  simp only [Act.put, List.setIfInBounds_toArray, List.set_cons_zero, List.set_cons_succ]
  refine wpAnyH_take (i := 6) (v := .slice (some ⟨ab, ao, none⟩) N cap) rfl (by kernel_rfl) (by kernel_rfl) (by kernel_rfl) (fun _ _ _ h => h) (yields_move (by simp [Region.wanted]) (.tmp 1) rfl _ rfl) s5 ?_
  show wpAnyH _ _ _ _ _ _ _ (Act.put _ (some 26) _) _
  simp only [Act.put, List.setIfInBounds_toArray, List.set_cons_zero, List.set_cons_succ]
  refine wpAnyH_take (i := 7) (v := .int .i64 (N : Int)) rfl (by kernel_rfl) (by kernel_rfl) (by kernel_rfl) (fun _ _ _ h => h) (yields_move (by simp [Region.wanted]) (.tmp 7) rfl _ rfl) s5 ?_
  show wpAnyH _ _ _ _ _ _ _ (Act.put _ (some 27) _) _
  simp only [Act.put, List.setIfInBounds_toArray, List.set_cons_zero, List.set_cons_succ]
  refine wpAnyH_take (i := 8) (v := .int .i64 (M : Int)) rfl (by kernel_rfl) (by kernel_rfl) (by kernel_rfl) (fun _ _ _ h => h) (y_subi (by simp [Region.wanted]) (.tmp 27) (.const (.int .i64 16)) rfl (N : Int) 16 _ rfl rfl (by rw [IntKind.wrap_i64]; omega)) s5 ?_
  show wpAnyH _ _ _ _ _ _ _ (Act.put _ (some 28) _) _
  simp only [Act.put, List.setIfInBounds_toArray, List.set_cons_zero, List.set_cons_succ]
  refine wpAnyH_take (i := 9) (v := .slice (some ⟨ab, ao + M, none⟩) (N - M) (cap - M)) rfl (by kernel_rfl) (by kernel_rfl) (by kernel_rfl) (fun _ _ _ h => h) (y_from (by simp [Region.wanted]) (.tmp 26) 28 rfl ab ao N cap M rfl rfl (by omega) (by omega)) s5 ?_
  show wpAnyH _ _ _ _ _ _ _ (Act.put _ (some 29) _) _
  simp only [Act.put, List.setIfInBounds_toArray, List.set_cons_zero, List.set_cons_succ]
  refine wpAnyH_all (rs := [5]) (by kernel_rfl) (by simp) fun i hmem => ?_
  obtain rfl : i = 5 := by simpa using hmem
  refine wpOp_own rfl rfl fun K' hK' => ?_
  refine wp_calls2 67 hf_tag8r _ _ _ rfl (.agg K) (.slice (some ⟨ab, ao, none⟩) M cap) rfl rfl ?_
  refine (refTag8_any HK.out (SB.take M) (some ⟨ab, ao, none⟩) M cap (by rw [List.length_take]; have := HSB.out; omega) (bytes_take (HB5.out.below ((Below.refl _ _).drew)) M) (fun h => nomatch h) (by rw [List.length_take]; have := HSB.out; omega)).mono ?_
  rintro _ W6 ⟨g6, c6, rfl, lc6, hg6, B6, hb6⟩
  have b6 : Below W5.heap.size W5 W6 := ((Below.refl _ W5).drew).trans hb6
  have s6 := (hb6.block _ (heap_lt s5)).trans s5
  refine ⟨_, rfl, hK' _ _ ⟨s6, ?_⟩⟩
  clear hK' K' hmem
  show wpAnyH _ _ _ _ _ _ _ (Act.put _ (some 25) _) _
  simp only [Act.put, List.setIfInBounds_toArray, List.set_cons_zero, List.set_cons_succ]
  refine wpAnyH_all (rs := [10]) (by kernel_rfl) (by simp) fun i hmem => ?_
  obtain rfl : i = 10 := by simpa using hmem
  refine wpOp_own rfl rfl fun K' hK' => ?_
  refine wp_calls2 19 hf_same01r _ _ _ rfl (.slice (some ⟨g6, 0, none⟩) 16 c6) (.slice (some ⟨ab, ao + M, none⟩) (N - M) (cap - M)) rfl rfl ?_
  have hsame := sameBytes_any (tagB key (SB.take M)) (SB.drop M) (some ⟨g6, 0, none⟩) (some ⟨ab, ao + M, none⟩) c6 (cap - M) W6 B6 (bytes_dropr (HB5.out.below b6) M) (by rw [tagB_len]; omega) (by rw [List.length_drop]; have := HSB.out; omega)
  rw [tagB_len, List.length_drop, show SB.length = N from HSB.out] at hsame
  rw [show decide (tagB key (SB.take M) = SB.drop M) = false from decide_eq_false (fun h => HD.out h.symm)] at hsame
  refine hsame.mono ?_
  rintro _ W7 ⟨rfl, hb7⟩
  have s7 := (hb7.block _ (heap_lt s6)).trans s6
  have b7 : Below w.heap.size w W7 := Below.on' (Below.on' b5.out b6) hb7
  refine ⟨_, rfl, hK' _ _ ⟨s7, ?_⟩⟩
  clear hK' K' hmem
  show wpAnyH _ _ _ _ _ _ _ (Act.put _ (some 30) _) _
  simp only [Act.put, List.setIfInBounds_toArray, List.set_cons_zero, List.set_cons_succ]
  refine wpAnyH_take (i := 11) (v := .bool true) rfl (by kernel_rfl) (by kernel_rfl) (by kernel_rfl) (fun _ _ _ h => h) (Or.inl ⟨by rfl, fun w9 h9 => by go_simp⟩) s7 ?_
  show wpAnyH _ _ _ _ _ _ _ (Act.put _ (some 31) _) _
  simp only [Act.put, List.setIfInBounds_toArray, List.set_cons_zero, List.set_cons_succ]
  refine wpAnyH_done (by kernel_rfl) ?_ _
  have B7 := hid b7
  clear b7 b6 s7 s6 s5 hb7 hb6 hsame B6
  go_wp2
  go_ret3
  exact ⟨rfl, B7.out⟩
set_option maxHeartbeats 8000000 in
theorem refOpen_right {w : World} {K : Array Value} {key : List UInt8} (hK : HV K key) (SB : List UInt8) (ab ao N cap : Nat) (hN : N = SB.length) (hB : Bytes w (some ⟨ab, ao, none⟩) SB) (h24 : 24 ≤ N) (h48 : N ≤ 1048) (hcap : N ≤ cap) (hD : SB.drop (N - 16) = tagB key (SB.take (N - 16))) :
    Calls Tryz.prog 48 #[.agg K, .slice (some ⟨ab, ao, none⟩) N cap] w fun e w' => ∃ a c, e = .returned (.tuple #[.slice a (N - 24) c, .int .u64 (numB (SB.take 8) : Int), .int .i64 0]) ∧ Bytes w' a (cross key (numB (SB.take 8)) ((SB.take (N - 16)).drop 8)) ∧ Below w.heap.size w w' := by
  have HK := hid hK
  have HSB : Hid (SB.length = N) := hN.symm
  have hinf : (Tryz.prog.info? 23).map (·.size) = some K.size := hK.info
  have d1 : ¬ (N : Int) < 24 := by omega
  have d2 : ¬ (1048 : Int) < (N : Int) := by omega
  obtain ⟨M, hM⟩ : ∃ M, M = N - 16 := ⟨_, rfl⟩
  obtain ⟨T, hT⟩ : ∃ T, T = N - 24 := ⟨_, rfl⟩
  obtain ⟨TX, hTX⟩ : ∃ TX, TX = (SB.take (N - 16)).drop 8 := ⟨_, rfl⟩
  have lTX : TX.length = T := by rw [hTX, List.length_drop, List.length_take, ← hN]; omega
  have getTX : ∀ k (h : k < TX.length) (h2 : 8 + k < SB.length), SB[8 + k]'h2 = TX[k]'h := fun k h h2 => by
    subst hTX
    rw [List.getElem_drop, List.getElem_take]
  rw [← hT, ← hTX]
  rw [← hM] at hD
  have hMlt : M < N := by omega
  have hMc : M ≤ cap := by omega
  have hM16 : (N : Int) - 16 = (M : Int) := by omega
  have hT24 : (N : Int) - 24 = (T : Int) := by omega
  have hT1024 : T ≤ 1024 := by omega
  have HTN : Hid (T + 24 = N) := by show _ = _; omega
  have HD := hid hD
  have HlTX := hid lTX
  have HgTX := hid getTX
  obtain ⟨num, hnum⟩ : ∃ num, num = numB (SB.take 8) := ⟨_, rfl⟩
  have Hnum := hid hnum
  rw [← hnum]
  obtain ⟨W5, hW5⟩ : ∃ W5, W5 = w.alloc (.cells K 23) := ⟨_, rfl⟩
  have b5 : Hid (Below w.heap.size w W5) := by show Below _ _ _; rw [hW5]; exact (Below.refl _ w).alloc (Nat.le_refl _) _
  have s5 : W5.drew.heap[w.heap.size]? = some (.cells K 23 (0, 0)) := by rw [hW5]; exact heap_alloc_new w _
  have HB5 : Hid (Bytes W5 (some ⟨ab, ao, none⟩) SB) := hB.below b5.out
  have HW5 := hid hW5.symm
  clear hK hB hN hD hM hW5 hT hTX lTX getTX hnum
  go_enter Tryz.func48, Tryz.ntmps48
  go_wp2_with fail
  rw [HW5.out]
  refine wp_region_held (S := fun w9 => w9.heap[w.heap.size]? = some (.cells K 23 (0, 0))) (by kernel_rfl) ?_
  refine wpAnyH_take (i := 0) (v := .agg K) rfl (by kernel_rfl) (by kernel_rfl) (by kernel_rfl) (fun _ _ _ h => h) (y_loadK (by simp [Region.wanted]) (.tmp 2) rfl w.heap.size HK.out rfl (fun _ h => h)) s5 ?_
  show wpAnyH _ _ _ _ _ _ _ (Act.put _ (some 20) _) _
  simp only [Act.put, List.setIfInBounds_toArray, List.set_cons_zero, List.set_cons_succ]
  refine wpAnyH_take (i := 1) (v := .slice (some ⟨ab, ao, none⟩) N cap) rfl (by kernel_rfl) (by kernel_rfl) (by kernel_rfl) (fun _ _ _ h => h) (yields_move (by simp [Region.wanted]) (.tmp 1) rfl _ rfl) s5 ?_
  show wpAnyH _ _ _ _ _ _ _ (Act.put _ (some 21) _) _
  simp only [Act.put, List.setIfInBounds_toArray, List.set_cons_zero, List.set_cons_succ]
  refine wpAnyH_take (i := 2) (v := .int .i64 (N : Int)) rfl (by kernel_rfl) (by kernel_rfl) (by kernel_rfl) (fun _ _ _ h => h) (yields_move (by simp [Region.wanted]) (.tmp 7) rfl _ rfl) s5 ?_
  show wpAnyH _ _ _ _ _ _ _ (Act.put _ (some 22) _) _
  simp only [Act.put, List.setIfInBounds_toArray, List.set_cons_zero, List.set_cons_succ]
  refine wpAnyH_take (i := 3) (v := .int .i64 (M : Int)) rfl (by kernel_rfl) (by kernel_rfl) (by kernel_rfl) (fun _ _ _ h => h) (y_subi (by simp [Region.wanted]) (.tmp 22) (.const (.int .i64 16)) rfl (N : Int) 16 _ rfl rfl (by rw [IntKind.wrap_i64]; omega)) s5 ?_
  show wpAnyH _ _ _ _ _ _ _ (Act.put _ (some 23) _) _
  simp only [Act.put, List.setIfInBounds_toArray, List.set_cons_zero, List.set_cons_succ]
  refine wpAnyH_take (i := 4) (v := .slice (some ⟨ab, ao, none⟩) M cap) rfl (by kernel_rfl) (by kernel_rfl) (by kernel_rfl) (fun _ _ _ h => h) (y_upto (by simp [Region.wanted]) (.tmp 21) 23 rfl ab ao N cap M rfl rfl (by omega)) s5 ?_
  show wpAnyH _ _ _ _ _ _ _ (Act.put _ (some 24) _) _
  simp only [Act.put, List.setIfInBounds_toArray, List.set_cons_zero, List.set_cons_succ]
  refine wpAnyH_take (i := 6) (v := .slice (some ⟨ab, ao, none⟩) N cap) rfl (by kernel_rfl) (by kernel_rfl) (by kernel_rfl) (fun _ _ _ h => h) (yields_move (by simp [Region.wanted]) (.tmp 1) rfl _ rfl) s5 ?_
  show wpAnyH _ _ _ _ _ _ _ (Act.put _ (some 26) _) _
  simp only [Act.put, List.setIfInBounds_toArray, List.set_cons_zero, List.set_cons_succ]
  refine wpAnyH_take (i := 7) (v := .int .i64 (N : Int)) rfl (by kernel_rfl) (by kernel_rfl) (by kernel_rfl) (fun _ _ _ h => h) (yields_move (by simp [Region.wanted]) (.tmp 7) rfl _ rfl) s5 ?_
  show wpAnyH _ _ _ _ _ _ _ (Act.put _ (some 27) _) _
  simp only [Act.put, List.setIfInBounds_toArray, List.set_cons_zero, List.set_cons_succ]
  refine wpAnyH_take (i := 8) (v := .int .i64 (M : Int)) rfl (by kernel_rfl) (by kernel_rfl) (by kernel_rfl) (fun _ _ _ h => h) (y_subi (by simp [Region.wanted]) (.tmp 27) (.const (.int .i64 16)) rfl (N : Int) 16 _ rfl rfl (by rw [IntKind.wrap_i64]; omega)) s5 ?_
  show wpAnyH _ _ _ _ _ _ _ (Act.put _ (some 28) _) _
  simp only [Act.put, List.setIfInBounds_toArray, List.set_cons_zero, List.set_cons_succ]
  refine wpAnyH_take (i := 9) (v := .slice (some ⟨ab, ao + M, none⟩) (N - M) (cap - M)) rfl (by kernel_rfl) (by kernel_rfl) (by kernel_rfl) (fun _ _ _ h => h) (y_from (by simp [Region.wanted]) (.tmp 26) 28 rfl ab ao N cap M rfl rfl (by omega) (by omega)) s5 ?_
  show wpAnyH _ _ _ _ _ _ _ (Act.put _ (some 29) _) _
  simp only [Act.put, List.setIfInBounds_toArray, List.set_cons_zero, List.set_cons_succ]
  refine wpAnyH_all (rs := [5]) (by kernel_rfl) (by simp) fun i hmem => ?_
  obtain rfl : i = 5 := by simpa using hmem
  refine wpOp_own rfl rfl fun K' hK' => ?_
  refine wp_calls2 67 hf_tag8r _ _ _ rfl (.agg K) (.slice (some ⟨ab, ao, none⟩) M cap) rfl rfl ?_
  refine (refTag8_any HK.out (SB.take M) (some ⟨ab, ao, none⟩) M cap (by rw [List.length_take]; have := HSB.out; omega) (bytes_take (HB5.out.below ((Below.refl _ _).drew)) M) (fun h => nomatch h) (by rw [List.length_take]; have := HSB.out; omega)).mono ?_
  rintro _ W6 ⟨g6, c6, rfl, lc6, hg6, B6, hb6⟩
  have b6 : Below W5.heap.size W5 W6 := ((Below.refl _ W5).drew).trans hb6
  have s6 := (hb6.block _ (heap_lt s5)).trans s5
  refine ⟨_, rfl, hK' _ _ ⟨s6, ?_⟩⟩
  clear hK' K' hmem
  show wpAnyH _ _ _ _ _ _ _ (Act.put _ (some 25) _) _
  simp only [Act.put, List.setIfInBounds_toArray, List.set_cons_zero, List.set_cons_succ]
  refine wpAnyH_all (rs := [10]) (by kernel_rfl) (by simp) fun i hmem => ?_
  obtain rfl : i = 10 := by simpa using hmem
  refine wpOp_own rfl rfl fun K' hK' => ?_
  refine wp_calls2 19 hf_same01r _ _ _ rfl (.slice (some ⟨g6, 0, none⟩) 16 c6) (.slice (some ⟨ab, ao + M, none⟩) (N - M) (cap - M)) rfl rfl ?_
  have hsame := sameBytes_any (tagB key (SB.take M)) (SB.drop M) (some ⟨g6, 0, none⟩) (some ⟨ab, ao + M, none⟩) c6 (cap - M) W6 B6 (bytes_dropr (HB5.out.below b6) M) (by rw [tagB_len]; omega) (by rw [List.length_drop]; have := HSB.out; omega)
  rw [tagB_len, List.length_drop, show SB.length = N from HSB.out] at hsame
  rw [show decide (tagB key (SB.take M) = SB.drop M) = true from decide_eq_true HD.out.symm] at hsame
  refine hsame.mono ?_
  rintro _ W7 ⟨rfl, hb7⟩
  have s7 := (hb7.block _ (heap_lt s6)).trans s6
  have b7 : Below w.heap.size w W7 := Below.on' (Below.on' b5.out b6) hb7
  refine ⟨_, rfl, hK' _ _ ⟨s7, ?_⟩⟩
  clear hK' K' hmem
  show wpAnyH _ _ _ _ _ _ _ (Act.put _ (some 30) _) _
  simp only [Act.put, List.setIfInBounds_toArray, List.set_cons_zero, List.set_cons_succ]
  refine wpAnyH_take (i := 11) (v := .bool false) rfl (by kernel_rfl) (by kernel_rfl) (by kernel_rfl) (fun _ _ _ h => h) (Or.inl ⟨by rfl, fun w9 h9 => by go_simp⟩) s7 ?_
  show wpAnyH _ _ _ _ _ _ _ (Act.put _ (some 31) _) _
  simp only [Act.put, List.setIfInBounds_toArray, List.set_cons_zero, List.set_cons_succ]
  refine wpAnyH_done (by kernel_rfl) ?_ _
  have B7 := hid b7
  have k7 := hid s7
  have HB7 : Hid (Bytes W7 (some ⟨ab, ao, none⟩) SB) := HB5.out.below (Below.on' b6 hb7)
  clear b7 b6 s7 s6 s5 hb7 hb6 hsame B6 HB5 b5
  go_wp2_with fail
  go_loopw [8, 9] (fun v8 v9 wr => ∃ k : Nat, k ≤ 8 ∧ v9 = .int .i64 (k : Int) ∧ v8 = .int .u64 (numB (SB.take k) : Int) ∧ Below W7.heap.size W7 wr) (fun _ v9 _ => 8 - (intOf v9).toNat)
  case atStart => exact ⟨0, by omega, rfl, rfl, Below.refl _ _⟩
  case round =>
    obtain ⟨k, hk, rfl, rfl, hbel⟩ := hrel
    have Hbel := hid hbel
    clear hbel
    by_cases hlt : k < 8
    · have hkS : k < SB.length := by have := HSB.out; omega
      obtain ⟨b, o, ha, hc⟩ := (HB7.out.below Hbel.out) k hkS
      cases ha
      have Hst := hid (numB_step SB k hkS)
      have Hor := hid (or_low (numB (SB.take k)) (SB[k]'hkS))
      generalize numB (SB.take k) = m at *
      generalize SB[k]'hkS = c at *
      have q1 : IntKind.u64.wrap ((m : Int) * 256) = ((m * 256 % 2 ^ 64 : Nat) : Int) := by rw [IntKind.wrap_u64]; omega
      have q2 : ((m : Int) * 256) % 18446744073709551616 = ((m * 256 % 2 ^ 64 : Nat) : Int) := by omega
      have q3 : IntKind.u64.wrap (c.toNat : Int) = (c.toNat : Int) := by have := c.toNat_lt; rw [IntKind.wrap_u64]; omega
      have q4 : (c.toNat : Int) % 18446744073709551616 = (c.toNat : Int) := by have := c.toNat_lt; omega
      have kN : (k : Int) < (N : Int) := by omega
      generalize m * 256 % 2 ^ 64 = x at *
      have q5 := Hor.out
      generalize (m * 256 + c.toNat) % 2 ^ 64 = y at *
      clear Hor
      go_wp2
      go_roundw
      case rel => exact ⟨k + 1, by omega, by go_num, by rw [Hst.out], Hbel.out⟩
      case measure => simp [intOf]; omega
    · have hk8 : k = 8 := by omega
      rw [hk8, ← Hnum.out]
      have x8 : Hid (wr.heap[w.heap.size]? = some (.cells K 23 (0, 0))) := (Hbel.out.block _ (heap_lt k7.out)).trans k7.out
      have b8 : Hid (Below w.heap.size w wr) := Below.on' B7.out Hbel.out
      have HB8 : Hid (Bytes wr (some ⟨ab, ao, none⟩) SB) := HB7.out.below Hbel.out
      clear hk8 hk hlt HB7 B7 k7 Hbel
      go_wp2_with (with_reducible show Go.wpList _ _ _ _ _ _; refine wpList_load_row rfl 23 _ rfl w.heap.size rfl _ _ _ _ x8.out Tryz.underlying23 rfl hinf ?_)
      refine (refStream_any HK.out num T hT1024).mono ?_
      rintro _ W1 ⟨a2, c2, rfl, B2, lc2, hn2, hb1⟩
      have HB2 := hid B2
      have b1 : Hid (Below w.heap.size w W1) := Below.on' b8.out hb1
      have HB1 : Hid (Bytes W1 (some ⟨ab, ao, none⟩) SB) := HB8.out.below hb1
      obtain ⟨B0, hB0⟩ : ∃ B0, B0 = W1.heap.size := ⟨_, rfl⟩
      have HB0 := hid hB0
      have hwB : w.heap.size ≤ B0 := by rw [hB0]; exact b1.out.size
      clear hb1 B2 hn2 x8 b8 HB8 hB0
      go_wp2_with fail
      go_loopw [12, 13] (fun v12 v13 wr => ∃ k : Nat, k ≤ T ∧ v13 = .int .i64 (k : Int) ∧ wr.ownsRow B0 5 1 v12 ((cross key num TX).take k).length (cellsOf ((cross key num TX).take k)) ∧ Below B0 W1 wr) (fun _ v13 _ => T - (intOf v13).toNat)
      case atStart => exact ⟨0, Nat.zero_le _, rfl, World.ownsRow_nil _ _ _ _, Below.refl _ _⟩
      case round =>
        obtain ⟨k, hk, rfl, hown, hbel⟩ := hrel
        have Hown := hid hown
        have Hbel := hid hbel
        have Hbig : Hid (B0 ≤ wr.heap.size) := (by have := hbel.size; have := HB0.out; show _ ≤ _; omega)
        have Hlen : Hid (((cross key num TX).take k).length = k) := (by show _ = _; rw [List.length_take, cross_len]; have := HlTX.out; omega)
        clear hown hbel
        by_cases hlt : k < T
        · have e1 : (k : Int) < (T : Int) := by omega
          have hkp : k < TX.length := by have := HlTX.out; omega
          have hkS : 8 + k < SB.length := by have := HSB.out; have := HTN.out; omega
          have hkx : k < ((strm key num (nblk T)).take T).length := by rw [List.length_take, strm_len, nblk]; omega
          obtain ⟨b1', o1', e1', hc1⟩ := HB1.out (8 + k) hkS
          obtain ⟨b2, o2, e2', hc2⟩ := HB2.out k hkx
          cases e1'
          subst e2'
          have l1 : ab < B0 := by rw [HB0.out]; exact World.block_lt_of_cell? _ _ hc1
          have l2 : b2 < B0 := by rw [HB0.out]; exact World.block_lt_of_cell? _ _ hc2
          have Hstep := hid (cross_step key num TX k hkp)
          have hQ : ((strm key num (nblk TX.length)).take TX.length)[k]'(by rw [List.length_take, strm_len, nblk]; omega) = ((strm key num (nblk T)).take T)[k]'hkx := by simp only [HlTX.out]
          rw [hQ, ← HgTX.out k hkp hkS] at Hstep
          generalize ((strm key num (nblk T)).take T)[k]'hkx = Q at hc2 Hstep
          generalize SB[8 + k]'hkS = P at hc1 Hstep
          have s8 : wr.drew.cell? ⟨ab, ao + (8 + k), none⟩ = some (.int .u8 (P.toNat : Int)) ∧ wr.drew.cell? ⟨b2, o2 + k, none⟩ = some (.int .u8 (Q.toNat : Int)) :=
            ⟨(Hbel.out.drew.cell l1).trans hc1, (Hbel.out.drew.cell l2).trans hc2⟩
          have Hlt : Hid ((⟨ab, ao + (8 + k), none⟩ : Addr).block < B0 ∧ (⟨b2, o2 + k, none⟩ : Addr).block < B0) := ⟨l1, l2⟩
          have kN : 8 + k < N := by have := HTN.out; omega
          clear hc1 hc2 hQ
          go_wp2_with fail
          refine wp_region_held (S := fun w9 => w9.cell? ⟨ab, ao + (8 + k), none⟩ = some (.int .u8 (P.toNat : Int)) ∧ w9.cell? ⟨b2, o2 + k, none⟩ = some (.int .u8 (Q.toNat : Int))) (by kernel_rfl) ?_
          refine wpAnyH_take (i := 0) (v := u12) rfl (by kernel_rfl) (by kernel_rfl) (by kernel_rfl) (fun _ _ _ h => h) (yields_move (by simp [Region.wanted]) (.tmp 12) rfl _ rfl) s8 ?_
          show wpAnyH _ _ _ _ _ _ _ (Act.put _ (some 58) _) _
          simp only [Act.put, List.setIfInBounds_toArray, List.set_cons_zero, List.set_cons_succ]
          refine wpAnyH_take (i := 1) (v := .slice (some ⟨ab, ao, none⟩) N cap) rfl (by kernel_rfl) (by kernel_rfl) (by kernel_rfl) (fun _ _ _ h => h) (yields_move (by simp [Region.wanted]) (.tmp 1) rfl _ rfl) s8 ?_
          show wpAnyH _ _ _ _ _ _ _ (Act.put _ (some 59) _) _
          simp only [Act.put, List.setIfInBounds_toArray, List.set_cons_zero, List.set_cons_succ]
          refine wpAnyH_take (i := 2) (v := .int .i64 (k : Int)) rfl (by kernel_rfl) (by kernel_rfl) (by kernel_rfl) (fun _ _ _ h => h) (yields_move (by simp [Region.wanted]) (.tmp 13) rfl _ rfl) s8 ?_
          show wpAnyH _ _ _ _ _ _ _ (Act.put _ (some 60) _) _
          simp only [Act.put, List.setIfInBounds_toArray, List.set_cons_zero, List.set_cons_succ]
          refine wpAnyH_take (i := 3) (v := .int .i64 ((8 + k : Nat) : Int)) rfl (by kernel_rfl) (by kernel_rfl) (by kernel_rfl) (fun _ _ _ h => h) (y_addiE (by simp [Region.wanted]) (.const (.int .i64 8)) (.tmp 60) rfl 8 (k : Int) _ rfl rfl (by rw [IntKind.wrap_i64]; omega)) s8 ?_
          show wpAnyH _ _ _ _ _ _ _ (Act.put _ (some 61) _) _
          simp only [Act.put, List.setIfInBounds_toArray, List.set_cons_zero, List.set_cons_succ]
          refine wpAnyH_take (i := 4) (v := .pointer (some ⟨ab, ao + (8 + k), none⟩)) rfl (by kernel_rfl) (by kernel_rfl) (by kernel_rfl) (fun _ _ _ h => h) (y_index8 (by simp [Region.wanted]) (.tmp 59) (.tmp 61) rfl ab ao N cap (8 + k) rfl rfl (by omega)) s8 ?_
          show wpAnyH _ _ _ _ _ _ _ (Act.put _ (some 62) _) _
          simp only [Act.put, List.setIfInBounds_toArray, List.set_cons_zero, List.set_cons_succ]
          refine wpAnyH_take (i := 5) (v := .int .u8 (P.toNat : Int)) rfl (by kernel_rfl) (by kernel_rfl) (by kernel_rfl) (fun _ _ _ h => h) (y_load8 (by simp [Region.wanted]) (.tmp 62) rfl ab (ao + (8 + k)) P rfl (fun _ h => h.1)) s8 ?_
          show wpAnyH _ _ _ _ _ _ _ (Act.put _ (some 63) _) _
          simp only [Act.put, List.setIfInBounds_toArray, List.set_cons_zero, List.set_cons_succ]
          refine wpAnyH_take (i := 6) (v := .slice (some ⟨b2, o2, none⟩) T c2) rfl (by kernel_rfl) (by kernel_rfl) (by kernel_rfl) (fun _ _ _ h => h) (yields_move (by simp [Region.wanted]) (.tmp 10) rfl _ rfl) s8 ?_
          show wpAnyH _ _ _ _ _ _ _ (Act.put _ (some 64) _) _
          simp only [Act.put, List.setIfInBounds_toArray, List.set_cons_zero, List.set_cons_succ]
          refine wpAnyH_take (i := 7) (v := .int .i64 (k : Int)) rfl (by kernel_rfl) (by kernel_rfl) (by kernel_rfl) (fun _ _ _ h => h) (yields_move (by simp [Region.wanted]) (.tmp 13) rfl _ rfl) s8 ?_
          show wpAnyH _ _ _ _ _ _ _ (Act.put _ (some 65) _) _
          simp only [Act.put, List.setIfInBounds_toArray, List.set_cons_zero, List.set_cons_succ]
          refine wpAnyH_take (i := 8) (v := .pointer (some ⟨b2, o2 + k, none⟩)) rfl (by kernel_rfl) (by kernel_rfl) (by kernel_rfl) (fun _ _ _ h => h) (y_index8 (by simp [Region.wanted]) (.tmp 64) (.tmp 65) rfl b2 o2 T c2 k rfl rfl (by omega)) s8 ?_
          show wpAnyH _ _ _ _ _ _ _ (Act.put _ (some 66) _) _
          simp only [Act.put, List.setIfInBounds_toArray, List.set_cons_zero, List.set_cons_succ]
          refine wpAnyH_take (i := 9) (v := .int .u8 (Q.toNat : Int)) rfl (by kernel_rfl) (by kernel_rfl) (by kernel_rfl) (fun _ _ _ h => h) (y_load8 (by simp [Region.wanted]) (.tmp 66) rfl b2 (o2 + k) Q rfl (fun _ h => h.2)) s8 ?_
          show wpAnyH _ _ _ _ _ _ _ (Act.put _ (some 67) _) _
          simp only [Act.put, List.setIfInBounds_toArray, List.set_cons_zero, List.set_cons_succ]
          refine wpAnyH_take (i := 10) (v := .int .u8 ((P ^^^ Q).toNat : Int)) rfl (by kernel_rfl) (by kernel_rfl) (by kernel_rfl) (fun _ _ _ h => h) (y_xor8 (by simp [Region.wanted]) (.tmp 63) (.tmp 67) rfl P Q rfl rfl) s8 ?_
          show wpAnyH _ _ _ _ _ _ _ (Act.put _ (some 68) _) _
          simp only [Act.put, List.setIfInBounds_toArray, List.set_cons_zero, List.set_cons_succ]
          refine wpAnyH_all (rs := [11]) (by kernel_rfl) (by simp) fun i hmem => ?_
          obtain rfl : i = 11 := by simpa using hmem
          refine wpOp_own rfl rfl fun K' hK' => ?_
          refine wp_build1 (.tmp 68) rfl (P ^^^ Q) rfl ?_
          refine hK' _ _ ⟨cells_alloc s8 _, ?_⟩
          clear hK' K' hmem
          show wpAnyH _ _ _ _ _ _ _ (Act.put _ (some 69) _) _
          simp only [Act.put, List.setIfInBounds_toArray, List.set_cons_zero, List.set_cons_succ]
          refine wpAnyH_all (rs := [12]) (by kernel_rfl) (by simp) fun i hmem => ?_
          obtain rfl : i = 12 := by simpa using hmem
          refine wpOp_own rfl rfl fun K' hK' => ?_
          refine wp_app1 wr.drew rfl (.tmp 58) (.tmp 69) rfl B0 u12 ((cross key num TX).take k) rfl Hown.out.drew [P ^^^ Q] 1 rfl rfl (by have := Hlen.out; omega) Hbig.out ?_
          intro v9 W9 hown9 hb9
          have s9 := cells_below s8 hb9 Hlt.out
          refine hK' _ _ ⟨s9, ?_⟩
          clear hK' K' hmem
          show wpAnyH _ _ _ _ _ _ _ (Act.put _ (some 70) _) _
          simp only [Act.put, List.setIfInBounds_toArray, List.set_cons_zero, List.set_cons_succ]
          refine wpAnyH_take (i := 13) (v := v9) rfl (by kernel_rfl) (by kernel_rfl) (by kernel_rfl) (fun _ _ _ h => h) (yh_assign (by simp [Region.wanted]) (.tmp 70) rfl _ rfl) s9 ?_
          show wpAnyH _ _ _ _ _ _ _ (Act.put _ (some 12) _) _
          simp only [Act.put, List.setIfInBounds_toArray, List.set_cons_zero, List.set_cons_succ]
          refine wpAnyH_done (by kernel_rfl) ?_ _
          have Hown9 := hid hown9
          have Hb9 := hid hb9
          clear hown9 hb9 s8 s9
          go_wp2_with fail
          go_roundw
          case rel =>
            refine ⟨k + 1, by omega, by go_num, ?_, Hbel.out.drew.trans Hb9.out⟩
            rw [Hstep.out]
            exact Hown9.out
          case measure => simp [intOf]; omega
        · have e1 : ¬ (k : Int) < (T : Int) := by omega
          have hkn : k = T := by omega
          obtain ⟨CR, hCR⟩ : ∃ CR, CR = cross key num TX := ⟨_, rfl⟩
          have hown1 : wr.ownsRow B0 5 1 u12 CR.length (cellsOf CR) := by
            have h := Hown.out
            rw [hkn, List.take_of_length_le (by rw [cross_len, HlTX.out]; omega), ← hCR] at h
            exact h
          have lCR : CR.length = T := by rw [hCR, cross_len]; exact HlTX.out
          obtain ⟨a9, c9, rfl, B9, _, _⟩ := bytes_ofH hown1
          rw [lCR]
          have HB9 := hid B9
          have HCR := hid hCR
          clear hown1 B9 hCR lCR hkn Hown Hlen
          go_wp2
          go_ret3
          have hfin : Bytes wr a9 (cross key num TX) := by rw [← HCR.out]; exact HB9.out
          first
            | exact ⟨a9, c9, rfl, hfin, b1.out.trans (Hbel.out.mono hwB)⟩
            | exact ⟨a9, ⟨c9, rfl⟩, hfin, b1.out.trans (Hbel.out.mono hwB)⟩
end Go.Proofs.YtdglmoikgmlaaaaGreatDoor
