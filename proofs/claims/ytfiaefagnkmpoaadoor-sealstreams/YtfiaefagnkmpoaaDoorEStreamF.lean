/- The stream itself: seal.Stream. -/
import Derived.Test.YtfiaefagnkmpoaaDoorELift
namespace Go.Proofs.YtfiaefagnkmpoaaDoor
open Go.ChangeShapes Go.WideShapes Go.ChangeAt Go.RowKit Go.Shelf
set_option linter.unusedVariables false
set_option maxRecDepth 20000

theorem wp_make8 {o : Oper} {a : Act} {w : World} {K : Act → World → Prop} {Q : Exit → Act → World → Prop} (x : Operand) (ho : o.op = .makeSlice 22 x x) (n : Nat) (hn : n ≤ 1000000) (hx : a.eval x = .int .i64 (n : Int))
    (h : K (a.put o.dst (.slice (some ⟨w.heap.size, 0, none⟩) n n)) (w.alloc (.cells (cellsOf (List.replicate n 0)).toArray 5))) : o.wp Tryd.prog a w K Q := by
  obtain ⟨i0, hi, hz0, hz1, hz2⟩ := info_parts Tryd.info5
  have hr := run_make (P := Tryd.prog) w 22 5 i0 (.int .u8 0) Tryd.underlying22 hi hz0 .i64 .i64 (n : Int) (n : Int) (by omega) (by omega) (by rw [hz2]; omega) (by omega)
  rw [show (n : Int).toNat = n by omega, hz1, Nat.mul_one, made_row] at hr
  unfold Oper.wp execOp
  simp only [ho, hx, Sem.run_bind, hr, Result.andThen_ok, Sem.run_pure]
  exact h

set_option maxHeartbeats 1000000 in
theorem streamF_any {w : World} {K : Array Value} {key : List UInt8} (hK : HV K key) (once n : Nat) (hn : n ≤ 1024) (hT : KAt w) :
    Calls Tryd.prog 27 #[.agg K, .int .u64 (once : Int), .int .i64 (n : Int)] w fun e w' => ∃ v, e = .returned (.tuple #[v, .int .i64 0]) ∧ w'.ownsRow w.heap.size 5 1 v n (cellsOf (cross key once (List.replicate n 0))) ∧ Below w.heap.size w w' := by
  have HK := hid hK
  have HT := hid hT
  have q0 : ¬ (n : Int) < 0 := by omega
  have q1 : ¬ (1024 : Int) < (n : Int) := by omega
  have hinf : (Tryd.prog.info? 26).map (·.size) = some K.size := hK.info
  have lc : (cross key once (List.replicate n 0)).length = n := by rw [cross_len]; simp
  clear hK hT
  go_enter Tryd.func27, Tryd.ntmps27
  go_wp2_with fail
  have hm : Tryd.prog.follows .mixedOrders = true := by kernel_rfl
  obtain ⟨W0, hW0⟩ : ∃ W0, W0 = (w.alloc (.cells K 26)).drew := ⟨_, rfl⟩
  have b0 : Below w.heap.size w W0 := by rw [hW0]; exact ((Below.refl _ w).alloc (Nat.le_refl _) _).drew
  have k0 : W0.heap[w.heap.size]? = some (.cells K 26 (0, 0)) := by rw [hW0]; exact heap_alloc_new w _
  refine wp_act _ fun A hA => ?_
  refine wp_split (fun A' W => ∃ t14 t15 t16 t17 v : Value, A' = ((((((A.put (some 14) t14).put (some 15) t15).put (some 16) t16).put (some 17) t17).put (some 18) v).put (some 6) v).put (some 7) (.int .i64 0) ∧ W.ownsRow w.heap.size 5 1 v n (cellsOf (cross key once (List.replicate n 0))) ∧ Below w.heap.size w W) ?_ ?_
  · have sz : A.tmps.size = 19 := by rw [hA]; rfl
    have e1 : A.eval (.tmp 1) = .int .u64 (once : Int) := by rw [hA]; rfl
    have e2 : A.eval (.tmp 2) = .int .i64 (n : Int) := by rw [hA]; rfl
    have e3 : A.eval (.tmp 3) = .pointer (some ⟨w.heap.size, 0, none⟩) := by rw [hA]; rfl
    refine wp_region_held (S := fun W9 => W9.heap[w.heap.size]? = some (.cells K 26 (0, 0))) hm ?_
    rw [show ({ (w.alloc (.cells K 26)) with drawn := (w.alloc (.cells K 26)).drawn + 1 } : World) = W0 from hW0.symm]
    clear hW0
    refine wpAnyH_take (i := 0) (v := .agg K) rfl (by kernel_rfl) (by kernel_rfl) (by kernel_rfl) (fun _ _ _ h => nomatch h.1) (y_loadK (by simp [Region.wanted]) (.tmp 3) rfl w.heap.size HK.out e3 (fun _ h => h)) k0 ?_
    refine wpAnyH_take (i := 1) (v := .int .u64 (once : Int)) rfl (by kernel_rfl) (by kernel_rfl) (by kernel_rfl) (fun _ _ _ h => nomatch h.1) (yields_move (by simp [Region.wanted]) (.tmp 1) rfl _ ((ev_ne _ _ (by decide)).trans e1)) k0 ?_
    refine wpAnyH_take (i := 2) (v := .int .i64 (n : Int)) rfl (by kernel_rfl) (by kernel_rfl) (by kernel_rfl) (fun _ _ _ h => nomatch h.1) (yields_move (by simp [Region.wanted]) (.tmp 2) rfl _ ((ev_ne _ _ (by decide)).trans ((ev_ne _ _ (by decide)).trans e2))) k0 ?_
    obtain ⟨A2, hA2⟩ : ∃ A2, A2 = ((A.put (some 14) (.agg K)).put (some 15) (.int .u64 (once : Int))).put (some 16) (.int .i64 (n : Int)) := ⟨_, rfl⟩
    show wpAnyH _ _ _ _ _ _ _ (((A.put (some 14) (.agg K)).put (some 15) (.int .u64 (once : Int))).put (some 16) (.int .i64 (n : Int))) _
    have z2 : A2.tmps.size = 19 := by rw [hA2]; simp [put_sz, sz]
    have z14 : A2.eval (.tmp 14) = .agg K := by rw [hA2]; exact (ev_ne _ _ (by decide)).trans ((ev_ne _ _ (by decide)).trans (ev_eq _ _ (by simp [sz])))
    have z15 : A2.eval (.tmp 15) = .int .u64 (once : Int) := by rw [hA2]; exact (ev_ne _ _ (by decide)).trans (ev_eq _ _ (by simp [put_sz, sz]))
    have z16 : A2.eval (.tmp 16) = .int .i64 (n : Int) := by rw [hA2]; exact ev_eq _ _ (by simp [put_sz, sz])
    rw [← hA2]
    refine wpAnyH_all (rs := [3]) (by kernel_rfl) (by simp) fun i9 hm9 => ?_
    obtain rfl : i9 = 3 := by simpa using hm9
    refine wpOp_own rfl rfl fun K9 hK9 => ?_
    refine wp_make8 (.tmp 16) rfl n (by omega) z16 ?_
    obtain ⟨W1, hW1⟩ : ∃ W1, W1 = W0.alloc (.cells (cellsOf (List.replicate n 0)).toArray 5) := ⟨_, rfl⟩
    have b1 : Below w.heap.size w W1 := by rw [hW1]; exact b0.alloc b0.size _
    have k1 : W1.heap[w.heap.size]? = some (.cells K 26 (0, 0)) := by rw [hW1]; exact (Below.heap_alloc _ _ _ (heap_lt k0)).trans k0
    have B1 : Bytes W1 (some ⟨W0.heap.size, 0, none⟩) (List.replicate n 0) := by rw [hW1]; exact row_bytes _ _ (heap_alloc_new W0 _)
    rw [← hW1]
    refine hK9 _ _ ⟨k1, ?_⟩
    clear hK9 K9 hm9
    show wpAnyH _ _ _ _ _ _ _ (A2.put (some 17) (.slice (some ⟨W0.heap.size, 0, none⟩) n n)) _
    refine wpAnyH_all (rs := [4]) (by kernel_rfl) (by simp) fun i9 hm9 => ?_
    obtain rfl : i9 = 4 := by simpa using hm9
    refine wpOp_own rfl rfl fun K9 hK9 => ?_
    refine wp_calls3 42 hf_crossed (.tmp 14) (.tmp 15) (.tmp 17) _ rfl (.agg K) (.int .u64 (once : Int)) (.slice (some ⟨W0.heap.size, 0, none⟩) n n) ((ev_ne _ _ (by decide)).trans z14) ((ev_ne _ _ (by decide)).trans z15) (ev_eq _ _ (by simp [z2])) ?_
    refine (crossed_any HK.out once (List.replicate n 0) (some ⟨W0.heap.size, 0, none⟩) n n (by simp) B1 (by simp; omega) (HT.out.below b1)).mono ?_
    rintro _ W5 ⟨v5, rfl, hown5, hb5⟩
    rw [lc] at hown5
    have b5 : Below w.heap.size w W5 := Below.on' b1 hb5
    have k5 := (hb5.block _ (heap_lt k1)).trans k1
    refine ⟨_, rfl, hK9 _ _ ⟨k5, ?_⟩⟩
    clear hK9 K9 hm9
    show wpAnyH _ _ _ _ _ _ _ ((A2.put (some 17) (.slice (some ⟨W0.heap.size, 0, none⟩) n n)).put (some 18) v5) _
    refine wpAnyH_take (i := 5) (v := v5) rfl (by kernel_rfl) (by kernel_rfl) (by kernel_rfl) (fun _ _ _ h => nomatch h.1) (y_assign (by simp [Region.wanted]) (.tmp 18) rfl _ (ev_eq _ _ (by simp [put_sz, z2]))) k5 ?_
    refine wpAnyH_take (i := 6) (v := .int .i64 0) rfl (by kernel_rfl) (by kernel_rfl) (by kernel_rfl) (fun _ _ _ h => nomatch h.1) (y_assign (by simp [Region.wanted]) (.const (.int .i64 0)) rfl _ rfl) k5 ?_
    refine wpAnyH_done (by kernel_rfl) ⟨rfl, .agg K, .int .u64 (once : Int), .int .i64 (n : Int), .slice (some ⟨W0.heap.size, 0, none⟩) n n, v5, ?_, own_mono hown5 b1.size, b5⟩ _
    rw [hA2]
    rfl
  · rintro _ W5 ⟨t14, t15, t16, t17, v, rfl, hown, hb5⟩
    rw [hA]
    simp only [Act.put, List.setIfInBounds_toArray, List.set_cons_zero, List.set_cons_succ]
    have Hown := hid hown
    have Hb5 := hid hb5
    clear hown hb5 hA hW0 b0 k0
    go_wp2
    go_ret2
    exact ⟨v, rfl, Hown.out, Hb5.out⟩

set_option maxHeartbeats 400000 in
theorem streamF_bad {w : World} {K : Array Value} {key : List UInt8} (hK : HV K key) (once : Nat) (n : Int) (hn : n < 0 ∨ 1024 < n) :
    Calls Tryd.prog 27 #[.agg K, .int .u64 (once : Int), .int .i64 n] w fun e w' => e = .returned (.tuple #[.slice none 0 0, .int .i64 2]) ∧ Below w.heap.size w w' := by
  have hinf : (Tryd.prog.info? 26).map (·.size) = some K.size := hK.info
  have b0 : Hid (Below w.heap.size w (w.alloc (.cells K 26))) := (Below.refl _ w).alloc (Nat.le_refl _) _
  rcases (show n < 0 ∨ (¬ n < 0 ∧ 1024 < n) by omega) with h | ⟨h, h'⟩
  · clear hn
    go_enter Tryd.func27, Tryd.ntmps27
    go_wp2
    go_ret2
    exact ⟨rfl, b0.out⟩
  · clear hn
    go_enter Tryd.func27, Tryd.ntmps27
    go_wp2
    go_ret2
    exact ⟨rfl, b0.out⟩
theorem size_bad (w : World) (n : Int) (hn : n < 0 ∨ 1024 < n) : Calls Tryd.prog 29 #[.int .i64 n] w fun e w' => e = .returned (.int .i64 0) ∧ w' = w := by
  rcases (show n < 0 ∨ (¬ n < 0 ∧ 1024 < n) by omega) with h | ⟨h, h'⟩
  · clear hn
    go_enter Tryd.func29, Tryd.ntmps29
    go_wp2
    go_ret
    exact ⟨rfl, rfl⟩
  · clear hn
    go_enter Tryd.func29, Tryd.ntmps29
    go_wp2
    go_ret
    exact ⟨rfl, rfl⟩
end Go.Proofs.YtfiaefagnkmpoaaDoor
