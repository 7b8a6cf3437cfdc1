/- The stream itself: seal.Stream; SealStarts of the laws on sealed texts, walked. -/
import Derived.Test.YtgadjngodmbckaaDoorEBack
namespace Go.Proofs.YtgadjngodmbckaaDoor
open Go.ChangeShapes Go.WideShapes Go.ChangeAt Go.RowKit Go.Shelf
set_option linter.unusedVariables false
set_option maxRecDepth 20000

theorem wp_make8 {o : Oper} {a : Act} {w : World} {K : Act → World → Prop} {Q : Exit → Act → World → Prop} (x : Operand) (ho : o.op = .makeSlice 25 x x) (n : Nat) (hn : n ≤ 1000000) (hx : a.eval x = .int .i64 (n : Int))
    (h : K (a.put o.dst (.slice (some ⟨w.heap.size, 0, none⟩) n n)) (w.alloc (.cells (cellsOf (List.replicate n 0)).toArray 5))) : o.wp Tryd.prog a w K Q := by
  obtain ⟨i0, hi, hz0, hz1, hz2⟩ := info_parts Tryd.info5
  have hr := run_make (P := Tryd.prog) w 25 5 i0 (.int .u8 0) Tryd.underlying25 hi hz0 .i64 .i64 (n : Int) (n : Int) (by omega) (by omega) (by rw [hz2]; omega) (by omega)
  rw [show (n : Int).toNat = n by omega, hz1, Nat.mul_one, made_row] at hr
  unfold Oper.wp execOp
  simp only [ho, hx, Sem.run_bind, hr, Result.andThen_ok, Sem.run_pure]
  exact h

set_option maxHeartbeats 1000000 in
theorem streamF_any {w : World} {K : Array Value} {key : List UInt8} (hK : HV K key) (once n : Nat) (hn : n ≤ 1024) (hT : KAt w) :
    Calls Tryd.prog 13 #[.agg K, .int .u64 (once : Int), .int .i64 (n : Int)] w fun e w' => ∃ v, e = .returned (.tuple #[v, .int .i64 0]) ∧ w'.ownsRow w.heap.size 5 1 v n (cellsOf (cross key once (List.replicate n 0))) ∧ Below w.heap.size w w' := by
  have HK := hid hK
  have HT := hid hT
  have q0 : ¬ (n : Int) < 0 := by omega
  have q1 : ¬ (1024 : Int) < (n : Int) := by omega
  have hinf : (Tryd.prog.info? 23).map (·.size) = some K.size := hK.info
  have lc : (cross key once (List.replicate n 0)).length = n := by rw [cross_len]; simp
  clear hK hT
  go_enter Tryd.func13, Tryd.ntmps13
  go_wp2_with fail
  have hm : Tryd.prog.follows .mixedOrders = true := by kernel_rfl
  obtain ⟨W0, hW0⟩ : ∃ W0, W0 = (w.alloc (.cells K 23)).drew := ⟨_, rfl⟩
  have b0 : Below w.heap.size w W0 := by rw [hW0]; exact ((Below.refl _ w).alloc (Nat.le_refl _) _).drew
  have k0 : W0.heap[w.heap.size]? = some (.cells K 23 (0, 0)) := by rw [hW0]; exact heap_alloc_new w _
  refine wp_act _ fun A hA => ?_
  refine wp_split (fun A' W => ∃ t14 t15 t16 t17 v : Value, A' = ((((((A.put (some 14) t14).put (some 15) t15).put (some 16) t16).put (some 17) t17).put (some 18) v).put (some 6) v).put (some 7) (.int .i64 0) ∧ W.ownsRow w.heap.size 5 1 v n (cellsOf (cross key once (List.replicate n 0))) ∧ Below w.heap.size w W) ?_ ?_
  · have sz : A.tmps.size = 19 := by rw [hA]; rfl
    have e1 : A.eval (.tmp 1) = .int .u64 (once : Int) := by rw [hA]; rfl
    have e2 : A.eval (.tmp 2) = .int .i64 (n : Int) := by rw [hA]; rfl
    have e3 : A.eval (.tmp 3) = .pointer (some ⟨w.heap.size, 0, none⟩) := by rw [hA]; rfl
    refine wp_region_held (S := fun W9 => W9.heap[w.heap.size]? = some (.cells K 23 (0, 0))) hm ?_
    rw [show ({ (w.alloc (.cells K 23)) with drawn := (w.alloc (.cells K 23)).drawn + 1 } : World) = W0 from hW0.symm]
    clear hW0
    refine wpAnyH_take (i := 0) (v := .agg K) rfl (by kernel_rfl) (by kernel_rfl) (by kernel_rfl) (fun _ _ _ h => nomatch h.1) (y_loadK (by simp [Region.wanted]) (.tmp 3) rfl w.heap.size HK.out e3 (fun _ h => h)) k0 ?_
    refine wpAnyH_take (i := 1) (v := .int .u64 (once : Int)) rfl (by kernel_rfl) (by kernel_rfl) (by kernel_rfl) (fun _ _ _ h => nomatch h.1) (yields_move (by simp [Region.wanted]) (.tmp 1) rfl _ ((ev_ne _ _ (by decide)).trans e1)) k0 ?_
    refine wpAnyH_take (i := 2) (v := .int .i64 (n : Int)) rfl (by kernel_rfl) (by kernel_rfl) (by kernel_rfl) (fun _ _ _ h => nomatch h.1) (yields_move (by simp [Region.wanted]) (.tmp 2) rfl _ ((ev_ne _ _ (by decide)).trans ((ev_ne _ _ (by decide)).trans e2))) k0 ?_
    obtain ⟨A2, hA2⟩ : ∃ A2, A2 = ((A.put (some 14) (.agg K)).put (some 15) (.int .u64 (once : Int))).put (some 16) (.int .i64 (n : Int)) := ⟨_, rfl⟩
    show wpAnyH _ _ _ _ _ _ _ (((A.put (some 14) (.agg K)).put (some 15) (.int .u64 (once : Int))).put (some 16) (.int .i64 (n : Int))) _
    have z2 : A2.tmps.size = 19 := by rw [hA2]; simp [put_sz, sz]
    have z14 : A2.eval (.tmp 14) = .agg K := by rw [hA2]; exact (ev_ne _ _ (by decide)).trans ((ev_ne _ _ (by decide)).trans (ev_eq _ _ (by simp [sz])))
    have z15 : A2.eval (.tmp 15) = .int .u64 (once : Int) := by rw [hA2]; exact (ev_ne _ _ (by decide)).trans (ev_eq _ _ (by simp [put_sz, sz]))
    have z16 : A2.eval (.tmp 16) = .int .i64 (n : Int) := by rw [hA2]; exact ev_eq _ _ (by simp [put_sz, sz])
    rw [← hA2]
    refine wpAnyH_all (rs := [3]) (by kernel_rfl) (by simp) fun i9 hm9 => ?_
    obtain rfl : i9 = 3 := by simpa using hm9
    refine wpOp_own rfl rfl fun K9 hK9 => ?_
    refine wp_make8 (.tmp 16) rfl n (by omega) z16 ?_
    obtain ⟨W1, hW1⟩ : ∃ W1, W1 = W0.alloc (.cells (cellsOf (List.replicate n 0)).toArray 5) := ⟨_, rfl⟩
    have b1 : Below w.heap.size w W1 := by rw [hW1]; exact b0.alloc b0.size _
    have k1 : W1.heap[w.heap.size]? = some (.cells K 23 (0, 0)) := by rw [hW1]; exact (Below.heap_alloc _ _ _ (heap_lt k0)).trans k0
    have B1 : Bytes W1 (some ⟨W0.heap.size, 0, none⟩) (List.replicate n 0) := by rw [hW1]; exact row_bytes _ _ (heap_alloc_new W0 _)
    rw [← hW1]
    refine hK9 _ _ ⟨k1, ?_⟩
    clear hK9 K9 hm9
    show wpAnyH _ _ _ _ _ _ _ (A2.put (some 17) (.slice (some ⟨W0.heap.size, 0, none⟩) n n)) _
    refine wpAnyH_all (rs := [4]) (by kernel_rfl) (by simp) fun i9 hm9 => ?_
    obtain rfl : i9 = 4 := by simpa using hm9
    refine wpOp_own rfl rfl fun K9 hK9 => ?_
    refine wp_calls3 21 hf_crossed (.tmp 14) (.tmp 15) (.tmp 17) _ rfl (.agg K) (.int .u64 (once : Int)) (.slice (some ⟨W0.heap.size, 0, none⟩) n n) ((ev_ne _ _ (by decide)).trans z14) ((ev_ne _ _ (by decide)).trans z15) (ev_eq _ _ (by simp [z2])) ?_
    refine (crossed_any HK.out once (List.replicate n 0) (some ⟨W0.heap.size, 0, none⟩) n n (by simp) B1 (by simp; omega) (HT.out.below b1)).mono ?_
    rintro _ W5 ⟨v5, rfl, hown5, hb5⟩
    rw [lc] at hown5
    have b5 : Below w.heap.size w W5 := Below.on' b1 hb5
    have k5 := (hb5.block _ (heap_lt k1)).trans k1
    refine ⟨_, rfl, hK9 _ _ ⟨k5, ?_⟩⟩
    clear hK9 K9 hm9
    show wpAnyH _ _ _ _ _ _ _ ((A2.put (some 17) (.slice (some ⟨W0.heap.size, 0, none⟩) n n)).put (some 18) v5) _
    refine wpAnyH_take (i := 5) (v := v5) rfl (by kernel_rfl) (by kernel_rfl) (by kernel_rfl) (fun _ _ _ h => nomatch h.1) (y_assign (by simp [Region.wanted]) (.tmp 18) rfl _ (ev_eq _ _ (by simp [put_sz, z2]))) k5 ?_
    refine wpAnyH_take (i := 6) (v := .int .i64 0) rfl (by kernel_rfl) (by kernel_rfl) (by kernel_rfl) (fun _ _ _ h => nomatch h.1) (y_assign (by simp [Region.wanted]) (.const (.int .i64 0)) rfl _ rfl) k5 ?_
    refine wpAnyH_done (by kernel_rfl) ⟨rfl, .agg K, .int .u64 (once : Int), .int .i64 (n : Int), .slice (some ⟨W0.heap.size, 0, none⟩) n n, v5, ?_, own_mono hown5 b1.size, b5⟩ _
    rw [hA2]
    rfl
  · rintro _ W5 ⟨t14, t15, t16, t17, v, rfl, hown, hb5⟩
    rw [hA]
    simp only [Act.put, List.setIfInBounds_toArray, List.set_cons_zero, List.set_cons_succ]
    have Hown := hid hown
    have Hb5 := hid hb5
    clear hown hb5 hA hW0 b0 k0
    go_wp2
    go_ret2
    exact ⟨v, rfl, Hown.out, Hb5.out⟩

/-- an argument of two numbers of 16 bits -/
theorem open_two16 {H : Type} {enc : TypeId × Value → H} {W : World} {v : Value} {d : DataW H} {p : List MemPlace} {base0 : Nat} (hv : Value.okWide Tryd.prog W .any base0 38 v)
    (h : DataW.Trod enc Tryd.prog W 0 (fun _ => true) true 38 v d p) : ∃ x y : Nat, v = .agg #[.int .u16 (x : Int), .int .u16 (y : Int)] ∧ x < 65536 ∧ y < 65536 := by
  simp only [Value.okWide, Tryd.underlying38] at hv
  obtain ⟨xs, rfl, hs, _⟩ := hv
  have hs2 : xs.size = 2 := hs.trans (by kernel_rfl)
  have c16 : Tryd.prog.cellsOf 37 = 1 := by kernel_rfl
  obtain ⟨fuel, hf⟩ := h
  cases fuel with
  | zero => simp [DataW.trod] at hf
  | succ m =>
    rw [DataW.trod_step] at hf
    unfold DataW.trodStep at hf
    simp only [Tryd.underlying38, Value.cells] at hf
    split at hf
    · simp only [Option.map_eq_some_iff] at hf
      obtain ⟨ys, hy, _⟩ := hf
      have hall := mapM_ints Tryd.underlying37 _ ys hy
      rw [c16] at hall
      have get : ∀ i (hi : i < 2), ∃ z : Nat, xs[i]'(by omega) = .int .u16 (z : Int) ∧ z < 65536 := fun i hi => by
        obtain ⟨a, ea, wa⟩ := hall i (by simp; omega)
        have h3 : (xs.toList.drop (i * 1)).take 1 = [xs[i]'(by omega)] := by
          rw [Nat.mul_one, List.drop_eq_getElem_cons (by simpa using (by omega : i < xs.size))]
          simp
        rw [h3] at ea
        have ex : xs[i]'(by omega) = .int .u16 a := by simpa using ea
        have hr : 0 ≤ a ∧ a ≤ 65535 := by simpa [Lit.wf, IntKind.min, IntKind.max, IntKind.signed, IntKind.bits] using wa
        exact ⟨a.toNat, by rw [ex]; congr 1; omega, by omega⟩
      obtain ⟨x, ex, hx⟩ := get 0 (by omega)
      obtain ⟨y, ey, hy⟩ := get 1 (by omega)
      refine ⟨x, y, ?_, hx, hy⟩
      congr 1
      apply Array.ext
      · simp [hs2]
      · intro i h1 h2
        have : i = 0 ∨ i = 1 := by omega
        rcases this with rfl | rfl
        · simpa using ex
        · simpa using ey
    · cases hf

set_option maxHeartbeats 4000000 in
theorem sealStarts_walk {w : World} {K : Array Value} {key : List UInt8} (hK : HV K key) (once : Nat) (x y : Nat) (hx : x < 65536) (hy : y < 65536) (hT : KAt w) :
    Calls Tryd.prog 5 #[.agg K, .int .u64 (once : Int), .agg #[.int .u16 (x : Int), .int .u16 (y : Int)]] w fun e w' => e = .returned (.bool true) ∧ Below w.heap.size w w' := by
  have HK := hid hK
  have HT := hid hT
  have hinf : (Tryd.prog.info? 23).map (·.size) = some K.size := hK.info
  have qx : ((x : Int)).tmod 1025 = ((x % 1025 : Nat) : Int) := by rw [Int.tmod_eq_emod_of_nonneg (by omega)]; omega
  have qy : ((y : Int)).tmod 1025 = ((y % 1025 : Nat) : Int) := by rw [Int.tmod_eq_emod_of_nonneg (by omega)]; omega
  have wx : IntKind.i64.wrap (x : Int) = (x : Int) := by rw [IntKind.wrap_i64]; omega
  have wy : IntKind.i64.wrap (y : Int) = (y : Int) := by rw [IntKind.wrap_i64]; omega
  obtain ⟨m, n, hmn, hn, hcase⟩ : ∃ m n : Nat, m ≤ n ∧ n ≤ 1024 ∧ ((x % 1025 = m ∧ y % 1025 = n) ∨ (x % 1025 = n ∧ y % 1025 = m ∧ m < n)) := by
    rcases Nat.lt_or_ge (y % 1025) (x % 1025) with h | h
    · exact ⟨y % 1025, x % 1025, by omega, by omega, .inr ⟨rfl, rfl, h⟩⟩
    · exact ⟨x % 1025, y % 1025, h, by omega, .inl ⟨rfl, rfl⟩⟩
  have b1 : Hid (Below w.heap.size w ((w.alloc (.cells K 23)).alloc (.cells #[.int .u16 (x : Int), .int .u16 (y : Int)] 38))) := ((Below.refl _ w).alloc (Nat.le_refl _) _).alloc (by simp) _
  clear hK hT
  go_enter Tryd.func5, Tryd.ntmps5
  go_wp2_with fail
  obtain ⟨V0, hV0⟩ : ∃ V0, V0 = (w.alloc (.cells K 23)).alloc (.cells #[.int .u16 (x : Int), .int .u16 (y : Int)] 38) := ⟨_, rfl⟩
  have r0 : V0.heap[w.heap.size + 1]? = some (.cells #[.int .u16 (x : Int), .int .u16 (y : Int)] 38 (0, 0)) := by rw [hV0]; exact heap_alloc2_new w _ _
  have k0 : Hid (V0.heap[w.heap.size]? = some (.cells K 23 (0, 0))) := by
    show _ = _
    rw [hV0]; exact heap_alloc2_old w _ _
  have c0 : V0.cell? ⟨w.heap.size + 1, 0, none⟩ = some (.int .u16 (x : Int)) := by rw [cell_of_row _ _ _ _ _ _ r0]; rfl
  have c1 : V0.cell? ⟨w.heap.size + 1, 1, none⟩ = some (.int .u16 (y : Int)) := by rw [cell_of_row _ _ _ _ _ _ r0]; rfl
  rw [← hV0] at b1 ⊢
  clear hV0 r0
  go_quiet (fail)
  have b2 : Hid (Below w.heap.size w (V0.drewN nq)) := b1.out.drewN nq
  have k2 : Hid ((V0.drewN nq).heap[w.heap.size]? = some (.cells K 23 (0, 0))) := k0.out
  rw [show (x : Int) % 1025 = ((x % 1025 : Nat) : Int) by omega, show (y : Int) % 1025 = ((y % 1025 : Nat) : Int) by omega]
  generalize V0.drewN nq = V1 at *
  clear c0 c1 k0 b1 qx qy wx wy
  have lm : (cross key once (List.replicate m 0)).length = m := by rw [cross_len]; simp
  have ln : (cross key once (List.replicate n 0)).length = n := by rw [cross_len]; simp
  have Hst := hid (cross_starts key once m n hmn)
  rcases hcase with ⟨h1, h2⟩ | ⟨h1, h2, hlt⟩
  · rw [h1, h2]
    have q1 : ¬ (n : Int) < (m : Int) := by omega
    clear h1 h2
    go_wp2_with (with_reducible show Go.wpList _ _ _ _ _ _; refine wpList_load_row rfl 23 (.tmp 3) rfl w.heap.size rfl 23 K (0, 0) _ k2.out Tryd.underlying23 rfl HK.out.info ?_)
    refine (streamF_any HK.out once m (by omega) (HT.out.below b2.out)).mono ?_
    rintro _ W1 ⟨v1, rfl, hown1, hb1⟩
    obtain ⟨a1, c1, rfl, hB1, hc1⟩ := bytes_of_own hown1
    have HB1 := hid hB1
    rw [lm]
    have b3 : Hid (Below w.heap.size w W1) := Below.on' b2.out hb1
    have k3 : Hid (W1.heap[w.heap.size]? = some (.cells K 23 (0, 0))) := (hb1.block _ (heap_lt k2.out)).trans k2.out
    clear hown1 hb1 b2 k2 hB1
    go_wp2_with (with_reducible show Go.wpList _ _ _ _ _ _; refine wpList_load_row rfl 23 (.tmp 3) rfl w.heap.size rfl 23 K (0, 0) _ k3.out Tryd.underlying23 rfl HK.out.info ?_)
    refine (streamF_any HK.out once n hn (HT.out.below b3.out)).mono ?_
    rintro _ W2 ⟨v2, rfl, hown2, hb2⟩
    obtain ⟨a2, c2, rfl, hB2, hc2⟩ := bytes_of_own hown2
    have HB2 := hid hB2
    rw [ln] at hc2 ⊢
    have b4 : Hid (Below w.heap.size w W2) := Below.on' b3.out hb2
    have HB12 : Hid (Bytes W2 a1 (cross key once (List.replicate m 0))) := HB1.out.below hb2
    clear hown2 hb2 b3 k3 hB2 HB1
    go_wp2_with fail
    refine (live_any (HT.out.below b4.out)).mono ?_
    rintro _ W3 ⟨rfl, hb3⟩
    have b5 : Hid (Below w.heap.size w W3) := Below.on' b4.out hb3
    have HB13 : Hid (Bytes W3 a1 (cross key once (List.replicate m 0))) := HB12.out.below hb3
    have HB23 : Hid (Bytes W3 a2 (cross key once (List.replicate m 0))) := by
      show Bytes _ _ _
      rw [Hst.out]
      exact (HB2.out.below hb3).take m
    clear hb3 b4 HB12 HB2
    have HS : Hid (Calls Tryd.prog 11 #[.slice a1 m c1, .slice a2 m c2] W3 fun e w' => e = .returned (.bool true) ∧ Below W3.heap.size W3 w') := by
      show Calls _ _ _ _ _
      have h := sameBytes_any _ _ a1 a2 c1 c2 W3 HB13.out HB23.out (by omega) (by omega)
      rw [lm] at h
      exact h.mono fun e w' hh => by rw [decide_eq_true (rfl : cross key once (List.replicate m 0) = cross key once (List.replicate m 0))] at hh; exact hh
    have q5 : (m : Int) ≤ (c2 : Int) := by omega
    go_wp2_with fail
    refine HS.out.mono ?_
    rintro _ W4 ⟨rfl, hb4⟩
    have b6 : Hid (Below w.heap.size w W4) := Below.on' b5.out hb4
    clear hb4 b5 HS HB13 HB23
    go_wp2
    go_ret
    exact ⟨ret_bool (by simp), b6.out⟩
  · rw [h1, h2]
    have q1 : (m : Int) < (n : Int) := by omega
    clear h1 h2
    go_wp2_with (with_reducible show Go.wpList _ _ _ _ _ _; refine wpList_load_row rfl 23 (.tmp 3) rfl w.heap.size rfl 23 K (0, 0) _ k2.out Tryd.underlying23 rfl HK.out.info ?_)
    refine (streamF_any HK.out once m (by omega) (HT.out.below b2.out)).mono ?_
    rintro _ W1 ⟨v1, rfl, hown1, hb1⟩
    obtain ⟨a1, c1, rfl, hB1, hc1⟩ := bytes_of_own hown1
    have HB1 := hid hB1
    rw [lm]
    have b3 : Hid (Below w.heap.size w W1) := Below.on' b2.out hb1
    have k3 : Hid (W1.heap[w.heap.size]? = some (.cells K 23 (0, 0))) := (hb1.block _ (heap_lt k2.out)).trans k2.out
    clear hown1 hb1 b2 k2 hB1
    go_wp2_with (with_reducible show Go.wpList _ _ _ _ _ _; refine wpList_load_row rfl 23 (.tmp 3) rfl w.heap.size rfl 23 K (0, 0) _ k3.out Tryd.underlying23 rfl HK.out.info ?_)
    refine (streamF_any HK.out once n hn (HT.out.below b3.out)).mono ?_
    rintro _ W2 ⟨v2, rfl, hown2, hb2⟩
    obtain ⟨a2, c2, rfl, hB2, hc2⟩ := bytes_of_own hown2
    have HB2 := hid hB2
    rw [ln] at hc2 ⊢
    have b4 : Hid (Below w.heap.size w W2) := Below.on' b3.out hb2
    have HB12 : Hid (Bytes W2 a1 (cross key once (List.replicate m 0))) := HB1.out.below hb2
    clear hown2 hb2 b3 k3 hB2 HB1
    go_wp2_with fail
    refine (live_any (HT.out.below b4.out)).mono ?_
    rintro _ W3 ⟨rfl, hb3⟩
    have b5 : Hid (Below w.heap.size w W3) := Below.on' b4.out hb3
    have HB13 : Hid (Bytes W3 a1 (cross key once (List.replicate m 0))) := HB12.out.below hb3
    have HB23 : Hid (Bytes W3 a2 (cross key once (List.replicate m 0))) := by
      show Bytes _ _ _
      rw [Hst.out]
      exact (HB2.out.below hb3).take m
    clear hb3 b4 HB12 HB2
    have HS : Hid (Calls Tryd.prog 11 #[.slice a1 m c1, .slice a2 m c2] W3 fun e w' => e = .returned (.bool true) ∧ Below W3.heap.size W3 w') := by
      show Calls _ _ _ _ _
      have h := sameBytes_any _ _ a1 a2 c1 c2 W3 HB13.out HB23.out (by omega) (by omega)
      rw [lm] at h
      exact h.mono fun e w' hh => by rw [decide_eq_true (rfl : cross key once (List.replicate m 0) = cross key once (List.replicate m 0))] at hh; exact hh
    have q5 : (m : Int) ≤ (c2 : Int) := by omega
    go_wp2_with fail
    refine HS.out.mono ?_
    rintro _ W4 ⟨rfl, hb4⟩
    have b6 : Hid (Below w.heap.size w W4) := Below.on' b5.out hb4
    clear hb4 b5 HS HB13 HB23
    go_wp2
    go_ret
    exact ⟨ret_bool (by simp), b6.out⟩
theorem sealStarts_row {w : World} {K : Array Value} {key : List UInt8} (hK : HV K key) (z : Int) (hz : (Lit.int .u64 z).wf = true) (x y : Nat) (hx : x < 65536) (hy : y < 65536) (hT : KAt w) :
    Calls Tryd.prog 5 #[.agg K, .int .u64 z, .agg #[.int .u16 (x : Int), .int .u16 (y : Int)]] w fun e w' => e = .returned (.bool true) ∧ Below w.heap.size w w' := by
  obtain ⟨m, rfl, hm⟩ := u64_nat z hz
  exact sealStarts_walk hK m x y hx hy hT
end Go.Proofs.YtgadjngodmbckaaDoor
