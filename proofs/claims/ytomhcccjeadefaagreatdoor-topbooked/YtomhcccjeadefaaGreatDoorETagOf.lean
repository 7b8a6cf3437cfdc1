/- The tag of what stands ahead of it: seal.tagOf. -/
import Derived.Test.YtomhcccjeadefaaGreatDoorETag
namespace Go.Proofs.YtomhcccjeadefaaGreatDoor
open Go.RowKit Go.Shelf
set_option linter.unusedVariables false
set_option maxRecDepth 20000
theorem hf_tag : ∀ (args : Array Value) (w : World), (callFunc 59 args).run Tryz.prog w = .ok (.enter 59 args) w := fun args w => by simp [go_sem]
theorem run_array_tag (a : Option Addr) (n c : Nat) (w : World) (h : 16 ≤ n) : (Instr.arrayAt 112 (.slice a n c)).run Tryz.prog w = .ok (.pointer a) w := by
  have h1 : ¬ n < 16 := by omega
  unfold Instr.arrayAt
  simp [go_sem, h1]
theorem app_srcG (w : World) {ops : Array Oper} {rest : List Oper} {o : Oper} {a : Act} {Q : Exit → Act → World → Prop} (hgd : o.guard = none) (s x : Operand)
    (ho : o.op = .call { callee := .builtin .append, args := #[s, x], argTypes := #[29, 29] }) (base : Nat) (v : Value) (xs : List UInt8) (hs : a.eval s = v)
    (hown : w.ownsRow base 5 1 v xs.length (cellsOf xs)) (ad : Option Addr) (n c : Nat) (news : List UInt8) (hn : n = news.length) (hx : a.eval x = .slice ad n c) (hB : Bytes w ad news) (hc : ad = none → c = 0)
    (hb : xs.length + news.length ≤ 140737488355328) (hbase : base ≤ w.heap.size)
    (h : ∀ v' w', w'.ownsRow base 5 1 v' (xs ++ news).length (cellsOf (xs ++ news)) → w.grownBy w' v.ownBlock → wpList Tryz.prog ops Q rest (a.put o.dst v') w') :
    wpList Tryz.prog ops Q (o :: rest) a w := by
  obtain ⟨i0, hi, hz0, hz1, hz2⟩ := info_parts Tryz.info5
  subst hn
  cases ad with
  | none =>
    have hl : news = [] := by
      cases news with
      | nil => rfl
      | cons c x => obtain ⟨b, o, e, _⟩ := hB 0 (by simp); cases e
    subst hl
    rw [hc rfl] at hx
    refine wpList_append_own_none hgd s x 29 ho base 5 i0 1 Tryz.underlying29 hi v xs.length (cellsOf xs) hs hown hx ?_
    refine h v w ?_ ⟨rfl, rfl, rfl, Nat.le_refl _, fun _ _ _ => rfl⟩
    rw [List.append_nil]
    exact hown
  | some ad =>
    refine wpList_append_own w hgd s x 29 ho base 5 i0 (.int .u8 0) 1 1 Tryz.underlying29 hi hz0 hz1 hz2 rfl (by decide) v xs.length (cellsOf xs) hs hown ad news.length c (cellsOf news) hx (by simp [cellsOf_length]) (fun j u hj => ?_) (cellsOf_one _) (by unfold maxLen; omega) (by omega) hbase ?_
    · have hj' : j < news.length := by
        have := (List.getElem?_eq_some_iff.1 hj).1
        simpa [cellsOf_length] using this
      obtain ⟨b, o, e, hcl⟩ := hB j hj'
      cases e
      rw [addr_add, hcl]
      rw [cellsOf_get news j hj'] at hj
      rw [← hj]
    · intro v' w' h1 h2 h3
      rw [← cellsOf_append, ← List.length_append] at h1
      exact h v' w' h1 h2
set_option maxHeartbeats 1000000 in
theorem tagOf_any {w : World} {K : Array Value} {key : List UInt8} (hK : HV K key) (ahead : List UInt8) (a : Option Addr) (n cap : Nat) (hn : n = ahead.length) (hB : Bytes w a ahead) (hc0 : a = none → cap = 0) (hl : ahead.length ≤ 100000) (hT : KAt w) :
    Calls Tryz.prog 51 #[.agg K, .slice a n cap] w fun e w' => ∃ O, e = .returned (.agg O) ∧ Hid (TV O (tagB key ahead)) ∧ Below w.heap.size w w' := by
  obtain ⟨Z, hZ⟩ : ∃ Z, Z = bvs (List.replicate 32 0) := ⟨_, rfl⟩
  have zh := (zero_of_info zero_hash).1
  rw [← hZ] at zh
  have hz : Hid (HV Z (List.replicate 32 0)) := by
    show HV _ _
    rw [hZ]; exact hv_zero
  have zh := hid zh
  obtain ⟨Y, hY⟩ : ∃ Y, Y = bvs (List.replicate 16 0) := ⟨_, rfl⟩
  have zt := (zero_of_info zero_tag).1
  rw [← hY] at zt
  have hy : Hid (TV Y (List.replicate 16 0)) := by
    show TV _ _
    rw [hY]; exact ⟨rfl, by simp⟩
  have zt := hid zt
  have HK := hid hK
  have HB := hid hB
  have HT := hid hT
  have Hn := hid hn
  have Hc0 := hid hc0
  have hinf : (Tryz.prog.info? 27).map (·.size) = some K.size := hK.info
  obtain ⟨m9, hm9⟩ : ∃ m9, m9 = [116] ++ ahead := ⟨_, rfl⟩
  have l9 : m9.length ≤ 100001 := by rw [hm9]; simp; omega
  have Ht : Hid ((hmac key m9).take 16 = tagB key ahead) := by
    show _ = _
    rw [hm9]; rfl
  have Hm9 := hid hm9
  clear hK hB hT hn hZ hY hc0 hm9
  go_enter Tryz.func51, Tryz.ntmps51
  go_wp2_with (with_reducible show Go.wpList _ _ _ _ _ _; refine wpList_alloc_row rfl 112 rfl Y zt.out ?_)
  have hm : Tryz.prog.follows .mixedOrders = true := by kernel_rfl
  obtain ⟨W0, hW0⟩ : ∃ W0, W0 = ((w.alloc (.cells K 27)).alloc (.cells Y 112)).drew := ⟨_, rfl⟩
  have b0 : Below w.heap.size w W0 := by rw [hW0]; exact (((Below.refl _ w).alloc (Nat.le_refl _) _).alloc (by simp) _).drew
  have k0 : W0.heap[w.heap.size]? = some (.cells K 27 (0, 0)) := by rw [hW0]; exact heap_alloc2_old w _ _
  have r0 : W0.heap[w.heap.size + 1]? = some (.cells Y 112 (0, 0)) := by rw [hW0]; exact heap_alloc2_new w _ _
  have s0 : w.heap.size + 2 ≤ W0.heap.size := by rw [hW0]; show _ ≤ ((w.alloc (.cells K 27)).alloc (.cells Y 112)).heap.size; simp
  refine wp_act _ fun A hA => ?_
  rw [show (w.alloc (.cells K 27)).heap.size = w.heap.size + 1 by simp] at hA
  have sz : A.tmps.size = 14 := by rw [hA]; rfl
  have e1 : A.eval (.tmp 1) = .slice a n cap := by rw [hA]; rfl
  have e2 : A.eval (.tmp 2) = .pointer (some ⟨w.heap.size, 0, none⟩) := by rw [hA]; rfl
  refine wp_split (fun A' W => ∃ gz t6 t7 t8 t9 t10 O, A' = ⟨#[.agg K, .slice a n cap, .pointer (some ⟨w.heap.size, 0, none⟩), undef, .pointer (some ⟨w.heap.size + 1, 0, none⟩), .pointer (some ⟨gz, 0, none⟩), t6, t7, t8, t9, t10, undef, undef, undef], []⟩ ∧ HV O (hmac key m9) ∧ W.heap[gz]? = some (.cells O 27 (0, 0)) ∧ W.heap[w.heap.size + 1]? = some (.cells Y 112 (0, 0)) ∧ Below w.heap.size w W) ?_ ?_
  · refine wp_region_held (S := fun _ => True) hm ?_
    rw [show ({ ((w.alloc (.cells K 27)).alloc (.cells Y 112)) with drawn := ((w.alloc (.cells K 27)).alloc (.cells Y 112)).drawn + 1 } : World) = W0 from hW0.symm]
    clear hW0
    refine wpAnyH_take (i := 0) (v := .slice (some ⟨w.heap.size, 0, none⟩) 32 32) rfl (by kernel_rfl) (by kernel_rfl) (by kernel_rfl) (fun _ _ _ h => nomatch h.1) (yields_slice_hash (by simp [Region.wanted]) (.tmp 2) rfl w.heap.size e2) trivial ?_
    refine wpAnyH_take (i := 2) (v := .slice a n cap) rfl (by kernel_rfl) (by kernel_rfl) (by kernel_rfl) (fun _ _ _ h => nomatch h.1) (yields_move (by simp [Region.wanted]) (.tmp 1) rfl _ ((ev_ne _ _ (by decide)).trans e1)) trivial ?_
    refine wpAnyH_all (rs := [1, 5]) (by kernel_rfl) (by simp) fun i9 hm9 => ?_
    rcases List.mem_cons.1 hm9 with rfl | hm8
    · refine wpOp_own rfl rfl fun K9 hK9 => ?_
      refine wp_build1 (.const (.int .u8 116)) rfl 116 rfl ?_
      obtain ⟨W1, hW1⟩ : ∃ X, X = W0.alloc (.cells (cellsOf [116]).toArray 5) := ⟨_, rfl⟩
      have b1 : Below w.heap.size w W1 := by rw [hW1]; exact b0.alloc b0.size _
      have s1 : w.heap.size + 2 ≤ W1.heap.size := by rw [hW1, World.size_alloc]; omega
      have k1 : W1.heap[w.heap.size]? = some (.cells K 27 (0, 0)) := by rw [hW1]; exact (Below.heap_alloc _ _ _ (heap_lt k0)).trans k0
      have r1 : W1.heap[w.heap.size + 1]? = some (.cells Y 112 (0, 0)) := by rw [hW1]; exact (Below.heap_alloc _ _ _ (heap_lt r0)).trans r0
      have o1 : W1.ownsRow (w.heap.size + 2) 5 1 (.slice (some ⟨W0.heap.size, 0, none⟩) 1 1) ([116] : List UInt8).length (cellsOf [116]) := by rw [hW1]; exact own_mono (own_lits W0 [116] (by simp)) s0
      refine hK9 _ _ ⟨trivial, ?_⟩
      rw [← hW1]
      clear hK9 K9
      show wpAnyH _ _ _ _ _ _ _ (((A.put (some 6) (.slice (some ⟨w.heap.size, 0, none⟩) 32 32)).put (some 8) (.slice a n cap)).put (some 7) (.slice (some ⟨W0.heap.size, 0, none⟩) 1 1)) _
      refine wpAnyH_all (rs := [3, 5]) (by kernel_rfl) (by simp) fun i9 hm9 => ?_
      rcases List.mem_cons.1 hm9 with rfl | hm8
      · refine wpOp_own rfl rfl fun K9 hK9 => ?_
        refine wp_of_list (ops := #[]) rfl (fun A9 X9 => ∃ v9, A9 = (((A.put (some 6) (.slice (some ⟨w.heap.size, 0, none⟩) 32 32)).put (some 8) (.slice a n cap)).put (some 7) (.slice (some ⟨W0.heap.size, 0, none⟩) 1 1)).put (some 9) v9 ∧ X9.ownsRow (w.heap.size + 2) 5 1 v9 ([116] ++ ahead).length (cellsOf ([116] ++ ahead)) ∧ W1.grownBy X9 (Value.ownBlock (.slice (some ⟨W0.heap.size, 0, none⟩) 1 1))) (app_srcG W1 rfl (.tmp 7) (.tmp 8) rfl (w.heap.size + 2) _ [116] (ev_eq _ _ (by simp [put_sz, sz])) o1 a n cap ahead Hn.out ((ev_ne _ _ (by decide)).trans (ev_eq _ _ (by simp [put_sz, sz]))) (HB.out.below b1) Hc0.out (by simp; omega) s1 (fun v9 w9 h1 h2 => wpList_nil ⟨rfl, v9, rfl, h1, h2⟩)) ?_
        rintro _ W2 ⟨v9, rfl, hown9, hgrow⟩
        rw [← Hm9.out] at hown9
        obtain ⟨a9, c9, rfl, hB9, hc9⟩ := bytes_of_own hown9
        have b2 : Below w.heap.size w W2 := b1.grown hgrow b1.size (fun j hj => by have := (o1.lt j hj).1; omega)
        have s2 : w.heap.size + 2 ≤ W2.heap.size := Nat.le_trans s1 hgrow.size
        have k2 : W2.heap[w.heap.size]? = some (.cells K 27 (0, 0)) := (hgrow.block _ (heap_lt k1) (not_own k1 (by decide) o1)).trans k1
        have r2 : W2.heap[w.heap.size + 1]? = some (.cells Y 112 (0, 0)) := (hgrow.block _ (heap_lt r1) (not_own r1 (by decide) o1)).trans r1
        refine hK9 _ _ ⟨trivial, ?_⟩
        clear hK9 K9 hown9
        have B2 : Bytes W2 a9 m9 := hB9
        show wpAnyH _ _ _ _ _ _ _ ((((A.put (some 6) (.slice (some ⟨w.heap.size, 0, none⟩) 32 32)).put (some 8) (.slice a n cap)).put (some 7) (.slice (some ⟨W0.heap.size, 0, none⟩) 1 1)).put (some 9) (.slice a9 m9.length c9)) _
        refine wpAnyH_all (rs := [4, 5]) (by kernel_rfl) (by simp) fun i9 hm9 => ?_
        rcases List.mem_cons.1 hm9 with rfl | hm8
        · refine wpOp_own rfl rfl fun K9 hK9 => ?_
          refine wp_calls2 59 hf_tag (.tmp 6) (.tmp 9) _ rfl (.slice (some ⟨w.heap.size, 0, none⟩) 32 32) (.slice a9 m9.length c9) ((ev_ne _ _ (by decide)).trans ((ev_ne _ _ (by decide)).trans ((ev_ne _ _ (by decide)).trans (ev_eq _ _ (by simp [sz]))))) (ev_eq _ _ (by simp [put_sz, sz])) ?_
          refine (tag_any key (some ⟨w.heap.size, 0, none⟩) 32 32 HK.out.len.symm (HK.out.bytes k2) (by rw [HK.out.len]; omega) (by rw [HK.out.len]; omega) m9 a9 m9.length c9 rfl B2 (by omega) hc9 (HT.out.below b2)).mono ?_
          rintro _ W3 ⟨O, rfl, hO, hb9⟩
          have b3 : Below w.heap.size w W3 := Below.on' b2 hb9
          have s3 : w.heap.size + 2 ≤ W3.heap.size := Nat.le_trans s2 hb9.size
          have k3 := (hb9.block _ (heap_lt k2)).trans k2
          have r3 := (hb9.block _ (heap_lt r2)).trans r2
          refine ⟨_, rfl, hK9 _ _ ⟨trivial, ?_⟩⟩
          clear hK9 K9
          show wpAnyH _ _ _ _ _ _ _ (((((A.put (some 6) (.slice (some ⟨w.heap.size, 0, none⟩) 32 32)).put (some 8) (.slice a n cap)).put (some 7) (.slice (some ⟨W0.heap.size, 0, none⟩) 1 1)).put (some 9) (.slice a9 m9.length c9)).put (some 10) (.agg O)) _
          refine wpAnyH_all (rs := [5]) (by kernel_rfl) (by simp) fun i9 hm9 => ?_
          obtain rfl : i9 = 5 := by simpa using hm9
          refine wpOp_own rfl rfl fun K9 hK9 => ?_
          refine wp_of_list (ops := #[]) rfl (fun A9 X9 => A9 = (((((A.put (some 6) (.slice (some ⟨w.heap.size, 0, none⟩) 32 32)).put (some 8) (.slice a n cap)).put (some 7) (.slice (some ⟨W0.heap.size, 0, none⟩) 1 1)).put (some 9) (.slice a9 m9.length c9)).put (some 10) (.agg O)).put (some 5) (.pointer (some ⟨W3.heap.size, 0, none⟩)) ∧ X9 = W3.alloc (.cells Z 27)) (wpList_alloc_row rfl 27 rfl Z zh.out (wpList_nil ⟨rfl, rfl, rfl⟩)) ?_
          rintro _ _ ⟨rfl, rfl⟩
          obtain ⟨W4, hW4⟩ : ∃ X, X = W3.alloc (.cells Z 27) := ⟨_, rfl⟩
          have b4 : Below w.heap.size w W4 := by rw [hW4]; exact b3.alloc b3.size _
          have s4 : w.heap.size + 2 ≤ W4.heap.size := by rw [hW4, World.size_alloc]; omega
          have k4 : W4.heap[w.heap.size]? = some (.cells K 27 (0, 0)) := by rw [hW4]; exact (Below.heap_alloc _ _ _ (heap_lt k3)).trans k3
          have r4 : W4.heap[w.heap.size + 1]? = some (.cells Y 112 (0, 0)) := by rw [hW4]; exact (Below.heap_alloc _ _ _ (heap_lt r3)).trans r3
          have z4 : W4.heap[W3.heap.size]? = some (.cells Z 27 (0, 0)) := by rw [hW4]; exact heap_alloc_new W3 _
          refine hK9 _ _ ⟨trivial, ?_⟩
          rw [← hW4]
          clear hK9 K9
          show wpAnyH _ _ _ _ _ _ _ ((((((A.put (some 6) (.slice (some ⟨w.heap.size, 0, none⟩) 32 32)).put (some 8) (.slice a n cap)).put (some 7) (.slice (some ⟨W0.heap.size, 0, none⟩) 1 1)).put (some 9) (.slice a9 m9.length c9)).put (some 10) (.agg O)).put (some 5) (.pointer (some ⟨W3.heap.size, 0, none⟩))) _
          obtain ⟨A5, hA5⟩ : ∃ A5, A5 = ((((((A.put (some 6) (.slice (some ⟨w.heap.size, 0, none⟩) 32 32)).put (some 8) (.slice a n cap)).put (some 7) (.slice (some ⟨W0.heap.size, 0, none⟩) 1 1)).put (some 9) (.slice a9 m9.length c9)).put (some 10) (.agg O)).put (some 5) (.pointer (some ⟨W3.heap.size, 0, none⟩))) := ⟨_, rfl⟩
          have u5 : A5.eval (.tmp 5) = .pointer (some ⟨W3.heap.size, 0, none⟩) := by rw [hA5]; exact (ev_eq _ _ (by simp [put_sz, sz]))
          have u10 : A5.eval (.tmp 10) = .agg O := by rw [hA5]; exact ((ev_ne _ _ (by decide)).trans (ev_eq _ _ (by simp [put_sz, sz])))
          rw [← hA5]
          refine wpAnyH_all (rs := [6]) (by kernel_rfl) (by simp) fun i9 hm9 => ?_
          obtain rfl : i9 = 6 := by simpa using hm9
          clear hm9
          refine wpOp_own rfl rfl fun K9 hK9 => ?_
          refine wp_store_hash (.tmp 5) (.tmp 10) rfl (W3.heap.size) O Z hO hz.out u5 u10 z4 ?_
          have hgz : w.heap.size + 2 ≤ W3.heap.size := by omega
          refine hK9 _ _ ⟨trivial, wpAnyH_done (by kernel_rfl) ⟨rfl, W3.heap.size, (.slice (some ⟨w.heap.size, 0, none⟩) 32 32 : Value), (.slice (some ⟨W0.heap.size, 0, none⟩) 1 1 : Value), (.slice a n cap : Value), (.slice a9 m9.length c9 : Value), (.agg O : Value), O, ?_, hO, setRow_heap _ _ _ _ _ _ z4, (setRow_other _ _ _ _ (by omega)).trans r4, b4.setRow (by omega) _⟩ _⟩
          show A5 = _
          rw [hA5, hA]; simp [Act.put]
        · obtain rfl : i9 = 5 := by simpa using hm8
          refine wpOp_own rfl rfl fun K9 hK9 => ?_
          refine wp_of_list (ops := #[]) rfl (fun A9 X9 => A9 = ((((A.put (some 6) (.slice (some ⟨w.heap.size, 0, none⟩) 32 32)).put (some 8) (.slice a n cap)).put (some 7) (.slice (some ⟨W0.heap.size, 0, none⟩) 1 1)).put (some 9) (.slice a9 m9.length c9)).put (some 5) (.pointer (some ⟨W2.heap.size, 0, none⟩)) ∧ X9 = W2.alloc (.cells Z 27)) (wpList_alloc_row rfl 27 rfl Z zh.out (wpList_nil ⟨rfl, rfl, rfl⟩)) ?_
          rintro _ _ ⟨rfl, rfl⟩
          obtain ⟨W6, hW6⟩ : ∃ X, X = W2.alloc (.cells Z 27) := ⟨_, rfl⟩
          have b6 : Below w.heap.size w W6 := by rw [hW6]; exact b2.alloc b2.size _
          have s6 : w.heap.size + 2 ≤ W6.heap.size := by rw [hW6, World.size_alloc]; omega
          have k6 : W6.heap[w.heap.size]? = some (.cells K 27 (0, 0)) := by rw [hW6]; exact (Below.heap_alloc _ _ _ (heap_lt k2)).trans k2
          have r6 : W6.heap[w.heap.size + 1]? = some (.cells Y 112 (0, 0)) := by rw [hW6]; exact (Below.heap_alloc _ _ _ (heap_lt r2)).trans r2
          have z6 : W6.heap[W2.heap.size]? = some (.cells Z 27 (0, 0)) := by rw [hW6]; exact heap_alloc_new W2 _
          have B6 : Bytes W6 a9 m9 := by rw [hW6]; exact B2.below ((Below.refl _ W2).alloc (Nat.le_refl _) _)
          refine hK9 _ _ ⟨trivial, ?_⟩
          rw [← hW6]
          clear hK9 K9
          show wpAnyH _ _ _ _ _ _ _ (((((A.put (some 6) (.slice (some ⟨w.heap.size, 0, none⟩) 32 32)).put (some 8) (.slice a n cap)).put (some 7) (.slice (some ⟨W0.heap.size, 0, none⟩) 1 1)).put (some 9) (.slice a9 m9.length c9)).put (some 5) (.pointer (some ⟨W2.heap.size, 0, none⟩))) _
          refine wpAnyH_all (rs := [4]) (by kernel_rfl) (by simp) fun i9 hm9 => ?_
          obtain rfl : i9 = 4 := by simpa using hm9
          refine wpOp_own rfl rfl fun K9 hK9 => ?_
          refine wp_calls2 59 hf_tag (.tmp 6) (.tmp 9) _ rfl (.slice (some ⟨w.heap.size, 0, none⟩) 32 32) (.slice a9 m9.length c9) ((ev_ne _ _ (by decide)).trans ((ev_ne _ _ (by decide)).trans ((ev_ne _ _ (by decide)).trans ((ev_ne _ _ (by decide)).trans (ev_eq _ _ (by simp [sz])))))) ((ev_ne _ _ (by decide)).trans (ev_eq _ _ (by simp [put_sz, sz]))) ?_
          refine (tag_any key (some ⟨w.heap.size, 0, none⟩) 32 32 HK.out.len.symm (HK.out.bytes k6) (by rw [HK.out.len]; omega) (by rw [HK.out.len]; omega) m9 a9 m9.length c9 rfl B6 (by omega) hc9 (HT.out.below b6)).mono ?_
          rintro _ W7 ⟨O, rfl, hO, hb9⟩
          have b7 : Below w.heap.size w W7 := Below.on' b6 hb9
          have s7 : w.heap.size + 2 ≤ W7.heap.size := Nat.le_trans s6 hb9.size
          have k7 := (hb9.block _ (heap_lt k6)).trans k6
          have r7 := (hb9.block _ (heap_lt r6)).trans r6
          have z7 := (hb9.block _ (heap_lt z6)).trans z6
          refine ⟨_, rfl, hK9 _ _ ⟨trivial, ?_⟩⟩
          clear hK9 K9
          show wpAnyH _ _ _ _ _ _ _ ((((((A.put (some 6) (.slice (some ⟨w.heap.size, 0, none⟩) 32 32)).put (some 8) (.slice a n cap)).put (some 7) (.slice (some ⟨W0.heap.size, 0, none⟩) 1 1)).put (some 9) (.slice a9 m9.length c9)).put (some 5) (.pointer (some ⟨W2.heap.size, 0, none⟩))).put (some 10) (.agg O)) _
          obtain ⟨A5, hA5⟩ : ∃ A5, A5 = ((((((A.put (some 6) (.slice (some ⟨w.heap.size, 0, none⟩) 32 32)).put (some 8) (.slice a n cap)).put (some 7) (.slice (some ⟨W0.heap.size, 0, none⟩) 1 1)).put (some 9) (.slice a9 m9.length c9)).put (some 5) (.pointer (some ⟨W2.heap.size, 0, none⟩))).put (some 10) (.agg O)) := ⟨_, rfl⟩
          have u5 : A5.eval (.tmp 5) = .pointer (some ⟨W2.heap.size, 0, none⟩) := by rw [hA5]; exact ((ev_ne _ _ (by decide)).trans (ev_eq _ _ (by simp [put_sz, sz])))
          have u10 : A5.eval (.tmp 10) = .agg O := by rw [hA5]; exact (ev_eq _ _ (by simp [put_sz, sz]))
          rw [← hA5]
          refine wpAnyH_all (rs := [6]) (by kernel_rfl) (by simp) fun i9 hm9 => ?_
          obtain rfl : i9 = 6 := by simpa using hm9
          clear hm9
          refine wpOp_own rfl rfl fun K9 hK9 => ?_
          refine wp_store_hash (.tmp 5) (.tmp 10) rfl (W2.heap.size) O Z hO hz.out u5 u10 z7 ?_
          have hgz : w.heap.size + 2 ≤ W2.heap.size := by omega
          refine hK9 _ _ ⟨trivial, wpAnyH_done (by kernel_rfl) ⟨rfl, W2.heap.size, (.slice (some ⟨w.heap.size, 0, none⟩) 32 32 : Value), (.slice (some ⟨W0.heap.size, 0, none⟩) 1 1 : Value), (.slice a n cap : Value), (.slice a9 m9.length c9 : Value), (.agg O : Value), O, ?_, hO, setRow_heap _ _ _ _ _ _ z7, (setRow_other _ _ _ _ (by omega)).trans r7, b7.setRow (by omega) _⟩ _⟩
          show A5 = _
          rw [hA5, hA]; simp [Act.put]
      · obtain rfl : i9 = 5 := by simpa using hm8
        refine wpOp_own rfl rfl fun K9 hK9 => ?_
        refine wp_of_list (ops := #[]) rfl (fun A9 X9 => A9 = (((A.put (some 6) (.slice (some ⟨w.heap.size, 0, none⟩) 32 32)).put (some 8) (.slice a n cap)).put (some 7) (.slice (some ⟨W0.heap.size, 0, none⟩) 1 1)).put (some 5) (.pointer (some ⟨W1.heap.size, 0, none⟩)) ∧ X9 = W1.alloc (.cells Z 27)) (wpList_alloc_row rfl 27 rfl Z zh.out (wpList_nil ⟨rfl, rfl, rfl⟩)) ?_
        rintro _ _ ⟨rfl, rfl⟩
        obtain ⟨W9, hW9⟩ : ∃ X, X = W1.alloc (.cells Z 27) := ⟨_, rfl⟩
        have b9 : Below w.heap.size w W9 := by rw [hW9]; exact b1.alloc b1.size _
        have s9 : w.heap.size + 2 ≤ W9.heap.size := by rw [hW9, World.size_alloc]; omega
        have k9 : W9.heap[w.heap.size]? = some (.cells K 27 (0, 0)) := by rw [hW9]; exact (Below.heap_alloc _ _ _ (heap_lt k1)).trans k1
        have r9 : W9.heap[w.heap.size + 1]? = some (.cells Y 112 (0, 0)) := by rw [hW9]; exact (Below.heap_alloc _ _ _ (heap_lt r1)).trans r1
        have z9 : W9.heap[W1.heap.size]? = some (.cells Z 27 (0, 0)) := by rw [hW9]; exact heap_alloc_new W1 _
        have o9 : W9.ownsRow (w.heap.size + 2) 5 1 (.slice (some ⟨W0.heap.size, 0, none⟩) 1 1) ([116] : List UInt8).length (cellsOf [116]) := by rw [hW9]; exact o1.alloc _
        refine hK9 _ _ ⟨trivial, ?_⟩
        rw [← hW9]
        clear hK9 K9
        show wpAnyH _ _ _ _ _ _ _ ((((A.put (some 6) (.slice (some ⟨w.heap.size, 0, none⟩) 32 32)).put (some 8) (.slice a n cap)).put (some 7) (.slice (some ⟨W0.heap.size, 0, none⟩) 1 1)).put (some 5) (.pointer (some ⟨W1.heap.size, 0, none⟩))) _
        refine wpAnyH_all (rs := [3]) (by kernel_rfl) (by simp) fun i9 hm9 => ?_
        obtain rfl : i9 = 3 := by simpa using hm9
        refine wpOp_own rfl rfl fun K9 hK9 => ?_
        refine wp_of_list (ops := #[]) rfl (fun A9 X9 => ∃ v9, A9 = ((((A.put (some 6) (.slice (some ⟨w.heap.size, 0, none⟩) 32 32)).put (some 8) (.slice a n cap)).put (some 7) (.slice (some ⟨W0.heap.size, 0, none⟩) 1 1)).put (some 5) (.pointer (some ⟨W1.heap.size, 0, none⟩))).put (some 9) v9 ∧ X9.ownsRow (w.heap.size + 2) 5 1 v9 ([116] ++ ahead).length (cellsOf ([116] ++ ahead)) ∧ W9.grownBy X9 (Value.ownBlock (.slice (some ⟨W0.heap.size, 0, none⟩) 1 1))) (app_srcG W9 rfl (.tmp 7) (.tmp 8) rfl (w.heap.size + 2) _ [116] ((ev_ne _ _ (by decide)).trans (ev_eq _ _ (by simp [put_sz, sz]))) o9 a n cap ahead Hn.out ((ev_ne _ _ (by decide)).trans ((ev_ne _ _ (by decide)).trans (ev_eq _ _ (by simp [put_sz, sz])))) (HB.out.below b9) Hc0.out (by simp; omega) s9 (fun v9 w9 h1 h2 => wpList_nil ⟨rfl, v9, rfl, h1, h2⟩)) ?_
        rintro _ W10 ⟨v9, rfl, hown9, hgrow⟩
        rw [← Hm9.out] at hown9
        obtain ⟨a9, c9, rfl, hB9, hc9⟩ := bytes_of_own hown9
        have b10 : Below w.heap.size w W10 := b9.grown hgrow b9.size (fun j hj => by have := (o9.lt j hj).1; omega)
        have s10 : w.heap.size + 2 ≤ W10.heap.size := Nat.le_trans s9 hgrow.size
        have k10 : W10.heap[w.heap.size]? = some (.cells K 27 (0, 0)) := (hgrow.block _ (heap_lt k9) (not_own k9 (by decide) o9)).trans k9
        have r10 : W10.heap[w.heap.size + 1]? = some (.cells Y 112 (0, 0)) := (hgrow.block _ (heap_lt r9) (not_own r9 (by decide) o9)).trans r9
        have z10 : W10.heap[W1.heap.size]? = some (.cells Z 27 (0, 0)) := (hgrow.block _ (heap_lt z9) (not_own z9 (by decide) o9)).trans z9
        refine hK9 _ _ ⟨trivial, ?_⟩
        clear hK9 K9 hown9
        have B10 : Bytes W10 a9 m9 := hB9
        show wpAnyH _ _ _ _ _ _ _ (((((A.put (some 6) (.slice (some ⟨w.heap.size, 0, none⟩) 32 32)).put (some 8) (.slice a n cap)).put (some 7) (.slice (some ⟨W0.heap.size, 0, none⟩) 1 1)).put (some 5) (.pointer (some ⟨W1.heap.size, 0, none⟩))).put (some 9) (.slice a9 m9.length c9)) _
        refine wpAnyH_all (rs := [4]) (by kernel_rfl) (by simp) fun i9 hm9 => ?_
        obtain rfl : i9 = 4 := by simpa using hm9
        refine wpOp_own rfl rfl fun K9 hK9 => ?_
        refine wp_calls2 59 hf_tag (.tmp 6) (.tmp 9) _ rfl (.slice (some ⟨w.heap.size, 0, none⟩) 32 32) (.slice a9 m9.length c9) ((ev_ne _ _ (by decide)).trans ((ev_ne _ _ (by decide)).trans ((ev_ne _ _ (by decide)).trans ((ev_ne _ _ (by decide)).trans (ev_eq _ _ (by simp [sz])))))) (ev_eq _ _ (by simp [put_sz, sz])) ?_
        refine (tag_any key (some ⟨w.heap.size, 0, none⟩) 32 32 HK.out.len.symm (HK.out.bytes k10) (by rw [HK.out.len]; omega) (by rw [HK.out.len]; omega) m9 a9 m9.length c9 rfl B10 (by omega) hc9 (HT.out.below b10)).mono ?_
        rintro _ W11 ⟨O, rfl, hO, hb9⟩
        have b11 : Below w.heap.size w W11 := Below.on' b10 hb9
        have s11 : w.heap.size + 2 ≤ W11.heap.size := Nat.le_trans s10 hb9.size
        have k11 := (hb9.block _ (heap_lt k10)).trans k10
        have r11 := (hb9.block _ (heap_lt r10)).trans r10
        have z11 := (hb9.block _ (heap_lt z10)).trans z10
        refine ⟨_, rfl, hK9 _ _ ⟨trivial, ?_⟩⟩
        clear hK9 K9
        show wpAnyH _ _ _ _ _ _ _ ((((((A.put (some 6) (.slice (some ⟨w.heap.size, 0, none⟩) 32 32)).put (some 8) (.slice a n cap)).put (some 7) (.slice (some ⟨W0.heap.size, 0, none⟩) 1 1)).put (some 5) (.pointer (some ⟨W1.heap.size, 0, none⟩))).put (some 9) (.slice a9 m9.length c9)).put (some 10) (.agg O)) _
        obtain ⟨A5, hA5⟩ : ∃ A5, A5 = ((((((A.put (some 6) (.slice (some ⟨w.heap.size, 0, none⟩) 32 32)).put (some 8) (.slice a n cap)).put (some 7) (.slice (some ⟨W0.heap.size, 0, none⟩) 1 1)).put (some 5) (.pointer (some ⟨W1.heap.size, 0, none⟩))).put (some 9) (.slice a9 m9.length c9)).put (some 10) (.agg O)) := ⟨_, rfl⟩
        have u5 : A5.eval (.tmp 5) = .pointer (some ⟨W1.heap.size, 0, none⟩) := by rw [hA5]; exact ((ev_ne _ _ (by decide)).trans ((ev_ne _ _ (by decide)).trans (ev_eq _ _ (by simp [put_sz, sz]))))
        have u10 : A5.eval (.tmp 10) = .agg O := by rw [hA5]; exact (ev_eq _ _ (by simp [put_sz, sz]))
        rw [← hA5]
        refine wpAnyH_all (rs := [6]) (by kernel_rfl) (by simp) fun i9 hm9 => ?_
        obtain rfl : i9 = 6 := by simpa using hm9
        clear hm9
        refine wpOp_own rfl rfl fun K9 hK9 => ?_
        refine wp_store_hash (.tmp 5) (.tmp 10) rfl (W1.heap.size) O Z hO hz.out u5 u10 z11 ?_
        have hgz : w.heap.size + 2 ≤ W1.heap.size := by omega
        refine hK9 _ _ ⟨trivial, wpAnyH_done (by kernel_rfl) ⟨rfl, W1.heap.size, (.slice (some ⟨w.heap.size, 0, none⟩) 32 32 : Value), (.slice (some ⟨W0.heap.size, 0, none⟩) 1 1 : Value), (.slice a n cap : Value), (.slice a9 m9.length c9 : Value), (.agg O : Value), O, ?_, hO, setRow_heap _ _ _ _ _ _ z11, (setRow_other _ _ _ _ (by omega)).trans r11, b11.setRow (by omega) _⟩ _⟩
        show A5 = _
        rw [hA5, hA]; simp [Act.put]
    · obtain rfl : i9 = 5 := by simpa using hm8
      refine wpOp_own rfl rfl fun K9 hK9 => ?_
      refine wp_of_list (ops := #[]) rfl (fun A9 X9 => A9 = ((A.put (some 6) (.slice (some ⟨w.heap.size, 0, none⟩) 32 32)).put (some 8) (.slice a n cap)).put (some 5) (.pointer (some ⟨W0.heap.size, 0, none⟩)) ∧ X9 = W0.alloc (.cells Z 27)) (wpList_alloc_row rfl 27 rfl Z zh.out (wpList_nil ⟨rfl, rfl, rfl⟩)) ?_
      rintro _ _ ⟨rfl, rfl⟩
      obtain ⟨W13, hW13⟩ : ∃ X, X = W0.alloc (.cells Z 27) := ⟨_, rfl⟩
      have b13 : Below w.heap.size w W13 := by rw [hW13]; exact b0.alloc b0.size _
      have s13 : w.heap.size + 2 ≤ W13.heap.size := by rw [hW13, World.size_alloc]; omega
      have k13 : W13.heap[w.heap.size]? = some (.cells K 27 (0, 0)) := by rw [hW13]; exact (Below.heap_alloc _ _ _ (heap_lt k0)).trans k0
      have r13 : W13.heap[w.heap.size + 1]? = some (.cells Y 112 (0, 0)) := by rw [hW13]; exact (Below.heap_alloc _ _ _ (heap_lt r0)).trans r0
      have z13 : W13.heap[W0.heap.size]? = some (.cells Z 27 (0, 0)) := by rw [hW13]; exact heap_alloc_new W0 _
      refine hK9 _ _ ⟨trivial, ?_⟩
      rw [← hW13]
      clear hK9 K9
      show wpAnyH _ _ _ _ _ _ _ (((A.put (some 6) (.slice (some ⟨w.heap.size, 0, none⟩) 32 32)).put (some 8) (.slice a n cap)).put (some 5) (.pointer (some ⟨W0.heap.size, 0, none⟩))) _
      refine wpAnyH_all (rs := [1]) (by kernel_rfl) (by simp) fun i9 hm9 => ?_
      obtain rfl : i9 = 1 := by simpa using hm9
      refine wpOp_own rfl rfl fun K9 hK9 => ?_
      refine wp_build1 (.const (.int .u8 116)) rfl 116 rfl ?_
      obtain ⟨W14, hW14⟩ : ∃ X, X = W13.alloc (.cells (cellsOf [116]).toArray 5) := ⟨_, rfl⟩
      have b14 : Below w.heap.size w W14 := by rw [hW14]; exact b13.alloc b13.size _
      have s14 : w.heap.size + 2 ≤ W14.heap.size := by rw [hW14, World.size_alloc]; omega
      have k14 : W14.heap[w.heap.size]? = some (.cells K 27 (0, 0)) := by rw [hW14]; exact (Below.heap_alloc _ _ _ (heap_lt k13)).trans k13
      have r14 : W14.heap[w.heap.size + 1]? = some (.cells Y 112 (0, 0)) := by rw [hW14]; exact (Below.heap_alloc _ _ _ (heap_lt r13)).trans r13
      have z14 : W14.heap[W0.heap.size]? = some (.cells Z 27 (0, 0)) := by rw [hW14]; exact (Below.heap_alloc _ _ _ (heap_lt z13)).trans z13
      have o14 : W14.ownsRow (w.heap.size + 2) 5 1 (.slice (some ⟨W13.heap.size, 0, none⟩) 1 1) ([116] : List UInt8).length (cellsOf [116]) := by rw [hW14]; exact own_mono (own_lits W13 [116] (by simp)) s13
      refine hK9 _ _ ⟨trivial, ?_⟩
      rw [← hW14]
      clear hK9 K9
      show wpAnyH _ _ _ _ _ _ _ ((((A.put (some 6) (.slice (some ⟨w.heap.size, 0, none⟩) 32 32)).put (some 8) (.slice a n cap)).put (some 5) (.pointer (some ⟨W0.heap.size, 0, none⟩))).put (some 7) (.slice (some ⟨W13.heap.size, 0, none⟩) 1 1)) _
      refine wpAnyH_all (rs := [3]) (by kernel_rfl) (by simp) fun i9 hm9 => ?_
      obtain rfl : i9 = 3 := by simpa using hm9
      refine wpOp_own rfl rfl fun K9 hK9 => ?_
      refine wp_of_list (ops := #[]) rfl (fun A9 X9 => ∃ v9, A9 = ((((A.put (some 6) (.slice (some ⟨w.heap.size, 0, none⟩) 32 32)).put (some 8) (.slice a n cap)).put (some 5) (.pointer (some ⟨W0.heap.size, 0, none⟩))).put (some 7) (.slice (some ⟨W13.heap.size, 0, none⟩) 1 1)).put (some 9) v9 ∧ X9.ownsRow (w.heap.size + 2) 5 1 v9 ([116] ++ ahead).length (cellsOf ([116] ++ ahead)) ∧ W14.grownBy X9 (Value.ownBlock (.slice (some ⟨W13.heap.size, 0, none⟩) 1 1))) (app_srcG W14 rfl (.tmp 7) (.tmp 8) rfl (w.heap.size + 2) _ [116] (ev_eq _ _ (by simp [put_sz, sz])) o14 a n cap ahead Hn.out ((ev_ne _ _ (by decide)).trans ((ev_ne _ _ (by decide)).trans (ev_eq _ _ (by simp [put_sz, sz])))) (HB.out.below b14) Hc0.out (by simp; omega) s14 (fun v9 w9 h1 h2 => wpList_nil ⟨rfl, v9, rfl, h1, h2⟩)) ?_
      rintro _ W15 ⟨v9, rfl, hown9, hgrow⟩
      rw [← Hm9.out] at hown9
      obtain ⟨a9, c9, rfl, hB9, hc9⟩ := bytes_of_own hown9
      have b15 : Below w.heap.size w W15 := b14.grown hgrow b14.size (fun j hj => by have := (o14.lt j hj).1; omega)
      have s15 : w.heap.size + 2 ≤ W15.heap.size := Nat.le_trans s14 hgrow.size
      have k15 : W15.heap[w.heap.size]? = some (.cells K 27 (0, 0)) := (hgrow.block _ (heap_lt k14) (not_own k14 (by decide) o14)).trans k14
      have r15 : W15.heap[w.heap.size + 1]? = some (.cells Y 112 (0, 0)) := (hgrow.block _ (heap_lt r14) (not_own r14 (by decide) o14)).trans r14
      have z15 : W15.heap[W0.heap.size]? = some (.cells Z 27 (0, 0)) := (hgrow.block _ (heap_lt z14) (not_own z14 (by decide) o14)).trans z14
      refine hK9 _ _ ⟨trivial, ?_⟩
      clear hK9 K9 hown9
      have B15 : Bytes W15 a9 m9 := hB9
      show wpAnyH _ _ _ _ _ _ _ (((((A.put (some 6) (.slice (some ⟨w.heap.size, 0, none⟩) 32 32)).put (some 8) (.slice a n cap)).put (some 5) (.pointer (some ⟨W0.heap.size, 0, none⟩))).put (some 7) (.slice (some ⟨W13.heap.size, 0, none⟩) 1 1)).put (some 9) (.slice a9 m9.length c9)) _
      refine wpAnyH_all (rs := [4]) (by kernel_rfl) (by simp) fun i9 hm9 => ?_
      obtain rfl : i9 = 4 := by simpa using hm9
      refine wpOp_own rfl rfl fun K9 hK9 => ?_
      refine wp_calls2 59 hf_tag (.tmp 6) (.tmp 9) _ rfl (.slice (some ⟨w.heap.size, 0, none⟩) 32 32) (.slice a9 m9.length c9) ((ev_ne _ _ (by decide)).trans ((ev_ne _ _ (by decide)).trans ((ev_ne _ _ (by decide)).trans ((ev_ne _ _ (by decide)).trans (ev_eq _ _ (by simp [sz])))))) (ev_eq _ _ (by simp [put_sz, sz])) ?_
      refine (tag_any key (some ⟨w.heap.size, 0, none⟩) 32 32 HK.out.len.symm (HK.out.bytes k15) (by rw [HK.out.len]; omega) (by rw [HK.out.len]; omega) m9 a9 m9.length c9 rfl B15 (by omega) hc9 (HT.out.below b15)).mono ?_
      rintro _ W16 ⟨O, rfl, hO, hb9⟩
      have b16 : Below w.heap.size w W16 := Below.on' b15 hb9
      have s16 : w.heap.size + 2 ≤ W16.heap.size := Nat.le_trans s15 hb9.size
      have k16 := (hb9.block _ (heap_lt k15)).trans k15
      have r16 := (hb9.block _ (heap_lt r15)).trans r15
      have z16 := (hb9.block _ (heap_lt z15)).trans z15
      refine ⟨_, rfl, hK9 _ _ ⟨trivial, ?_⟩⟩
      clear hK9 K9
      show wpAnyH _ _ _ _ _ _ _ ((((((A.put (some 6) (.slice (some ⟨w.heap.size, 0, none⟩) 32 32)).put (some 8) (.slice a n cap)).put (some 5) (.pointer (some ⟨W0.heap.size, 0, none⟩))).put (some 7) (.slice (some ⟨W13.heap.size, 0, none⟩) 1 1)).put (some 9) (.slice a9 m9.length c9)).put (some 10) (.agg O)) _
      obtain ⟨A5, hA5⟩ : ∃ A5, A5 = ((((((A.put (some 6) (.slice (some ⟨w.heap.size, 0, none⟩) 32 32)).put (some 8) (.slice a n cap)).put (some 5) (.pointer (some ⟨W0.heap.size, 0, none⟩))).put (some 7) (.slice (some ⟨W13.heap.size, 0, none⟩) 1 1)).put (some 9) (.slice a9 m9.length c9)).put (some 10) (.agg O)) := ⟨_, rfl⟩
      have u5 : A5.eval (.tmp 5) = .pointer (some ⟨W0.heap.size, 0, none⟩) := by rw [hA5]; exact ((ev_ne _ _ (by decide)).trans ((ev_ne _ _ (by decide)).trans ((ev_ne _ _ (by decide)).trans (ev_eq _ _ (by simp [put_sz, sz])))))
      have u10 : A5.eval (.tmp 10) = .agg O := by rw [hA5]; exact (ev_eq _ _ (by simp [put_sz, sz]))
      rw [← hA5]
      refine wpAnyH_all (rs := [6]) (by kernel_rfl) (by simp) fun i9 hm9 => ?_
      obtain rfl : i9 = 6 := by simpa using hm9
      clear hm9
      refine wpOp_own rfl rfl fun K9 hK9 => ?_
      refine wp_store_hash (.tmp 5) (.tmp 10) rfl (W0.heap.size) O Z hO hz.out u5 u10 z16 ?_
      have hgz : w.heap.size + 2 ≤ W0.heap.size := by omega
      refine hK9 _ _ ⟨trivial, wpAnyH_done (by kernel_rfl) ⟨rfl, W0.heap.size, (.slice (some ⟨w.heap.size, 0, none⟩) 32 32 : Value), (.slice (some ⟨W13.heap.size, 0, none⟩) 1 1 : Value), (.slice a n cap : Value), (.slice a9 m9.length c9 : Value), (.agg O : Value), O, ?_, hO, setRow_heap _ _ _ _ _ _ z16, (setRow_other _ _ _ _ (by omega)).trans r16, b16.setRow (by omega) _⟩ _⟩
      show A5 = _
      rw [hA5, hA]; simp [Act.put]
  · rintro aa W ⟨gz, t6, t7, t8, t9, t10, O, rfl, hO, hrow, hres, hb⟩
    have HO := hid hO
    have Hr := hid hrow
    have Hs := hid hres
    have Hb := hid hb
    have HBy : Hid (Bytes W (some ⟨gz, 0, none⟩) ((hmac key m9).take 16)) := (hO.bytes hrow).take 16
    have l16 : ((hmac key m9).take 16).length = 16 := by rw [List.length_take, hO.len]; rfl
    obtain ⟨T, hT⟩ : ∃ T, T = bvs ((hmac key m9).take 16) := ⟨_, rfl⟩
    have HTV : Hid (TV T ((hmac key m9).take 16)) := ⟨hT, l16⟩
    have HTe := hid hT
    clear hO hrow hres hb hA e1 e2 sz b0 k0 r0 s0 HB HT hT
    go_wp2_with fail
    rw [run_array_tag _ _ _ _ (by omega)]
    simp only [Result.andThen]
    rw [Oper.upon_value]
    go_wp2_with (with_reducible show Go.wpList _ _ _ _ _ _; first
      | (refine wpList_load_tag rfl (.tmp 12) rfl gz 0 rfl _ l16 HBy.out ?_; rw [← HTe.out])
      | refine wpList_store_row rfl 112 (.tmp 4) (.tmp 13) rfl (w.heap.size + 1) T rfl rfl 112 Y Hs.out HTV.out.info (hy.out.size.trans HTV.out.size.symm) HTV.out.one ?_)
    show bodyPost _ _ _ _ _ _
    refine bodyPost_ret (results_cell_row rfl _ _ (w.heap.size + 1) 112 T (0, 0) _ rfl (setRow_heap _ _ _ _ _ _ Hs.out) Tryz.underlying112 rfl HTV.out.info) rfl ⟨T, rfl, ?_, Hb.out.setRow (by omega) _⟩
    show TV _ _
    rw [← Ht.out]; exact HTV.out
end Go.Proofs.YtomhcccjeadefaaGreatDoor
