/- YthfmpebgmojcaaaDoorETagOf + YthfmpebgmojcaaaDoorESeal + YthfmpebgmojcaaaDoorEOpenY + YthfmpebgmojcaaaDoorEOpen -/
import Derived.Test.YthfmpebgmojcaaaDoorETag
/- The tag of what stands ahead of it: seal.tagOf. -/
namespace Go.Proofs.YthfmpebgmojcaaaDoor.Ky
open Go.RowKit Go.Shelf
set_option linter.unusedVariables false
set_option maxRecDepth 20000
theorem hf_tag : ∀ (args : Array Value) (w : World), (callFunc 114 args).run Tryd.prog w = .ok (.enter 114 args) w := fun args w => by simp [go_sem]
theorem run_array_tag (a : Option Addr) (n c : Nat) (w : World) (h : 16 ≤ n) : (Instr.arrayAt 172 (.slice a n c)).run Tryd.prog w = .ok (.pointer a) w := by
  have h1 : ¬ n < 16 := by omega
  unfold Instr.arrayAt
  simp [go_sem, h1]
theorem app_srcG (w : World) {ops : Array Oper} {rest : List Oper} {o : Oper} {a : Act} {Q : Exit → Act → World → Prop} (hgd : o.guard = none) (s x : Operand)
    (ho : o.op = .call { callee := .builtin .append, args := #[s, x], argTypes := #[40, 40] }) (base : Nat) (v : Value) (xs : List UInt8) (hs : a.eval s = v)
    (hown : w.ownsRow base 5 1 v xs.length (cellsOf xs)) (ad : Option Addr) (n c : Nat) (news : List UInt8) (hn : n = news.length) (hx : a.eval x = .slice ad n c) (hB : Bytes w ad news) (hc : ad = none → c = 0)
    (hb : xs.length + news.length ≤ 140737488355328) (hbase : base ≤ w.heap.size)
    (h : ∀ v' w', w'.ownsRow base 5 1 v' (xs ++ news).length (cellsOf (xs ++ news)) → w.grownBy w' v.ownBlock → wpList Tryd.prog ops Q rest (a.put o.dst v') w') :
    wpList Tryd.prog ops Q (o :: rest) a w := by
  obtain ⟨i0, hi, hz0, hz1, hz2⟩ := info_parts Tryd.info5
  subst hn
  cases ad with
  | none =>
    have hl : news = [] := by
      cases news with
      | nil => rfl
      | cons c x => obtain ⟨b, o, e, _⟩ := hB 0 (by simp); cases e
    subst hl
    rw [hc rfl] at hx
    refine wpList_append_own_none hgd s x 40 ho base 5 i0 1 Tryd.underlying40 hi v xs.length (cellsOf xs) hs hown hx ?_
    refine h v w ?_ ⟨rfl, rfl, rfl, Nat.le_refl _, fun _ _ _ => rfl⟩
    rw [List.append_nil]
    exact hown
  | some ad =>
    refine wpList_append_own w hgd s x 40 ho base 5 i0 (.int .u8 0) 1 1 Tryd.underlying40 hi hz0 hz1 hz2 rfl (by decide) v xs.length (cellsOf xs) hs hown ad news.length c (cellsOf news) hx (by simp [cellsOf_length]) (fun j u hj => ?_) (cellsOf_one _) (by unfold maxLen; omega) (by omega) hbase ?_
    · have hj' : j < news.length := by
        have := (List.getElem?_eq_some_iff.1 hj).1
        simpa [cellsOf_length] using this
      obtain ⟨b, o, e, hcl⟩ := hB j hj'
      cases e
      rw [addr_add, hcl]
      rw [cellsOf_get news j hj'] at hj
      rw [← hj]
    · intro v' w' h1 h2 h3
      rw [← cellsOf_append, ← List.length_append] at h1
      exact h v' w' h1 h2
set_option maxHeartbeats 1000000 in
theorem tagOf_any {w : World} {K : Array Value} {key : List UInt8} (hK : HV K key) (ahead : List UInt8) (a : Option Addr) (n cap : Nat) (hn : n = ahead.length) (hB : Bytes w a ahead) (hc0 : a = none → cap = 0) (hl : ahead.length ≤ 100000) (hT : KAt w) :
    Calls Tryd.prog 97 #[.agg K, .slice a n cap] w fun e w' => ∃ O, e = .returned (.agg O) ∧ Hid (TV O (tagB key ahead)) ∧ Below w.heap.size w w' := by
  obtain ⟨Z, hZ⟩ : ∃ Z, Z = bvs (List.replicate 32 0) := ⟨_, rfl⟩
  have zh := (zero_of_info zero_hash).1
  rw [← hZ] at zh
  have hz : Hid (HV Z (List.replicate 32 0)) := by
    show HV _ _
    rw [hZ]; exact hv_zero
  have zh := hid zh
  obtain ⟨Y, hY⟩ : ∃ Y, Y = bvs (List.replicate 16 0) := ⟨_, rfl⟩
  have zt := (zero_of_info zero_tag).1
  rw [← hY] at zt
  have hy : Hid (TV Y (List.replicate 16 0)) := by
    show TV _ _
    rw [hY]; exact ⟨rfl, by simp⟩
  have zt := hid zt
  have HK := hid hK
  have HB := hid hB
  have HT := hid hT
  have Hn := hid hn
  have Hc0 := hid hc0
  have hinf : (Tryd.prog.info? 69).map (·.size) = some K.size := hK.info
  obtain ⟨m9, hm9⟩ : ∃ m9, m9 = [116] ++ ahead := ⟨_, rfl⟩
  have l9 : m9.length ≤ 100001 := by rw [hm9]; simp; omega
  have Ht : Hid ((hmac key m9).take 16 = tagB key ahead) := by
    show _ = _
    rw [hm9]; rfl
  have Hm9 := hid hm9
  clear hK hB hT hn hZ hY hc0 hm9
  go_enter Tryd.func97, Tryd.ntmps97
  go_wp2_with (with_reducible show Go.wpList _ _ _ _ _ _; refine wpList_alloc_row rfl 172 rfl Y zt.out ?_)
  have hm : Tryd.prog.follows .mixedOrders = true := by kernel_rfl
  obtain ⟨W0, hW0⟩ : ∃ W0, W0 = ((w.alloc (.cells K 69)).alloc (.cells Y 172)).drew := ⟨_, rfl⟩
  have b0 : Below w.heap.size w W0 := by rw [hW0]; exact (((Below.refl _ w).alloc (Nat.le_refl _) _).alloc (by simp) _).drew
  have k0 : W0.heap[w.heap.size]? = some (.cells K 69 (0, 0)) := by rw [hW0]; exact heap_alloc2_old w _ _
  have r0 : W0.heap[w.heap.size + 1]? = some (.cells Y 172 (0, 0)) := by rw [hW0]; exact heap_alloc2_new w _ _
  have s0 : w.heap.size + 2 ≤ W0.heap.size := by rw [hW0]; show _ ≤ ((w.alloc (.cells K 69)).alloc (.cells Y 172)).heap.size; simp
  refine wp_act _ fun A hA => ?_
  rw [show (w.alloc (.cells K 69)).heap.size = w.heap.size + 1 by simp] at hA
  have sz : A.tmps.size = 14 := by rw [hA]; rfl
  have e1 : A.eval (.tmp 1) = .slice a n cap := by rw [hA]; rfl
  have e2 : A.eval (.tmp 2) = .pointer (some ⟨w.heap.size, 0, none⟩) := by rw [hA]; rfl
  refine wp_split (fun A' W => ∃ gz t6 t7 t8 t9 t10 O, A' = ⟨#[.agg K, .slice a n cap, .pointer (some ⟨w.heap.size, 0, none⟩), undef, .pointer (some ⟨w.heap.size + 1, 0, none⟩), .pointer (some ⟨gz, 0, none⟩), t6, t7, t8, t9, t10, undef, undef, undef], []⟩ ∧ HV O (hmac key m9) ∧ W.heap[gz]? = some (.cells O 69 (0, 0)) ∧ W.heap[w.heap.size + 1]? = some (.cells Y 172 (0, 0)) ∧ Below w.heap.size w W) ?_ ?_
  · refine wp_region_held (S := fun _ => True) hm ?_
    rw [show ({ ((w.alloc (.cells K 69)).alloc (.cells Y 172)) with drawn := ((w.alloc (.cells K 69)).alloc (.cells Y 172)).drawn + 1 } : World) = W0 from hW0.symm]
    clear hW0
    refine wpAnyH_take (i := 0) (v := .slice (some ⟨w.heap.size, 0, none⟩) 32 32) rfl (by kernel_rfl) (by kernel_rfl) (by kernel_rfl) (fun _ _ _ h => nomatch h.1) (yields_slice_hash (by simp [Region.wanted]) (.tmp 2) rfl w.heap.size e2) trivial ?_
    refine wpAnyH_take (i := 2) (v := .slice a n cap) rfl (by kernel_rfl) (by kernel_rfl) (by kernel_rfl) (fun _ _ _ h => nomatch h.1) (yields_move (by simp [Region.wanted]) (.tmp 1) rfl _ (evn e1)) trivial ?_
    refine wpAnyH_all (rs := [1, 5]) (by kernel_rfl) (by simp) fun i9 hm9 => ?_
    rcases List.mem_cons.1 hm9 with rfl | hm8
    · refine wpOp_own rfl rfl fun K9 hK9 => ?_
      refine wp_build1 (.const (.int .u8 116)) rfl 116 rfl ?_
      obtain ⟨W1, hW1⟩ : ∃ X, X = W0.alloc (.cells (cellsOf [116]).toArray 5) := ⟨_, rfl⟩
      have b1 : Below w.heap.size w W1 := by rw [hW1]; exact b0.alloc b0.size _
      have s1 : w.heap.size + 2 ≤ W1.heap.size := by rw [hW1, World.size_alloc]; omega
      have k1 : W1.heap[w.heap.size]? = some (.cells K 69 (0, 0)) := by rw [hW1]; exact (Below.heap_alloc _ _ _ (heap_lt k0)).trans k0
      have r1 : W1.heap[w.heap.size + 1]? = some (.cells Y 172 (0, 0)) := by rw [hW1]; exact (Below.heap_alloc _ _ _ (heap_lt r0)).trans r0
      have o1 : W1.ownsRow (w.heap.size + 2) 5 1 (.slice (some ⟨W0.heap.size, 0, none⟩) 1 1) ([116] : List UInt8).length (cellsOf [116]) := by rw [hW1]; exact own_mono (own_lits W0 [116] (by simp)) s0
      refine hK9 _ _ ⟨trivial, ?_⟩
      rw [← hW1]
      clear hK9 K9
      show wpAnyH _ _ _ _ _ _ _ (((A.put (some 6) (.slice (some ⟨w.heap.size, 0, none⟩) 32 32)).put (some 8) (.slice a n cap)).put (some 7) (.slice (some ⟨W0.heap.size, 0, none⟩) 1 1)) _
      refine wpAnyH_all (rs := [3, 5]) (by kernel_rfl) (by simp) fun i9 hm9 => ?_
      rcases List.mem_cons.1 hm9 with rfl | hm8
      · refine wpOp_own rfl rfl fun K9 hK9 => ?_
        refine wp_of_list (ops := #[]) rfl (fun A9 X9 => ∃ v9, A9 = (((A.put (some 6) (.slice (some ⟨w.heap.size, 0, none⟩) 32 32)).put (some 8) (.slice a n cap)).put (some 7) (.slice (some ⟨W0.heap.size, 0, none⟩) 1 1)).put (some 9) v9 ∧ X9.ownsRow (w.heap.size + 2) 5 1 v9 ([116] ++ ahead).length (cellsOf ([116] ++ ahead)) ∧ W1.grownBy X9 (Value.ownBlock (.slice (some ⟨W0.heap.size, 0, none⟩) 1 1))) (app_srcG W1 rfl (.tmp 7) (.tmp 8) rfl (w.heap.size + 2) _ [116] (ev_eq _ _ (by simp [put_sz, sz])) o1 a n cap ahead Hn.out (evn (ev_eq _ _ (by simp [put_sz, sz]))) (HB.out.below b1) Hc0.out (by simp; omega) s1 (fun v9 w9 h1 h2 => wpList_nil ⟨rfl, v9, rfl, h1, h2⟩)) ?_
        rintro _ W2 ⟨v9, rfl, hown9, hgrow⟩
        rw [← Hm9.out] at hown9
        obtain ⟨a9, c9, rfl, hB9, hc9⟩ := bytes_of_own hown9
        have b2 : Below w.heap.size w W2 := b1.grown hgrow b1.size (fun j hj => by have := (o1.lt j hj).1; omega)
        have s2 : w.heap.size + 2 ≤ W2.heap.size := Nat.le_trans s1 hgrow.size
        have k2 : W2.heap[w.heap.size]? = some (.cells K 69 (0, 0)) := (hgrow.block _ (heap_lt k1) (not_own k1 (by decide) o1)).trans k1
        have r2 : W2.heap[w.heap.size + 1]? = some (.cells Y 172 (0, 0)) := (hgrow.block _ (heap_lt r1) (not_own r1 (by decide) o1)).trans r1
        refine hK9 _ _ ⟨trivial, ?_⟩
        clear hK9 K9 hown9
        have B2 : Bytes W2 a9 m9 := hB9
        show wpAnyH _ _ _ _ _ _ _ ((((A.put (some 6) (.slice (some ⟨w.heap.size, 0, none⟩) 32 32)).put (some 8) (.slice a n cap)).put (some 7) (.slice (some ⟨W0.heap.size, 0, none⟩) 1 1)).put (some 9) (.slice a9 m9.length c9)) _
        refine wpAnyH_all (rs := [4, 5]) (by kernel_rfl) (by simp) fun i9 hm9 => ?_
        rcases List.mem_cons.1 hm9 with rfl | hm8
        · refine wpOp_own rfl rfl fun K9 hK9 => ?_
          refine wp_calls2 114 hf_tag (.tmp 6) (.tmp 9) _ rfl (.slice (some ⟨w.heap.size, 0, none⟩) 32 32) (.slice a9 m9.length c9) (evn (evn (evn (ev_eq _ _ (by simp [sz]))))) (ev_eq _ _ (by simp [put_sz, sz])) ?_
          refine (tag_any key (some ⟨w.heap.size, 0, none⟩) 32 32 HK.out.len.symm (HK.out.bytes k2) (by rw [HK.out.len]; omega) (by rw [HK.out.len]; omega) m9 a9 m9.length c9 rfl B2 (by omega) hc9 (HT.out.below b2)).mono ?_
          rintro _ W3 ⟨O, rfl, hO, hb9⟩
          have b3 : Below w.heap.size w W3 := Below.on' b2 hb9
          have s3 : w.heap.size + 2 ≤ W3.heap.size := Nat.le_trans s2 hb9.size
          have k3 := (hb9.block _ (heap_lt k2)).trans k2
          have r3 := (hb9.block _ (heap_lt r2)).trans r2
          refine ⟨_, rfl, hK9 _ _ ⟨trivial, ?_⟩⟩
          clear hK9 K9
          show wpAnyH _ _ _ _ _ _ _ (((((A.put (some 6) (.slice (some ⟨w.heap.size, 0, none⟩) 32 32)).put (some 8) (.slice a n cap)).put (some 7) (.slice (some ⟨W0.heap.size, 0, none⟩) 1 1)).put (some 9) (.slice a9 m9.length c9)).put (some 10) (.agg O)) _
          refine wpAnyH_all (rs := [5]) (by kernel_rfl) (by simp) fun i9 hm9 => ?_
          obtain rfl : i9 = 5 := by simpa using hm9
          refine wpOp_own rfl rfl fun K9 hK9 => ?_
          refine wp_of_list (ops := #[]) rfl (fun A9 X9 => A9 = (((((A.put (some 6) (.slice (some ⟨w.heap.size, 0, none⟩) 32 32)).put (some 8) (.slice a n cap)).put (some 7) (.slice (some ⟨W0.heap.size, 0, none⟩) 1 1)).put (some 9) (.slice a9 m9.length c9)).put (some 10) (.agg O)).put (some 5) (.pointer (some ⟨W3.heap.size, 0, none⟩)) ∧ X9 = W3.alloc (.cells Z 69)) (wpList_alloc_row rfl 69 rfl Z zh.out (wpList_nil ⟨rfl, rfl, rfl⟩)) ?_
          rintro _ _ ⟨rfl, rfl⟩
          obtain ⟨W4, hW4⟩ : ∃ X, X = W3.alloc (.cells Z 69) := ⟨_, rfl⟩
          have b4 : Below w.heap.size w W4 := by rw [hW4]; exact b3.alloc b3.size _
          have s4 : w.heap.size + 2 ≤ W4.heap.size := by rw [hW4, World.size_alloc]; omega
          have k4 : W4.heap[w.heap.size]? = some (.cells K 69 (0, 0)) := by rw [hW4]; exact (Below.heap_alloc _ _ _ (heap_lt k3)).trans k3
          have r4 : W4.heap[w.heap.size + 1]? = some (.cells Y 172 (0, 0)) := by rw [hW4]; exact (Below.heap_alloc _ _ _ (heap_lt r3)).trans r3
          have z4 : W4.heap[W3.heap.size]? = some (.cells Z 69 (0, 0)) := by rw [hW4]; exact heap_alloc_new W3 _
          refine hK9 _ _ ⟨trivial, ?_⟩
          rw [← hW4]
          clear hK9 K9
          show wpAnyH _ _ _ _ _ _ _ ((((((A.put (some 6) (.slice (some ⟨w.heap.size, 0, none⟩) 32 32)).put (some 8) (.slice a n cap)).put (some 7) (.slice (some ⟨W0.heap.size, 0, none⟩) 1 1)).put (some 9) (.slice a9 m9.length c9)).put (some 10) (.agg O)).put (some 5) (.pointer (some ⟨W3.heap.size, 0, none⟩))) _
          obtain ⟨A5, hA5⟩ : ∃ A5, A5 = ((((((A.put (some 6) (.slice (some ⟨w.heap.size, 0, none⟩) 32 32)).put (some 8) (.slice a n cap)).put (some 7) (.slice (some ⟨W0.heap.size, 0, none⟩) 1 1)).put (some 9) (.slice a9 m9.length c9)).put (some 10) (.agg O)).put (some 5) (.pointer (some ⟨W3.heap.size, 0, none⟩))) := ⟨_, rfl⟩
          have u5 : A5.eval (.tmp 5) = .pointer (some ⟨W3.heap.size, 0, none⟩) := by rw [hA5]; exact (ev_eq _ _ (by simp [put_sz, sz]))
          have u10 : A5.eval (.tmp 10) = .agg O := by rw [hA5]; exact (evn (ev_eq _ _ (by simp [put_sz, sz])))
          rw [← hA5]
          refine wpAnyH_all (rs := [6]) (by kernel_rfl) (by simp) fun i9 hm9 => ?_
          obtain rfl : i9 = 6 := by simpa using hm9
          clear hm9
          refine wpOp_own rfl rfl fun K9 hK9 => ?_
          refine wp_store_hash (.tmp 5) (.tmp 10) rfl (W3.heap.size) O Z hO hz.out u5 u10 z4 ?_
          have hgz : w.heap.size + 2 ≤ W3.heap.size := by omega
          refine hK9 _ _ ⟨trivial, wpAnyH_done (by kernel_rfl) ⟨rfl, W3.heap.size, (.slice (some ⟨w.heap.size, 0, none⟩) 32 32 : Value), (.slice (some ⟨W0.heap.size, 0, none⟩) 1 1 : Value), (.slice a n cap : Value), (.slice a9 m9.length c9 : Value), (.agg O : Value), O, ?_, hO, setRow_heap _ _ _ _ _ _ z4, (setRow_other _ _ _ _ (by omega)).trans r4, b4.setRow (by omega) _⟩ _⟩
          show A5 = _
          rw [hA5, hA]; simp [Act.put]
        · obtain rfl : i9 = 5 := by simpa using hm8
          refine wpOp_own rfl rfl fun K9 hK9 => ?_
          refine wp_of_list (ops := #[]) rfl (fun A9 X9 => A9 = ((((A.put (some 6) (.slice (some ⟨w.heap.size, 0, none⟩) 32 32)).put (some 8) (.slice a n cap)).put (some 7) (.slice (some ⟨W0.heap.size, 0, none⟩) 1 1)).put (some 9) (.slice a9 m9.length c9)).put (some 5) (.pointer (some ⟨W2.heap.size, 0, none⟩)) ∧ X9 = W2.alloc (.cells Z 69)) (wpList_alloc_row rfl 69 rfl Z zh.out (wpList_nil ⟨rfl, rfl, rfl⟩)) ?_
          rintro _ _ ⟨rfl, rfl⟩
          obtain ⟨W6, hW6⟩ : ∃ X, X = W2.alloc (.cells Z 69) := ⟨_, rfl⟩
          have b6 : Below w.heap.size w W6 := by rw [hW6]; exact b2.alloc b2.size _
          have s6 : w.heap.size + 2 ≤ W6.heap.size := by rw [hW6, World.size_alloc]; omega
          have k6 : W6.heap[w.heap.size]? = some (.cells K 69 (0, 0)) := by rw [hW6]; exact (Below.heap_alloc _ _ _ (heap_lt k2)).trans k2
          have r6 : W6.heap[w.heap.size + 1]? = some (.cells Y 172 (0, 0)) := by rw [hW6]; exact (Below.heap_alloc _ _ _ (heap_lt r2)).trans r2
          have z6 : W6.heap[W2.heap.size]? = some (.cells Z 69 (0, 0)) := by rw [hW6]; exact heap_alloc_new W2 _
          have B6 : Bytes W6 a9 m9 := by rw [hW6]; exact B2.below ((Below.refl _ W2).alloc (Nat.le_refl _) _)
          refine hK9 _ _ ⟨trivial, ?_⟩
          rw [← hW6]
          clear hK9 K9
          show wpAnyH _ _ _ _ _ _ _ (((((A.put (some 6) (.slice (some ⟨w.heap.size, 0, none⟩) 32 32)).put (some 8) (.slice a n cap)).put (some 7) (.slice (some ⟨W0.heap.size, 0, none⟩) 1 1)).put (some 9) (.slice a9 m9.length c9)).put (some 5) (.pointer (some ⟨W2.heap.size, 0, none⟩))) _
          refine wpAnyH_all (rs := [4]) (by kernel_rfl) (by simp) fun i9 hm9 => ?_
          obtain rfl : i9 = 4 := by simpa using hm9
          refine wpOp_own rfl rfl fun K9 hK9 => ?_
          refine wp_calls2 114 hf_tag (.tmp 6) (.tmp 9) _ rfl (.slice (some ⟨w.heap.size, 0, none⟩) 32 32) (.slice a9 m9.length c9) (evn (evn (evn (evn (ev_eq _ _ (by simp [sz])))))) (evn (ev_eq _ _ (by simp [put_sz, sz]))) ?_
          refine (tag_any key (some ⟨w.heap.size, 0, none⟩) 32 32 HK.out.len.symm (HK.out.bytes k6) (by rw [HK.out.len]; omega) (by rw [HK.out.len]; omega) m9 a9 m9.length c9 rfl B6 (by omega) hc9 (HT.out.below b6)).mono ?_
          rintro _ W7 ⟨O, rfl, hO, hb9⟩
          have b7 : Below w.heap.size w W7 := Below.on' b6 hb9
          have s7 : w.heap.size + 2 ≤ W7.heap.size := Nat.le_trans s6 hb9.size
          have k7 := (hb9.block _ (heap_lt k6)).trans k6
          have r7 := (hb9.block _ (heap_lt r6)).trans r6
          have z7 := (hb9.block _ (heap_lt z6)).trans z6
          refine ⟨_, rfl, hK9 _ _ ⟨trivial, ?_⟩⟩
          clear hK9 K9
          show wpAnyH _ _ _ _ _ _ _ ((((((A.put (some 6) (.slice (some ⟨w.heap.size, 0, none⟩) 32 32)).put (some 8) (.slice a n cap)).put (some 7) (.slice (some ⟨W0.heap.size, 0, none⟩) 1 1)).put (some 9) (.slice a9 m9.length c9)).put (some 5) (.pointer (some ⟨W2.heap.size, 0, none⟩))).put (some 10) (.agg O)) _
          obtain ⟨A5, hA5⟩ : ∃ A5, A5 = ((((((A.put (some 6) (.slice (some ⟨w.heap.size, 0, none⟩) 32 32)).put (some 8) (.slice a n cap)).put (some 7) (.slice (some ⟨W0.heap.size, 0, none⟩) 1 1)).put (some 9) (.slice a9 m9.length c9)).put (some 5) (.pointer (some ⟨W2.heap.size, 0, none⟩))).put (some 10) (.agg O)) := ⟨_, rfl⟩
          have u5 : A5.eval (.tmp 5) = .pointer (some ⟨W2.heap.size, 0, none⟩) := by rw [hA5]; exact (evn (ev_eq _ _ (by simp [put_sz, sz])))
          have u10 : A5.eval (.tmp 10) = .agg O := by rw [hA5]; exact (ev_eq _ _ (by simp [put_sz, sz]))
          rw [← hA5]
          refine wpAnyH_all (rs := [6]) (by kernel_rfl) (by simp) fun i9 hm9 => ?_
          obtain rfl : i9 = 6 := by simpa using hm9
          clear hm9
          refine wpOp_own rfl rfl fun K9 hK9 => ?_
          refine wp_store_hash (.tmp 5) (.tmp 10) rfl (W2.heap.size) O Z hO hz.out u5 u10 z7 ?_
          have hgz : w.heap.size + 2 ≤ W2.heap.size := by omega
          refine hK9 _ _ ⟨trivial, wpAnyH_done (by kernel_rfl) ⟨rfl, W2.heap.size, (.slice (some ⟨w.heap.size, 0, none⟩) 32 32 : Value), (.slice (some ⟨W0.heap.size, 0, none⟩) 1 1 : Value), (.slice a n cap : Value), (.slice a9 m9.length c9 : Value), (.agg O : Value), O, ?_, hO, setRow_heap _ _ _ _ _ _ z7, (setRow_other _ _ _ _ (by omega)).trans r7, b7.setRow (by omega) _⟩ _⟩
          show A5 = _
          rw [hA5, hA]; simp [Act.put]
      · obtain rfl : i9 = 5 := by simpa using hm8
        refine wpOp_own rfl rfl fun K9 hK9 => ?_
        refine wp_of_list (ops := #[]) rfl (fun A9 X9 => A9 = (((A.put (some 6) (.slice (some ⟨w.heap.size, 0, none⟩) 32 32)).put (some 8) (.slice a n cap)).put (some 7) (.slice (some ⟨W0.heap.size, 0, none⟩) 1 1)).put (some 5) (.pointer (some ⟨W1.heap.size, 0, none⟩)) ∧ X9 = W1.alloc (.cells Z 69)) (wpList_alloc_row rfl 69 rfl Z zh.out (wpList_nil ⟨rfl, rfl, rfl⟩)) ?_
        rintro _ _ ⟨rfl, rfl⟩
        obtain ⟨W9, hW9⟩ : ∃ X, X = W1.alloc (.cells Z 69) := ⟨_, rfl⟩
        have b9 : Below w.heap.size w W9 := by rw [hW9]; exact b1.alloc b1.size _
        have s9 : w.heap.size + 2 ≤ W9.heap.size := by rw [hW9, World.size_alloc]; omega
        have k9 : W9.heap[w.heap.size]? = some (.cells K 69 (0, 0)) := by rw [hW9]; exact (Below.heap_alloc _ _ _ (heap_lt k1)).trans k1
        have r9 : W9.heap[w.heap.size + 1]? = some (.cells Y 172 (0, 0)) := by rw [hW9]; exact (Below.heap_alloc _ _ _ (heap_lt r1)).trans r1
        have z9 : W9.heap[W1.heap.size]? = some (.cells Z 69 (0, 0)) := by rw [hW9]; exact heap_alloc_new W1 _
        have o9 : W9.ownsRow (w.heap.size + 2) 5 1 (.slice (some ⟨W0.heap.size, 0, none⟩) 1 1) ([116] : List UInt8).length (cellsOf [116]) := by rw [hW9]; exact o1.alloc _
        refine hK9 _ _ ⟨trivial, ?_⟩
        rw [← hW9]
        clear hK9 K9
        show wpAnyH _ _ _ _ _ _ _ ((((A.put (some 6) (.slice (some ⟨w.heap.size, 0, none⟩) 32 32)).put (some 8) (.slice a n cap)).put (some 7) (.slice (some ⟨W0.heap.size, 0, none⟩) 1 1)).put (some 5) (.pointer (some ⟨W1.heap.size, 0, none⟩))) _
        refine wpAnyH_all (rs := [3]) (by kernel_rfl) (by simp) fun i9 hm9 => ?_
        obtain rfl : i9 = 3 := by simpa using hm9
        refine wpOp_own rfl rfl fun K9 hK9 => ?_
        refine wp_of_list (ops := #[]) rfl (fun A9 X9 => ∃ v9, A9 = ((((A.put (some 6) (.slice (some ⟨w.heap.size, 0, none⟩) 32 32)).put (some 8) (.slice a n cap)).put (some 7) (.slice (some ⟨W0.heap.size, 0, none⟩) 1 1)).put (some 5) (.pointer (some ⟨W1.heap.size, 0, none⟩))).put (some 9) v9 ∧ X9.ownsRow (w.heap.size + 2) 5 1 v9 ([116] ++ ahead).length (cellsOf ([116] ++ ahead)) ∧ W9.grownBy X9 (Value.ownBlock (.slice (some ⟨W0.heap.size, 0, none⟩) 1 1))) (app_srcG W9 rfl (.tmp 7) (.tmp 8) rfl (w.heap.size + 2) _ [116] (evn (ev_eq _ _ (by simp [put_sz, sz]))) o9 a n cap ahead Hn.out (evn (evn (ev_eq _ _ (by simp [put_sz, sz])))) (HB.out.below b9) Hc0.out (by simp; omega) s9 (fun v9 w9 h1 h2 => wpList_nil ⟨rfl, v9, rfl, h1, h2⟩)) ?_
        rintro _ W10 ⟨v9, rfl, hown9, hgrow⟩
        rw [← Hm9.out] at hown9
        obtain ⟨a9, c9, rfl, hB9, hc9⟩ := bytes_of_own hown9
        have b10 : Below w.heap.size w W10 := b9.grown hgrow b9.size (fun j hj => by have := (o9.lt j hj).1; omega)
        have s10 : w.heap.size + 2 ≤ W10.heap.size := Nat.le_trans s9 hgrow.size
        have k10 : W10.heap[w.heap.size]? = some (.cells K 69 (0, 0)) := (hgrow.block _ (heap_lt k9) (not_own k9 (by decide) o9)).trans k9
        have r10 : W10.heap[w.heap.size + 1]? = some (.cells Y 172 (0, 0)) := (hgrow.block _ (heap_lt r9) (not_own r9 (by decide) o9)).trans r9
        have z10 : W10.heap[W1.heap.size]? = some (.cells Z 69 (0, 0)) := (hgrow.block _ (heap_lt z9) (not_own z9 (by decide) o9)).trans z9
        refine hK9 _ _ ⟨trivial, ?_⟩
        clear hK9 K9 hown9
        have B10 : Bytes W10 a9 m9 := hB9
        show wpAnyH _ _ _ _ _ _ _ (((((A.put (some 6) (.slice (some ⟨w.heap.size, 0, none⟩) 32 32)).put (some 8) (.slice a n cap)).put (some 7) (.slice (some ⟨W0.heap.size, 0, none⟩) 1 1)).put (some 5) (.pointer (some ⟨W1.heap.size, 0, none⟩))).put (some 9) (.slice a9 m9.length c9)) _
        refine wpAnyH_all (rs := [4]) (by kernel_rfl) (by simp) fun i9 hm9 => ?_
        obtain rfl : i9 = 4 := by simpa using hm9
        refine wpOp_own rfl rfl fun K9 hK9 => ?_
        refine wp_calls2 114 hf_tag (.tmp 6) (.tmp 9) _ rfl (.slice (some ⟨w.heap.size, 0, none⟩) 32 32) (.slice a9 m9.length c9) (evn (evn (evn (evn (ev_eq _ _ (by simp [sz])))))) (ev_eq _ _ (by simp [put_sz, sz])) ?_
        refine (tag_any key (some ⟨w.heap.size, 0, none⟩) 32 32 HK.out.len.symm (HK.out.bytes k10) (by rw [HK.out.len]; omega) (by rw [HK.out.len]; omega) m9 a9 m9.length c9 rfl B10 (by omega) hc9 (HT.out.below b10)).mono ?_
        rintro _ W11 ⟨O, rfl, hO, hb9⟩
        have b11 : Below w.heap.size w W11 := Below.on' b10 hb9
        have s11 : w.heap.size + 2 ≤ W11.heap.size := Nat.le_trans s10 hb9.size
        have k11 := (hb9.block _ (heap_lt k10)).trans k10
        have r11 := (hb9.block _ (heap_lt r10)).trans r10
        have z11 := (hb9.block _ (heap_lt z10)).trans z10
        refine ⟨_, rfl, hK9 _ _ ⟨trivial, ?_⟩⟩
        clear hK9 K9
        show wpAnyH _ _ _ _ _ _ _ ((((((A.put (some 6) (.slice (some ⟨w.heap.size, 0, none⟩) 32 32)).put (some 8) (.slice a n cap)).put (some 7) (.slice (some ⟨W0.heap.size, 0, none⟩) 1 1)).put (some 5) (.pointer (some ⟨W1.heap.size, 0, none⟩))).put (some 9) (.slice a9 m9.length c9)).put (some 10) (.agg O)) _
        obtain ⟨A5, hA5⟩ : ∃ A5, A5 = ((((((A.put (some 6) (.slice (some ⟨w.heap.size, 0, none⟩) 32 32)).put (some 8) (.slice a n cap)).put (some 7) (.slice (some ⟨W0.heap.size, 0, none⟩) 1 1)).put (some 5) (.pointer (some ⟨W1.heap.size, 0, none⟩))).put (some 9) (.slice a9 m9.length c9)).put (some 10) (.agg O)) := ⟨_, rfl⟩
        have u5 : A5.eval (.tmp 5) = .pointer (some ⟨W1.heap.size, 0, none⟩) := by rw [hA5]; exact (evn (evn (ev_eq _ _ (by simp [put_sz, sz]))))
        have u10 : A5.eval (.tmp 10) = .agg O := by rw [hA5]; exact (ev_eq _ _ (by simp [put_sz, sz]))
        rw [← hA5]
        refine wpAnyH_all (rs := [6]) (by kernel_rfl) (by simp) fun i9 hm9 => ?_
        obtain rfl : i9 = 6 := by simpa using hm9
        clear hm9
        refine wpOp_own rfl rfl fun K9 hK9 => ?_
        refine wp_store_hash (.tmp 5) (.tmp 10) rfl (W1.heap.size) O Z hO hz.out u5 u10 z11 ?_
        have hgz : w.heap.size + 2 ≤ W1.heap.size := by omega
        refine hK9 _ _ ⟨trivial, wpAnyH_done (by kernel_rfl) ⟨rfl, W1.heap.size, (.slice (some ⟨w.heap.size, 0, none⟩) 32 32 : Value), (.slice (some ⟨W0.heap.size, 0, none⟩) 1 1 : Value), (.slice a n cap : Value), (.slice a9 m9.length c9 : Value), (.agg O : Value), O, ?_, hO, setRow_heap _ _ _ _ _ _ z11, (setRow_other _ _ _ _ (by omega)).trans r11, b11.setRow (by omega) _⟩ _⟩
        show A5 = _
        rw [hA5, hA]; simp [Act.put]
    · obtain rfl : i9 = 5 := by simpa using hm8
      refine wpOp_own rfl rfl fun K9 hK9 => ?_
      refine wp_of_list (ops := #[]) rfl (fun A9 X9 => A9 = ((A.put (some 6) (.slice (some ⟨w.heap.size, 0, none⟩) 32 32)).put (some 8) (.slice a n cap)).put (some 5) (.pointer (some ⟨W0.heap.size, 0, none⟩)) ∧ X9 = W0.alloc (.cells Z 69)) (wpList_alloc_row rfl 69 rfl Z zh.out (wpList_nil ⟨rfl, rfl, rfl⟩)) ?_
      rintro _ _ ⟨rfl, rfl⟩
      obtain ⟨W13, hW13⟩ : ∃ X, X = W0.alloc (.cells Z 69) := ⟨_, rfl⟩
      have b13 : Below w.heap.size w W13 := by rw [hW13]; exact b0.alloc b0.size _
      have s13 : w.heap.size + 2 ≤ W13.heap.size := by rw [hW13, World.size_alloc]; omega
      have k13 : W13.heap[w.heap.size]? = some (.cells K 69 (0, 0)) := by rw [hW13]; exact (Below.heap_alloc _ _ _ (heap_lt k0)).trans k0
      have r13 : W13.heap[w.heap.size + 1]? = some (.cells Y 172 (0, 0)) := by rw [hW13]; exact (Below.heap_alloc _ _ _ (heap_lt r0)).trans r0
      have z13 : W13.heap[W0.heap.size]? = some (.cells Z 69 (0, 0)) := by rw [hW13]; exact heap_alloc_new W0 _
      refine hK9 _ _ ⟨trivial, ?_⟩
      rw [← hW13]
      clear hK9 K9
      show wpAnyH _ _ _ _ _ _ _ (((A.put (some 6) (.slice (some ⟨w.heap.size, 0, none⟩) 32 32)).put (some 8) (.slice a n cap)).put (some 5) (.pointer (some ⟨W0.heap.size, 0, none⟩))) _
      refine wpAnyH_all (rs := [1]) (by kernel_rfl) (by simp) fun i9 hm9 => ?_
      obtain rfl : i9 = 1 := by simpa using hm9
      refine wpOp_own rfl rfl fun K9 hK9 => ?_
      refine wp_build1 (.const (.int .u8 116)) rfl 116 rfl ?_
      obtain ⟨W14, hW14⟩ : ∃ X, X = W13.alloc (.cells (cellsOf [116]).toArray 5) := ⟨_, rfl⟩
      have b14 : Below w.heap.size w W14 := by rw [hW14]; exact b13.alloc b13.size _
      have s14 : w.heap.size + 2 ≤ W14.heap.size := by rw [hW14, World.size_alloc]; omega
      have k14 : W14.heap[w.heap.size]? = some (.cells K 69 (0, 0)) := by rw [hW14]; exact (Below.heap_alloc _ _ _ (heap_lt k13)).trans k13
      have r14 : W14.heap[w.heap.size + 1]? = some (.cells Y 172 (0, 0)) := by rw [hW14]; exact (Below.heap_alloc _ _ _ (heap_lt r13)).trans r13
      have z14 : W14.heap[W0.heap.size]? = some (.cells Z 69 (0, 0)) := by rw [hW14]; exact (Below.heap_alloc _ _ _ (heap_lt z13)).trans z13
      have o14 : W14.ownsRow (w.heap.size + 2) 5 1 (.slice (some ⟨W13.heap.size, 0, none⟩) 1 1) ([116] : List UInt8).length (cellsOf [116]) := by rw [hW14]; exact own_mono (own_lits W13 [116] (by simp)) s13
      refine hK9 _ _ ⟨trivial, ?_⟩
      rw [← hW14]
      clear hK9 K9
      show wpAnyH _ _ _ _ _ _ _ ((((A.put (some 6) (.slice (some ⟨w.heap.size, 0, none⟩) 32 32)).put (some 8) (.slice a n cap)).put (some 5) (.pointer (some ⟨W0.heap.size, 0, none⟩))).put (some 7) (.slice (some ⟨W13.heap.size, 0, none⟩) 1 1)) _
      refine wpAnyH_all (rs := [3]) (by kernel_rfl) (by simp) fun i9 hm9 => ?_
      obtain rfl : i9 = 3 := by simpa using hm9
      refine wpOp_own rfl rfl fun K9 hK9 => ?_
      refine wp_of_list (ops := #[]) rfl (fun A9 X9 => ∃ v9, A9 = ((((A.put (some 6) (.slice (some ⟨w.heap.size, 0, none⟩) 32 32)).put (some 8) (.slice a n cap)).put (some 5) (.pointer (some ⟨W0.heap.size, 0, none⟩))).put (some 7) (.slice (some ⟨W13.heap.size, 0, none⟩) 1 1)).put (some 9) v9 ∧ X9.ownsRow (w.heap.size + 2) 5 1 v9 ([116] ++ ahead).length (cellsOf ([116] ++ ahead)) ∧ W14.grownBy X9 (Value.ownBlock (.slice (some ⟨W13.heap.size, 0, none⟩) 1 1))) (app_srcG W14 rfl (.tmp 7) (.tmp 8) rfl (w.heap.size + 2) _ [116] (ev_eq _ _ (by simp [put_sz, sz])) o14 a n cap ahead Hn.out (evn (evn (ev_eq _ _ (by simp [put_sz, sz])))) (HB.out.below b14) Hc0.out (by simp; omega) s14 (fun v9 w9 h1 h2 => wpList_nil ⟨rfl, v9, rfl, h1, h2⟩)) ?_
      rintro _ W15 ⟨v9, rfl, hown9, hgrow⟩
      rw [← Hm9.out] at hown9
      obtain ⟨a9, c9, rfl, hB9, hc9⟩ := bytes_of_own hown9
      have b15 : Below w.heap.size w W15 := b14.grown hgrow b14.size (fun j hj => by have := (o14.lt j hj).1; omega)
      have s15 : w.heap.size + 2 ≤ W15.heap.size := Nat.le_trans s14 hgrow.size
      have k15 : W15.heap[w.heap.size]? = some (.cells K 69 (0, 0)) := (hgrow.block _ (heap_lt k14) (not_own k14 (by decide) o14)).trans k14
      have r15 : W15.heap[w.heap.size + 1]? = some (.cells Y 172 (0, 0)) := (hgrow.block _ (heap_lt r14) (not_own r14 (by decide) o14)).trans r14
      have z15 : W15.heap[W0.heap.size]? = some (.cells Z 69 (0, 0)) := (hgrow.block _ (heap_lt z14) (not_own z14 (by decide) o14)).trans z14
      refine hK9 _ _ ⟨trivial, ?_⟩
      clear hK9 K9 hown9
      have B15 : Bytes W15 a9 m9 := hB9
      show wpAnyH _ _ _ _ _ _ _ (((((A.put (some 6) (.slice (some ⟨w.heap.size, 0, none⟩) 32 32)).put (some 8) (.slice a n cap)).put (some 5) (.pointer (some ⟨W0.heap.size, 0, none⟩))).put (some 7) (.slice (some ⟨W13.heap.size, 0, none⟩) 1 1)).put (some 9) (.slice a9 m9.length c9)) _
      refine wpAnyH_all (rs := [4]) (by kernel_rfl) (by simp) fun i9 hm9 => ?_
      obtain rfl : i9 = 4 := by simpa using hm9
      refine wpOp_own rfl rfl fun K9 hK9 => ?_
      refine wp_calls2 114 hf_tag (.tmp 6) (.tmp 9) _ rfl (.slice (some ⟨w.heap.size, 0, none⟩) 32 32) (.slice a9 m9.length c9) (evn (evn (evn (evn (ev_eq _ _ (by simp [sz])))))) (ev_eq _ _ (by simp [put_sz, sz])) ?_
      refine (tag_any key (some ⟨w.heap.size, 0, none⟩) 32 32 HK.out.len.symm (HK.out.bytes k15) (by rw [HK.out.len]; omega) (by rw [HK.out.len]; omega) m9 a9 m9.length c9 rfl B15 (by omega) hc9 (HT.out.below b15)).mono ?_
      rintro _ W16 ⟨O, rfl, hO, hb9⟩
      have b16 : Below w.heap.size w W16 := Below.on' b15 hb9
      have s16 : w.heap.size + 2 ≤ W16.heap.size := Nat.le_trans s15 hb9.size
      have k16 := (hb9.block _ (heap_lt k15)).trans k15
      have r16 := (hb9.block _ (heap_lt r15)).trans r15
      have z16 := (hb9.block _ (heap_lt z15)).trans z15
      refine ⟨_, rfl, hK9 _ _ ⟨trivial, ?_⟩⟩
      clear hK9 K9
      show wpAnyH _ _ _ _ _ _ _ ((((((A.put (some 6) (.slice (some ⟨w.heap.size, 0, none⟩) 32 32)).put (some 8) (.slice a n cap)).put (some 5) (.pointer (some ⟨W0.heap.size, 0, none⟩))).put (some 7) (.slice (some ⟨W13.heap.size, 0, none⟩) 1 1)).put (some 9) (.slice a9 m9.length c9)).put (some 10) (.agg O)) _
      obtain ⟨A5, hA5⟩ : ∃ A5, A5 = ((((((A.put (some 6) (.slice (some ⟨w.heap.size, 0, none⟩) 32 32)).put (some 8) (.slice a n cap)).put (some 5) (.pointer (some ⟨W0.heap.size, 0, none⟩))).put (some 7) (.slice (some ⟨W13.heap.size, 0, none⟩) 1 1)).put (some 9) (.slice a9 m9.length c9)).put (some 10) (.agg O)) := ⟨_, rfl⟩
      have u5 : A5.eval (.tmp 5) = .pointer (some ⟨W0.heap.size, 0, none⟩) := by rw [hA5]; exact (evn (evn (evn (ev_eq _ _ (by simp [put_sz, sz])))))
      have u10 : A5.eval (.tmp 10) = .agg O := by rw [hA5]; exact (ev_eq _ _ (by simp [put_sz, sz]))
      rw [← hA5]
      refine wpAnyH_all (rs := [6]) (by kernel_rfl) (by simp) fun i9 hm9 => ?_
      obtain rfl : i9 = 6 := by simpa using hm9
      clear hm9
      refine wpOp_own rfl rfl fun K9 hK9 => ?_
      refine wp_store_hash (.tmp 5) (.tmp 10) rfl (W0.heap.size) O Z hO hz.out u5 u10 z16 ?_
      have hgz : w.heap.size + 2 ≤ W0.heap.size := by omega
      refine hK9 _ _ ⟨trivial, wpAnyH_done (by kernel_rfl) ⟨rfl, W0.heap.size, (.slice (some ⟨w.heap.size, 0, none⟩) 32 32 : Value), (.slice (some ⟨W13.heap.size, 0, none⟩) 1 1 : Value), (.slice a n cap : Value), (.slice a9 m9.length c9 : Value), (.agg O : Value), O, ?_, hO, setRow_heap _ _ _ _ _ _ z16, (setRow_other _ _ _ _ (by omega)).trans r16, b16.setRow (by omega) _⟩ _⟩
      show A5 = _
      rw [hA5, hA]; simp [Act.put]
  · rintro aa W ⟨gz, t6, t7, t8, t9, t10, O, rfl, hO, hrow, hres, hb⟩
    have HO := hid hO
    have Hr := hid hrow
    have Hs := hid hres
    have Hb := hid hb
    have HBy : Hid (Bytes W (some ⟨gz, 0, none⟩) ((hmac key m9).take 16)) := (hO.bytes hrow).take 16
    have l16 : ((hmac key m9).take 16).length = 16 := by rw [List.length_take, hO.len]; rfl
    obtain ⟨T, hT⟩ : ∃ T, T = bvs ((hmac key m9).take 16) := ⟨_, rfl⟩
    have HTV : Hid (TV T ((hmac key m9).take 16)) := ⟨hT, l16⟩
    have HTe := hid hT
    clear hO hrow hres hb hA e1 e2 sz b0 k0 r0 s0 HB HT hT
    go_wp2_with fail
    rw [run_array_tag _ _ _ _ (by omega)]
    simp only [Result.andThen]
    rw [Oper.upon_value]
    go_wp2_with (with_reducible show Go.wpList _ _ _ _ _ _; first
      | (refine wpList_load_tag rfl (.tmp 12) rfl gz 0 rfl _ l16 HBy.out ?_; rw [← HTe.out])
      | refine wpList_store_row rfl 172 (.tmp 4) (.tmp 13) rfl (w.heap.size + 1) T rfl rfl 172 Y Hs.out HTV.out.info (hy.out.size.trans HTV.out.size.symm) HTV.out.one ?_)
    show bodyPost _ _ _ _ _ _
    refine bodyPost_ret (results_cell_row rfl _ _ (w.heap.size + 1) 172 T (0, 0) _ rfl (setRow_heap _ _ _ _ _ _ Hs.out) Tryd.underlying172 rfl HTV.out.info) rfl ⟨T, rfl, ?_, Hb.out.setRow (by omega) _⟩
    show TV _ _
    rw [← Ht.out]; exact HTV.out
end Go.Proofs.YthfmpebgmojcaaaDoor.Ky
/- Bytes sealed: seal.Seal. -/
namespace Go.Proofs.YthfmpebgmojcaaaDoor.Ky
open Go.RowKit Go.Shelf
set_option linter.unusedVariables false
set_option maxRecDepth 20000
theorem bytes_of_own0 {w : World} {B e : Nat} {v : Value} {n : Nat} {l : List UInt8} (h : w.ownsRow B e 1 v n (cellsOf l)) : ∃ a cap, v = .slice a l.length cap ∧ Bytes w a l ∧ l.length ≤ cap ∧ (a = none → cap = 0) := by
  obtain ⟨a, cap, rfl, h1, h2⟩ := bytes_of_own h
  refine ⟨a, cap, rfl, h1, h2, fun e => ?_⟩
  subst e
  rcases h.2 with ⟨h3, _⟩ | ⟨g, c, cur, h3, _⟩
  · simp at h3; exact h3.2
  · simp at h3
theorem own_on {w w' : World} {B e s n : Nat} {v : Value} {xs : List Value} (h : w.ownsRow B e s v n xs) (hb : Below w.heap.size w w') : w'.ownsRow B e s v n xs := by
  refine ⟨h.1, ?_⟩
  rcases h.2 with h0 | ⟨g, cap, cur, hv, hg, hgb, r⟩
  · exact .inl h0
  · exact .inr ⟨g, cap, cur, hv, hg, (hb.block _ (heap_lt hgb)).trans hgb, r⟩
set_option maxHeartbeats 400000 in
theorem seal_long {w : World} {K : Array Value} {key : List UInt8} (hK : HV K key) (once n : Nat) (a : Option Addr) (cap : Nat) (hl : 1024 < n) :
    Calls Tryd.prog 69 #[.agg K, .int .u64 (once : Int), .slice a n cap] w fun e w' => e = .returned (.tuple #[.slice none 0 0, .int .i64 6]) ∧ Below w.heap.size w w' := by
  have q0 : (1024 : Int) < (n : Int) := by omega
  have hinf : (Tryd.prog.info? 69).map (·.size) = some K.size := hK.info
  go_enter Tryd.func69, Tryd.ntmps69
  go_wp2
  go_ret2
  exact ⟨rfl, (Below.refl _ w).alloc (Nat.le_refl _) _⟩
set_option maxHeartbeats 2000000 in
theorem seal_any {w : World} {K : Array Value} {key : List UInt8} (hK : HV K key) (once : Nat) (plain : List UInt8) (a : Option Addr) (n cap : Nat) (hn : n = plain.length) (hB : Bytes w a plain) (hl : plain.length ≤ 1024) (hT : KAt w) :
    Calls Tryd.prog 69 #[.agg K, .int .u64 (once : Int), .slice a n cap] w fun e w' => ∃ v, e = .returned (.tuple #[v, .int .i64 0]) ∧ w'.ownsRow w.heap.size 5 1 v (sealB key once plain).length (cellsOf (sealB key once plain)) ∧ Below w.heap.size w w' := by
  obtain ⟨i0, hi, hz0, hz1, hz2⟩ := info_parts Tryd.info5
  obtain ⟨Y, hY⟩ : ∃ Y, Y = bvs (List.replicate 16 0) := ⟨_, rfl⟩
  have zt := (zero_of_info zero_tag).1
  rw [← hY] at zt
  have hy : Hid (TV Y (List.replicate 16 0)) := by
    show TV _ _
    rw [hY]; exact ⟨rfl, by simp⟩
  have zt := hid zt
  have HK := hid hK
  have HB := hid hB
  have HT := hid hT
  have Hn := hid hn
  have hl1 : n ≤ 1024 := by omega
  have q0 : ¬ (1024 : Int) < (n : Int) := by omega
  have hinf : (Tryd.prog.info? 69).map (·.size) = some K.size := hK.info
  clear hK hB hT hn hY
  go_enter Tryd.func69, Tryd.ntmps69
  go_wp2_with fail
  refine (size_any _ n hl1).mono ?_
  rintro _ w1 ⟨rfl, rfl⟩
  go_wp2_with fail
  rw [run_make (P := Tryd.prog) _ 40 5 i0 (.int .u8 0) Tryd.underlying40 hi hz0 .i64 .i64 0 ((n : Int) + 24) (by omega) (by omega) (by rw [hz2]; omega) (by omega)]
  simp only [Result.andThen]
  rw [Oper.upon_value, show (0 : Int).toNat = 0 from rfl, show ((n : Int) + 24).toNat = n + 24 by omega, hz1, Nat.mul_one]
  have own1 := own_made (w.alloc (.cells K 69)) (n + 24) (by omega)
  rw [World.size_alloc] at own1 ⊢
  obtain ⟨W1, hW1⟩ : ∃ W1, W1 = (w.alloc (.cells K 69)).alloc (.cells (madeCells (Value.int .u8 0).cells (n + 24)) 5) := ⟨_, rfl⟩
  have k1 : Hid (W1.heap[w.heap.size]? = some (.cells K 69 (0, 0))) := by
    show _ = _
    rw [hW1]; exact heap_alloc2_old w _ _
  have b1 : Hid (Below w.heap.size w W1) := by
    show Below _ _ _
    rw [hW1]; exact ((Below.refl _ w).alloc (Nat.le_refl _) _).alloc (by simp) _
  have s1 : w.heap.size + 1 ≤ W1.heap.size := by rw [hW1]; simp
  rw [← hW1] at own1 ⊢
  have Hown1 := hid own1
  clear hW1 own1 hi hz0 hz1 hz2
  go_wp2_with fail
  refine (appendNumber_any (w.heap.size + 1) _ [] once Hown1.out s1 (by simp)).mono ?_
  rintro _ W2 ⟨v2, rfl, hown2, hb2⟩
  have Hown2 := hid hown2
  have k2 : Hid (W2.heap[w.heap.size]? = some (.cells K 69 (0, 0))) := (hb2.block _ (by omega)).trans k1.out
  have b2 : Hid (Below w.heap.size w W2) := b1.out.trans (hb2.mono (by omega))
  have s2 : w.heap.size + 1 ≤ W2.heap.size := Nat.le_trans s1 hb2.size
  clear hown2 hb2 k1 b1 s1 Hown1
  go_wp2_with (with_reducible show Go.wpList _ _ _ _ _ _; refine wpList_load_row rfl 69 (.tmp 3) rfl w.heap.size rfl 69 K (0, 0) _ k2.out Tryd.underlying69 rfl HK.out.info ?_)
  refine (crossed_any HK.out once plain a n cap Hn.out (HB.out.below b2.out) (by omega) (HT.out.below b2.out)).mono ?_
  rintro _ W3 ⟨v3, rfl, hown3, hb3⟩
  obtain ⟨a3, c3, rfl, hB3, hc3, hn3⟩ := bytes_of_own0 hown3
  have l3 : (cross key once plain).length = n := by rw [cross_len, Hn.out]
  have Hown3 : Hid (W3.ownsRow (w.heap.size + 1) 5 1 v2 (be8 once).length (cellsOf (be8 once))) := by
    show World.ownsRow _ _ _ _ _ _ _
    have h := own_on Hown2.out hb3
    rwa [List.nil_append] at h
  have HB3 := hid hB3
  have Hn3 := hid hn3
  have k3 : Hid (W3.heap[w.heap.size]? = some (.cells K 69 (0, 0))) := (hb3.block _ (by omega)).trans k2.out
  have b3 : Hid (Below w.heap.size w W3) := Below.on' b2.out hb3
  have s3 : w.heap.size + 1 ≤ W3.heap.size := Nat.le_trans s2 hb3.size
  have l8 : (be8 once).length = 8 := be8_length once
  clear hown3 hb3 k2 b2 s2 Hown2 hB3 hn3
  rw [l3]
  go_wp2_with (first
    | (at_builtin; refine app_src _ rfl (.tmp 20) (.tmp 24) rfl (w.heap.size + 1) _ (be8 once) rfl Hown3.out a3 n c3 (cross key once plain) l3.symm rfl HB3.out Hn3.out (by omega) s3 ?_; intro v4 W4 hown4 hb4; obtain ⟨a4, c4, rfl, hB4, hc4, hn4⟩ := bytes_of_own0 hown4; have k4 : Hid (W4.heap[w.heap.size]? = some (.cells K 69 (0, 0))) := (hb4.block _ (by omega)).trans k3.out; have b4 : Hid (Below w.heap.size w W4) := b3.out.trans (hb4.mono (by omega)); have s4 : w.heap.size + 1 ≤ W4.heap.size := Nat.le_trans s3 hb4.size; have Hown4 := hid hown4; have HB4 := hid hB4; have Hn4 := hid hn4; clear hown4 hb4 hB4 hn4)
    | (with_reducible show Go.wpList _ _ _ _ _ _; refine wpList_load_row rfl 69 (.tmp 3) rfl w.heap.size rfl 69 K (0, 0) _ k4.out Tryd.underlying69 rfl HK.out.info ?_))
  have l4 : (be8 once ++ cross key once plain).length = 8 + n := by rw [List.length_append, l8, l3]
  have l5 : (headB key once plain).length = 8 + n := l4
  refine (tagOf_any HK.out (headB key once plain) a4 (8 + n) c4 l5.symm HB4.out Hn4.out (by omega) (HT.out.below b4.out)).mono ?_
  rintro _ W5 ⟨T, rfl, hT5, hb5⟩
  have Hown5 : Hid ((W5.alloc (.cells T 172)).ownsRow (w.heap.size + 1) 5 1 (.slice a4 (8 + n) c4) (headB key once plain).length (cellsOf (headB key once plain))) := by
    show World.ownsRow _ _ _ _ _ _ _
    have h := own_on Hown4.out hb5
    rw [l4] at h
    rw [l5]
    exact h.alloc _
  have HB5 : Hid (Bytes (W5.alloc (.cells T 172)) (some ⟨W5.heap.size, 0, none⟩) (tagB key (headB key once plain))) := hT5.out.bytes (heap_alloc_new W5 _)
  have b5 : Hid (Below w.heap.size w (W5.alloc (.cells T 172))) := (Below.on' b4.out hb5).alloc (Below.on' b4.out hb5).size _
  have s5 : w.heap.size + 1 ≤ (W5.alloc (.cells T 172)).heap.size := by have := hb5.size; rw [World.size_alloc]; omega
  have l16 : (tagB key (headB key once plain)).length = 16 := tagB_len _ _
  clear hb5 b4 k4 Hown4 HB4 b3 k3 Hown3 HB3
  go_wp2_with (first
    | (with_reducible show Go.wpList _ _ _ _ _ _; refine wpList_alloc_row rfl 172 rfl Y zt.out ?_)
    | (with_reducible show Go.wpList _ _ _ _ _ _; refine wpList_store_row rfl 172 (.tmp 9) (.tmp 28) rfl W5.heap.size T rfl rfl 172 Y (heap_alloc_new W5 _) hT5.out.info (hy.out.size.trans hT5.out.size.symm) hT5.out.one ?_; rw [World.setRow_alloc_new])
    | (at_builtin; refine app_src _ rfl (.tmp 29) (.tmp 30) rfl (w.heap.size + 1) _ (headB key once plain) rfl Hown5.out (some ⟨W5.heap.size, 0, none⟩) 16 16 (tagB key (headB key once plain)) l16.symm rfl HB5.out (fun e => by cases e) (by omega) s5 ?_; intro v6 W6 hown6 hb6; have Hown6 := hid hown6; have Hb6 := hid hb6; clear hown6 hb6))
  go_ret2
  exact ⟨_, rfl, own_mono Hown6.out (by omega), b5.out.trans (Hb6.out.mono (by omega))⟩
end Go.Proofs.YthfmpebgmojcaaaDoor.Ky
/- What was sealed, opened: seal.Open. -/
namespace Go.Proofs.YthfmpebgmojcaaaDoor.Ky
open Go.RowKit Go.Shelf
set_option linter.unusedVariables false
set_option maxRecDepth 20000
theorem hf_tagOf : ∀ (args : Array Value) (w : World), (callFunc 97 args).run Tryd.prog w = .ok (.enter 97 args) w := fun args w => by simp [go_sem]
theorem hf_crossed : ∀ (args : Array Value) (w : World), (callFunc 96 args).run Tryd.prog w = .ok (.enter 96 args) w := fun args w => by simp [go_sem]
theorem tag_eq {A B : Array Value} {a b : List UInt8} (hA : TV A a) (hB : TV B b) (w : World) : (Op.equalIn 10000 172 (.agg A) (.agg B)).run Tryd.prog w = .ok (a == b) w := by
  rw [hA.eq, hB.eq]
  exact run_equalIn_bytes (P := Tryd.prog) w 9998 172 5 16 Tryd.underlying172 Tryd.underlying5 sizeOf_u8 a b hA.len hB.len
section
variable {ops : Array Oper} {S : World → Prop} {op : Oper} {a : Act}
theorem y_from (hw : Region.wanted op (yielded ops a.tmps) = true) (x : Operand) (t : Nat) (ho : op.op = .slice 40 x (some (.tmp t)) none none) (g o n c k : Nat) (hx : a.eval x = .slice (some ⟨g, o, none⟩) n c) (hy : a.eval (.tmp t) = .int .i64 (k : Int)) (hk : k < n) (hc : n ≤ c) : YieldsIf Tryd.prog ops S op (.slice (some ⟨g, o + k, none⟩) (n - k) (c - k)) a := by
  refine .inl ⟨hw, fun w _ => ?_⟩
  have h0 : (0 : Int) ≤ (k : Int) := by omega
  have h1 : (k : Int) ≤ (n : Int) := by omega
  have h3 : ¬ c = k := by omega
  have hy' : a.tmps[t]?.getD undef = .int .i64 (k : Int) := by simpa [Act.eval] using hy
  unfold execOp
  simp only [ho, hx]
  simp [go_sem, hy', h0, h1, h3]
theorem y_upto (hw : Region.wanted op (yielded ops a.tmps) = true) (x : Operand) (t : Nat) (ho : op.op = .slice 40 x none (some (.tmp t)) none) (g o n c k : Nat) (hx : a.eval x = .slice (some ⟨g, o, none⟩) n c) (hy : a.eval (.tmp t) = .int .i64 (k : Int)) (hk : k ≤ c) : YieldsIf Tryd.prog ops S op (.slice (some ⟨g, o, none⟩) k c) a := by
  refine .inl ⟨hw, fun w _ => ?_⟩
  have h0 : (0 : Int) ≤ (k : Int) := by omega
  have h1 : (k : Int) ≤ (c : Int) := by omega
  have hy' : a.tmps[t]?.getD undef = .int .i64 (k : Int) := by simpa [Act.eval] using hy
  unfold execOp
  simp only [ho, hx]
  simp [go_sem, hy', h0, h1]
theorem y_part (hw : Region.wanted op (yielded ops a.tmps) = true) (x : Operand) (t : Nat) (ho : op.op = .slice 40 x (some (.const (.int .i64 8))) (some (.tmp t)) none) (g o n c k : Nat) (hx : a.eval x = .slice (some ⟨g, o, none⟩) n c) (hy : a.eval (.tmp t) = .int .i64 (k : Int)) (hk : 8 ≤ k) (hc : k < c) : YieldsIf Tryd.prog ops S op (.slice (some ⟨g, o + 8, none⟩) (k - 8) (c - 8)) a := by
  refine .inl ⟨hw, fun w _ => ?_⟩
  have h0 : (8 : Int) ≤ (k : Int) := by omega
  have h1 : (k : Int) ≤ (c : Int) := by omega
  have h3 : ¬ c = 8 := by omega
  have hy' : a.tmps[t]?.getD undef = .int .i64 (k : Int) := by simpa [Act.eval] using hy
  unfold execOp
  simp only [ho, hx]
  simp [go_sem, hy', h0, h1, h3]
theorem y_arr (hw : Region.wanted op (yielded ops a.tmps) = true) (x : Operand) (ho : op.op = .sliceToArrayPointer 172 x) (ad : Option Addr) (n c : Nat) (hx : a.eval x = .slice ad n c) (hn : 16 ≤ n) : YieldsIf Tryd.prog ops S op (.pointer ad) a := by
  refine .inl ⟨hw, fun w _ => ?_⟩
  unfold execOp
  simp only [ho, hx, Sem.run_bind, run_array_tag ad n c w hn, Result.andThen_ok, Sem.run_pure]
theorem y_loadT (hw : Region.wanted op (yielded ops a.tmps) = true) (x : Operand) (ho : op.op = .load 172 x) (g o : Nat) (l : List UInt8) (hl : l.length = 16) (hx : a.eval x = .pointer (some ⟨g, o, none⟩)) (hS : ∀ w, S w → Bytes w (some ⟨g, o, none⟩) l) : YieldsIf Tryd.prog ops S op (.agg (bvs l)) a := by
  refine .inl ⟨hw, fun w hw' => ?_⟩
  unfold execOp
  simp only [ho, hx, Sem.run_bind, run_load_tag hl (hS w hw'), Result.andThen_ok, Sem.run_pure]
theorem y_loadK (hw : Region.wanted op (yielded ops a.tmps) = true) (x : Operand) (ho : op.op = .load 69 x) (g : Nat) {O : Array Value} {l : List UInt8} (hO : HV O l) (hx : a.eval x = .pointer (some ⟨g, 0, none⟩)) (hS : ∀ w, S w → w.heap[g]? = some (.cells O 69 (0, 0))) : YieldsIf Tryd.prog ops S op (.agg O) a := by
  refine .inl ⟨hw, fun w hw' => ?_⟩
  have h := loadH_run hO (hS w hw')
  rw [← loadH_fold] at h
  unfold execOp
  simp only [ho, hx, Sem.run_bind, h, Result.andThen_ok, Sem.run_pure]
theorem y_neqT (hw : Region.wanted op (yielded ops a.tmps) = true) (x y : Operand) (ho : op.op = .binOp .neq 172 x y 172) (A B : Array Value) {l m : List UInt8} (hA : TV A l) (hB : TV B m) (hx : a.eval x = .agg A) (hy : a.eval y = .agg B) : YieldsIf Tryd.prog ops S op (.bool (!(l == m))) a := by
  refine .inl ⟨hw, fun w _ => ?_⟩
  have h := tag_eq hA hB w
  unfold execOp
  simp only [ho, hx, hy]
  simp [go_sem, h]
theorem y_assign (hw : Region.wanted op (yielded ops a.tmps) = true) (x : Operand) (ho : op.op = .assign x) (v : Value) (hx : a.eval x = v) : YieldsIf Tryd.prog ops S op v a := by
  refine .inl ⟨hw, fun w _ => ?_⟩
  unfold execOp
  simp only [ho, hx]
  simp [go_sem]
end
end Go.Proofs.YthfmpebgmojcaaaDoor.Ky
/- What was sealed, opened: seal.Open. -/
namespace Go.Proofs.YthfmpebgmojcaaaDoor.Ky
open Go.RowKit Go.Shelf
set_option linter.unusedVariables false
set_option maxRecDepth 20000
section
variable {P : Program} {Q : Exit → Act → World → Prop}
theorem wp_calls3 {o : Oper} {a : Act} {w : World} {K : Act → World → Prop} (f : FuncId) (hf : ∀ (args : Array Value) (w : World), (callFunc f args).run P w = .ok (.enter f args) w) (x y z : Operand) (ts : Array TypeId) (ho : o.op = .call { callee := .value (.func f), args := #[x, y, z], argTypes := ts }) (v u s : Value) (hx : a.eval x = v) (hy : a.eval y = u) (hz : a.eval z = s) (h : Calls P f #[v, u, s] w fun e w'' => ∃ v, e = .returned v ∧ K (a.put o.dst v) w'') : o.wp P a w K Q :=
  wp_calls f #[v, u, s] (by subst hx; subst hy; subst hz; simp [execOp, ho, resolve, invoke, go_sem, hf]) h
end
structure OpenPost (w : World) (key S : List UInt8) (e : Ending) (w' : World) : Prop where
  right : S.drop (S.length - 16) = tagB key (S.take (S.length - 16)) → ∃ v, e = .returned (.tuple #[v, .int .u64 (numB (S.take 8) : Int), .int .i64 0]) ∧ w'.ownsRow w.heap.size 5 1 v (cross key (numB (S.take 8)) ((S.take (S.length - 16)).drop 8)).length (cellsOf (cross key (numB (S.take 8)) ((S.take (S.length - 16)).drop 8)))
  wrong : S.drop (S.length - 16) ≠ tagB key (S.take (S.length - 16)) → e = .returned (.tuple #[.slice none 0 0, .int .u64 0, .int .i64 10])
  below : Below w.heap.size w w'
set_option maxHeartbeats 2000000 in
theorem open_any {w : World} {K : Array Value} {key : List UInt8} (hK : HV K key) (S : List UInt8) (ab ao n cap : Nat) (hn : n = S.length) (hB : Bytes w (some ⟨ab, ao, none⟩) S) (h24 : 24 ≤ n) (h48 : n ≤ 1048) (hcap : n ≤ cap) (hT : KAt w) :
    Calls Tryd.prog 70 #[.agg K, .slice (some ⟨ab, ao, none⟩) n cap] w (OpenPost w key S) := by
  have HK := hid hK
  have HB := hid hB
  have HT := hid hT
  have Hn := hid hn
  obtain ⟨tg, htg⟩ : ∃ tg, tg = S.drop (n - 16) := ⟨_, rfl⟩
  have ltg : tg.length = 16 := by rw [htg, List.length_drop]; omega
  have hBt : Bytes w (some ⟨ab, ao + (n - 16), none⟩) tg := by rw [htg]; exact hB.drop (n - 16)
  have Htg := hid htg
  have q0 : ¬ (n : Int) < 24 := by omega
  have q1 : ¬ (1048 : Int) < (n : Int) := by omega
  have q2 : IntKind.i64.wrap ((n : Int) - 16) = ((n - 16 : Nat) : Int) := by rw [IntKind.wrap_i64]; omega
  have q3 : (n : Int) - 16 = ((n - 16 : Nat) : Int) := by omega
  have hinf : (Tryd.prog.info? 69).map (·.size) = some K.size := hK.info
  have hln : S.length = n := hn.symm
  clear hK hB hT hn htg
  go_enter Tryd.func70, Tryd.ntmps70
  go_wp2_with fail
  refine (size_any _ 0 (by omega)).mono ?_
  rintro _ w1 ⟨rfl, rfl⟩
  go_wp2_with fail
  refine (size_any _ 1024 (by omega)).mono ?_
  rintro _ w1 ⟨rfl, rfl⟩
  go_wp2_with fail
  have hm : Tryd.prog.follows .mixedOrders = true := by kernel_rfl
  obtain ⟨W0, hW0⟩ : ∃ W0, W0 = (w.alloc (.cells K 69)).drew := ⟨_, rfl⟩
  have b0 : Below w.heap.size w W0 := by rw [hW0]; exact ((Below.refl _ w).alloc (Nat.le_refl _) _).drew
  have k0 : W0.heap[w.heap.size]? = some (.cells K 69 (0, 0)) := by rw [hW0]; exact heap_alloc_new w _
  have hS0 : W0.heap[w.heap.size]? = some (.cells K 69 (0, 0)) ∧ Bytes W0 (some ⟨ab, ao + (n - 16), none⟩) tg := ⟨k0, hBt.below b0⟩
  refine wp_act _ fun A hA => ?_
  refine wp_split (fun A' W => ∃ t19 t20 t21 t22 t23 t24 t25 t26 t27 t28 : Value, A' = ⟨#[.agg K, .slice (some ⟨ab, ao, none⟩) n cap, .pointer (some ⟨w.heap.size, 0, none⟩), undef, .slice none 0 0, .int .u64 0, .int .i64 0, .int .i64 ((n - 16 : Nat) : Int), A.tmps[8]!, A.tmps[9]!, A.tmps[10]!, A.tmps[11]!, A.tmps[12]!, A.tmps[13]!, A.tmps[14]!, A.tmps[15]!, A.tmps[16]!, A.tmps[17]!, A.tmps[18]!, t19, t20, t21, t22, t23, t24, t25, t26, t27, t28, .bool (!(tg == tagB key (S.take (n - 16)))), undef, undef, undef, undef, undef, undef, undef, undef, undef, undef], []⟩ ∧ W.heap[w.heap.size]? = some (.cells K 69 (0, 0)) ∧ Below w.heap.size w W) ?_ ?_
  · have sz : A.tmps.size = 40 := by rw [hA]; rfl
    have e1 : A.eval (.tmp 1) = .slice (some ⟨ab, ao, none⟩) n cap := by rw [hA]; rfl
    have e2 : A.eval (.tmp 2) = .pointer (some ⟨w.heap.size, 0, none⟩) := by rw [hA]; rfl
    have e7 : A.eval (.tmp 7) = .int .i64 ((n - 16 : Nat) : Int) := by rw [hA]; rfl
    refine wp_region_held (S := fun W9 => W9.heap[w.heap.size]? = some (.cells K 69 (0, 0)) ∧ Bytes W9 (some ⟨ab, ao + (n - 16), none⟩) tg) hm ?_
    rw [show ({ (w.alloc (.cells K 69)) with drawn := (w.alloc (.cells K 69)).drawn + 1 } : World) = W0 from hW0.symm]
    clear hW0
    refine wpAnyH_take (i := 0) (v := .slice (some ⟨ab, ao, none⟩) n cap) rfl (by kernel_rfl) (by kernel_rfl) (by kernel_rfl) (fun _ _ _ h => nomatch h.1) (yields_move (by simp [Region.wanted]) (.tmp 1) rfl _ e1) hS0 ?_
    refine wpAnyH_take (i := 1) (v := .int .i64 ((n - 16 : Nat) : Int)) rfl (by kernel_rfl) (by kernel_rfl) (by kernel_rfl) (fun _ _ _ h => nomatch h.1) (yields_move (by simp [Region.wanted]) (.tmp 7) rfl _ (evn e7)) hS0 ?_
    refine wpAnyH_take (i := 2) (v := .slice (some ⟨ab, ao + (n - 16), none⟩) (n - (n - 16)) (cap - (n - 16))) rfl (by kernel_rfl) (by kernel_rfl) (by kernel_rfl) (fun _ _ _ h => nomatch h.1) (y_from (by simp [Region.wanted]) (.tmp 19) 20 rfl ab ao n cap (n - 16) (evn (ev_eq _ _ (by simp [sz]))) (ev_eq _ _ (by simp [put_sz, sz])) (by omega) hcap) hS0 ?_
    refine wpAnyH_take (i := 3) (v := .pointer (some ⟨ab, ao + (n - 16), none⟩)) rfl (by kernel_rfl) (by kernel_rfl) (by kernel_rfl) (fun _ _ _ h => nomatch h.1) (y_arr (by simp [Region.wanted]) (.tmp 21) rfl _ _ _ (ev_eq _ _ (by simp [put_sz, sz])) (by omega)) hS0 ?_
    refine wpAnyH_take (i := 4) (v := .agg (bvs tg)) rfl (by kernel_rfl) (by kernel_rfl) (by kernel_rfl) (fun _ _ _ h => nomatch h.1) (y_loadT (by simp [Region.wanted]) (.tmp 22) rfl ab (ao + (n - 16)) tg ltg (ev_eq _ _ (by simp [put_sz, sz])) (fun _ h => h.2)) hS0 ?_
    refine wpAnyH_take (i := 5) (v := .agg K) rfl (by kernel_rfl) (by kernel_rfl) (by kernel_rfl) (fun _ _ _ h => nomatch h.1) (y_loadK (by simp [Region.wanted]) (.tmp 2) rfl w.heap.size HK.out (evn (evn (evn (evn (evn e2))))) (fun _ h => h.1)) hS0 ?_
    refine wpAnyH_take (i := 6) (v := .slice (some ⟨ab, ao, none⟩) n cap) rfl (by kernel_rfl) (by kernel_rfl) (by kernel_rfl) (fun _ _ _ h => nomatch h.1) (yields_move (by simp [Region.wanted]) (.tmp 1) rfl _ (evn (evn (evn (evn (evn (evn e1))))))) hS0 ?_
    refine wpAnyH_take (i := 7) (v := .int .i64 ((n - 16 : Nat) : Int)) rfl (by kernel_rfl) (by kernel_rfl) (by kernel_rfl) (fun _ _ _ h => nomatch h.1) (yields_move (by simp [Region.wanted]) (.tmp 7) rfl _ (evn (evn (evn (evn (evn (evn (evn e7)))))))) hS0 ?_
    refine wpAnyH_take (i := 8) (v := .slice (some ⟨ab, ao, none⟩) (n - 16) cap) rfl (by kernel_rfl) (by kernel_rfl) (by kernel_rfl) (fun _ _ _ h => nomatch h.1) (y_upto (by simp [Region.wanted]) (.tmp 25) 26 rfl ab ao n cap (n - 16) (evn (ev_eq _ _ (by simp [put_sz, sz]))) (ev_eq _ _ (by simp [put_sz, sz])) (by omega)) hS0 ?_
    obtain ⟨A2, hA2⟩ : ∃ A2, A2 = (((((((((A.put (some 19) (.slice (some ⟨ab, ao, none⟩) n cap)).put (some 20) (.int .i64 ((n - 16 : Nat) : Int))).put (some 21) (.slice (some ⟨ab, ao + (n - 16), none⟩) (n - (n - 16)) (cap - (n - 16)))).put (some 22) (.pointer (some ⟨ab, ao + (n - 16), none⟩))).put (some 23) (.agg (bvs tg))).put (some 24) (.agg K)).put (some 25) (.slice (some ⟨ab, ao, none⟩) n cap)).put (some 26) (.int .i64 ((n - 16 : Nat) : Int))).put (some 27) (.slice (some ⟨ab, ao, none⟩) (n - 16) cap)) := ⟨_, rfl⟩
    show wpAnyH _ _ _ _ _ _ _ (((((((((A.put (some 19) (.slice (some ⟨ab, ao, none⟩) n cap)).put (some 20) (.int .i64 ((n - 16 : Nat) : Int))).put (some 21) (.slice (some ⟨ab, ao + (n - 16), none⟩) (n - (n - 16)) (cap - (n - 16)))).put (some 22) (.pointer (some ⟨ab, ao + (n - 16), none⟩))).put (some 23) (.agg (bvs tg))).put (some 24) (.agg K)).put (some 25) (.slice (some ⟨ab, ao, none⟩) n cap)).put (some 26) (.int .i64 ((n - 16 : Nat) : Int))).put (some 27) (.slice (some ⟨ab, ao, none⟩) (n - 16) cap)) _
    have z2 : A2.tmps.size = 40 := by rw [hA2]; simp [put_sz, sz]
    have z24 : A2.eval (.tmp 24) = .agg K := by rw [hA2]; exact (evn (evn (evn (ev_eq _ _ (by simp [put_sz, sz])))))
    have z27 : A2.eval (.tmp 27) = .slice (some ⟨ab, ao, none⟩) (n - 16) cap := by rw [hA2]; exact (ev_eq _ _ (by simp [put_sz, sz]))
    have z23 : A2.eval (.tmp 23) = .agg (bvs tg) := by rw [hA2]; exact (evn (evn (evn (evn (ev_eq _ _ (by simp [put_sz, sz]))))))
    rw [← hA2]
    refine wpAnyH_all (rs := [9]) (by kernel_rfl) (by simp) fun i9 hm9 => ?_
    obtain rfl : i9 = 9 := by simpa using hm9
    refine wpOp_own rfl rfl fun K9 hK9 => ?_
    refine wp_calls2 97 hf_tagOf (.tmp 24) (.tmp 27) _ rfl (.agg K) (.slice (some ⟨ab, ao, none⟩) (n - 16) cap) z24 z27 ?_
    refine (tagOf_any HK.out (S.take (n - 16)) (some ⟨ab, ao, none⟩) (n - 16) cap (by rw [List.length_take]; omega) ((HB.out.below b0).take _) (fun e => by cases e) (by rw [List.length_take]; omega) (HT.out.below b0)).mono ?_
    rintro _ W1 ⟨T, rfl, hT1, hb1⟩
    have b1 : Below w.heap.size w W1 := Below.on' b0 hb1
    have k1 := (hb1.block _ (heap_lt k0)).trans k0
    refine ⟨_, rfl, hK9 _ _ ⟨⟨k1, (hBt.below b1)⟩, ?_⟩⟩
    clear hK9 K9 hm9
    show wpAnyH _ _ _ _ _ _ _ (A2.put (some 28) (.agg T)) _
    refine wpAnyH_take (i := 10) (v := .bool (!(tg == tagB key (S.take (n - 16))))) rfl (by kernel_rfl) (by kernel_rfl) (by kernel_rfl) (fun _ _ _ h => nomatch h.1) (y_neqT (by simp [Region.wanted]) (.tmp 23) (.tmp 28) rfl _ _ ⟨rfl, ltg⟩ hT1.out (evn z23) (ev_eq _ _ (by simp [z2]))) ⟨k1, hBt.below b1⟩ ?_
    refine wpAnyH_done (by kernel_rfl) ⟨rfl, (.slice (some ⟨ab, ao, none⟩) n cap : Value), (.int .i64 ((n - 16 : Nat) : Int) : Value), (.slice (some ⟨ab, ao + (n - 16), none⟩) (n - (n - 16)) (cap - (n - 16)) : Value), (.pointer (some ⟨ab, ao + (n - 16), none⟩) : Value), (.agg (bvs tg) : Value), (.agg K : Value), (.slice (some ⟨ab, ao, none⟩) n cap : Value), (.int .i64 ((n - 16 : Nat) : Int) : Value), (.slice (some ⟨ab, ao, none⟩) (n - 16) cap : Value), .agg T, ?_, k1, b1⟩ _
    rw [hA2, hA]; simp [Act.put]
  · rintro aa W ⟨t19, t20, t21, t22, t23, t24, t25, t26, t27, t28, rfl, hk, hb⟩
    have Hk := hid hk
    have Hb := hid hb
    clear hk hb k0 b0 hS0 hW0
    generalize A.tmps[8]! = x8, A.tmps[9]! = x9, A.tmps[10]! = x10, A.tmps[11]! = x11, A.tmps[12]! = x12, A.tmps[13]! = x13, A.tmps[14]! = x14, A.tmps[15]! = x15, A.tmps[16]! = x16, A.tmps[17]! = x17, A.tmps[18]! = x18
    clear hA
    by_cases heq : tg = tagB key (S.take (n - 16))
    · have hbq : (!(tg == tagB key (S.take (n - 16)))) = false := by rw [heq]; simp
      rw [hbq]
      have Heq := hid heq
      clear hbq heq
      have q8 : (8 : Int) ≤ (cap : Int) := by omega
      have HB8 : Hid (Bytes W (some ⟨ab, ao, none⟩) (S.take 8)) := (HB.out.below Hb.out).take 8
      have l8 : (S.take 8).length = 8 := by rw [List.length_take]; omega
      go_wp2_with fail
      refine (number_any (S.take 8) (some ⟨ab, ao, none⟩) 8 cap l8.symm HB8.out (by omega)).mono ?_
      rintro _ W3 ⟨rfl, hb3⟩
      have b3 : Below w.heap.size w W3 := Below.on' Hb.out hb3
      have k3 := (hb3.block _ (heap_lt Hk.out)).trans Hk.out
      clear hb3
      have B3 := hid b3
      have K3 := hid k3
      clear b3 k3
      go_wp2_with fail
      obtain ⟨W4, hW4⟩ : ∃ W4, W4 = W3.drew := ⟨_, rfl⟩
      have b4 : Below w.heap.size w W4 := by rw [hW4]; exact B3.out.drew
      have k4 : W4.heap[w.heap.size]? = some (.cells K 69 (0, 0)) := by rw [hW4]; exact K3.out
      refine wp_act _ fun A hA => ?_
      refine wp_split (fun A' W => ∃ t33 t34 t35 t36 t37 t39 v : Value, A' = (((((((((A.put (some 33) t33).put (some 34) t34).put (some 35) t35).put (some 36) t36).put (some 37) t37).put (some 39) t39).put (some 38) v).put (some 4) v).put (some 5) (.int .u64 (numB (S.take 8) : Int))).put (some 6) (.int .i64 0) ∧ W.ownsRow w.heap.size 5 1 v (cross key (numB (S.take 8)) ((S.take (n - 16)).drop 8)).length (cellsOf (cross key (numB (S.take 8)) ((S.take (n - 16)).drop 8))) ∧ Below w.heap.size w W) ?_ ?_
      · have sz : A.tmps.size = 40 := by rw [hA]; rfl
        have e1 : A.eval (.tmp 1) = .slice (some ⟨ab, ao, none⟩) n cap := by rw [hA]; rfl
        have e2 : A.eval (.tmp 2) = .pointer (some ⟨w.heap.size, 0, none⟩) := by rw [hA]; rfl
        have e5 : A.eval (.tmp 5) = .int .u64 (numB (S.take 8) : Int) := by rw [hA]; rfl
        have e7 : A.eval (.tmp 7) = .int .i64 ((n - 16 : Nat) : Int) := by rw [hA]; rfl
        refine wp_region_held (S := fun W9 => W9.heap[w.heap.size]? = some (.cells K 69 (0, 0))) hm ?_
        rw [show ({ W3 with drawn := W3.drawn + 1 } : World) = W4 from hW4.symm]
        clear hW4
        refine wpAnyH_take (i := 0) (v := .agg K) rfl (by kernel_rfl) (by kernel_rfl) (by kernel_rfl) (fun _ _ _ h => nomatch h.1) (y_loadK (by simp [Region.wanted]) (.tmp 2) rfl w.heap.size HK.out e2 (fun _ h => h)) k4 ?_
        refine wpAnyH_take (i := 1) (v := .int .u64 (numB (S.take 8) : Int)) rfl (by kernel_rfl) (by kernel_rfl) (by kernel_rfl) (fun _ _ _ h => nomatch h.1) (yields_move (by simp [Region.wanted]) (.tmp 5) rfl _ (evn e5)) k4 ?_
        refine wpAnyH_take (i := 2) (v := .slice (some ⟨ab, ao, none⟩) n cap) rfl (by kernel_rfl) (by kernel_rfl) (by kernel_rfl) (fun _ _ _ h => nomatch h.1) (yields_move (by simp [Region.wanted]) (.tmp 1) rfl _ (evn (evn e1))) k4 ?_
        refine wpAnyH_take (i := 3) (v := .int .i64 ((n - 16 : Nat) : Int)) rfl (by kernel_rfl) (by kernel_rfl) (by kernel_rfl) (fun _ _ _ h => nomatch h.1) (yields_move (by simp [Region.wanted]) (.tmp 7) rfl _ (evn (evn (evn e7)))) k4 ?_
        refine wpAnyH_take (i := 4) (v := .slice (some ⟨ab, ao + 8, none⟩) (n - 16 - 8) (cap - 8)) rfl (by kernel_rfl) (by kernel_rfl) (by kernel_rfl) (fun _ _ _ h => nomatch h.1) (y_part (by simp [Region.wanted]) (.tmp 35) 36 rfl ab ao n cap (n - 16) (evn (ev_eq _ _ (by simp [put_sz, sz]))) (ev_eq _ _ (by simp [put_sz, sz])) (by omega) (by omega)) k4 ?_
        refine wpAnyH_take (i := 6) (v := .int .u64 (numB (S.take 8) : Int)) rfl (by kernel_rfl) (by kernel_rfl) (by kernel_rfl) (fun _ _ _ h => nomatch h.1) (yields_move (by simp [Region.wanted]) (.tmp 5) rfl _ (evn (evn (evn (evn (evn e5)))))) k4 ?_
        obtain ⟨A2, hA2⟩ : ∃ A2, A2 = ((((((A.put (some 33) (.agg K)).put (some 34) (.int .u64 (numB (S.take 8) : Int))).put (some 35) (.slice (some ⟨ab, ao, none⟩) n cap)).put (some 36) (.int .i64 ((n - 16 : Nat) : Int))).put (some 37) (.slice (some ⟨ab, ao + 8, none⟩) (n - 16 - 8) (cap - 8))).put (some 39) (.int .u64 (numB (S.take 8) : Int))) := ⟨_, rfl⟩
        show wpAnyH _ _ _ _ _ _ _ ((((((A.put (some 33) (.agg K)).put (some 34) (.int .u64 (numB (S.take 8) : Int))).put (some 35) (.slice (some ⟨ab, ao, none⟩) n cap)).put (some 36) (.int .i64 ((n - 16 : Nat) : Int))).put (some 37) (.slice (some ⟨ab, ao + 8, none⟩) (n - 16 - 8) (cap - 8))).put (some 39) (.int .u64 (numB (S.take 8) : Int))) _
        have z2 : A2.tmps.size = 40 := by rw [hA2]; simp [put_sz, sz]
        have z33 : A2.eval (.tmp 33) = .agg K := by rw [hA2]; exact (evn (evn (evn (evn (evn (ev_eq _ _ (by simp [sz])))))))
        have z34 : A2.eval (.tmp 34) = .int .u64 (numB (S.take 8) : Int) := by rw [hA2]; exact (evn (evn (evn (evn (ev_eq _ _ (by simp [put_sz, sz]))))))
        have z37 : A2.eval (.tmp 37) = .slice (some ⟨ab, ao + 8, none⟩) (n - 16 - 8) (cap - 8) := by rw [hA2]; exact (evn (ev_eq _ _ (by simp [put_sz, sz])))
        have z39 : A2.eval (.tmp 39) = .int .u64 (numB (S.take 8) : Int) := by rw [hA2]; exact (ev_eq _ _ (by simp [put_sz, sz]))
        rw [← hA2]
        refine wpAnyH_all (rs := [5]) (by kernel_rfl) (by simp) fun i9 hm9 => ?_
        obtain rfl : i9 = 5 := by simpa using hm9
        refine wpOp_own rfl rfl fun K9 hK9 => ?_
        refine wp_calls3 96 hf_crossed (.tmp 33) (.tmp 34) (.tmp 37) _ rfl (.agg K) (.int .u64 (numB (S.take 8) : Int)) (.slice (some ⟨ab, ao + 8, none⟩) (n - 16 - 8) (cap - 8)) z33 z34 z37 ?_
        refine (crossed_any HK.out (numB (S.take 8)) ((S.take (n - 16)).drop 8) (some ⟨ab, ao + 8, none⟩) (n - 16 - 8) (cap - 8) (by rw [List.length_drop, List.length_take]; omega) (((HB.out.below b4).take _).drop 8) (by rw [List.length_drop, List.length_take]; omega) (HT.out.below b4)).mono ?_
        rintro _ W5 ⟨v5, rfl, hown5, hb5⟩
        have b5 : Below w.heap.size w W5 := Below.on' b4 hb5
        have k5 := (hb5.block _ (heap_lt k4)).trans k4
        refine ⟨_, rfl, hK9 _ _ ⟨k5, ?_⟩⟩
        clear hK9 K9 hm9
        show wpAnyH _ _ _ _ _ _ _ (A2.put (some 38) v5) _
        refine wpAnyH_take (i := 7) (v := v5) rfl (by kernel_rfl) (by kernel_rfl) (by kernel_rfl) (fun _ _ _ h => nomatch h.1) (y_assign (by simp [Region.wanted]) (.tmp 38) rfl _ (ev_eq _ _ (by simp [z2]))) k5 ?_
        refine wpAnyH_take (i := 8) (v := .int .u64 (numB (S.take 8) : Int)) rfl (by kernel_rfl) (by kernel_rfl) (by kernel_rfl) (fun _ _ _ h => nomatch h.1) (y_assign (by simp [Region.wanted]) (.tmp 39) rfl _ (evn (evn z39))) k5 ?_
        refine wpAnyH_take (i := 9) (v := .int .i64 0) rfl (by kernel_rfl) (by kernel_rfl) (by kernel_rfl) (fun _ _ _ h => nomatch h.1) (y_assign (by simp [Region.wanted]) (.const (.int .i64 0)) rfl _ rfl) k5 ?_
        refine wpAnyH_done (by kernel_rfl) ⟨rfl, (.agg K : Value), (.int .u64 (numB (S.take 8) : Int) : Value), (.slice (some ⟨ab, ao, none⟩) n cap : Value), (.int .i64 ((n - 16 : Nat) : Int) : Value), (.slice (some ⟨ab, ao + 8, none⟩) (n - 16 - 8) (cap - 8) : Value), (.int .u64 (numB (S.take 8) : Int) : Value), v5, ?_, own_mono hown5 b4.size, b5⟩ _
        rw [hA2, hA]; simp [Act.put]
      · rintro _ W5 ⟨t33, t34, t35, t36, t37, t39, v, rfl, hown, hb5⟩
        rw [hA]
        simp only [Act.put, List.setIfInBounds_toArray, List.set_cons_zero, List.set_cons_succ]
        have Hown := hid hown
        have Hb5 := hid hb5
        clear hown hb5 hA b4 k4 hW4
        go_wp2
        refine bodyPost_ret (results_tmp3 rfl _ _ _) rfl ⟨fun _ => ?_, fun h => ?_, Hb5.out⟩
        · rw [hln]
          exact ⟨v, rfl, Hown.out⟩
        · exact absurd (by rw [hln, ← Htg.out]; exact Heq.out) h
    · have hbq : (!(tg == tagB key (S.take (n - 16)))) = true := by simp [heq]
      rw [hbq]
      have Heq := hid heq
      clear hbq heq
      go_wp2
      refine bodyPost_ret (results_tmp3 rfl _ _ _) rfl ⟨fun h => ?_, fun _ => rfl, Hb.out⟩
      exact absurd (by rw [hln, ← Htg.out] at h; exact h) Heq.out
end Go.Proofs.YthfmpebgmojcaaaDoor.Ky
