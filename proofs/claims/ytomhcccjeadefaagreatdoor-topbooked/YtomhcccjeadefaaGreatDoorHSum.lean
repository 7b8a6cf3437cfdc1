/- A running hash's sum: (running).sum. -/
import Derived.Test.YtomhcccjeadefaaGreatDoorHReg
namespace Go.Proofs.YtomhcccjeadefaaGreatDoor
open Go.RowKit
set_option linter.unusedVariables false
set_option maxRecDepth 20000
theorem size_hash : (Tryz.prog.info? 27).map (·.size) = some 32 := by kernel_rfl
theorem zero_hash : (Tryz.prog.info? 27).map (fun i => (i.zero, i.size)) = some (some (.agg (bvs (List.replicate 32 0))), 32) := by kernel_rfl
def RP (T : S8) (R : List Value) : Prop := ∃ bk n, R = rcells T bk n ∧ bk.length = 64
theorem rp_size {T : S8} {R : List Value} (h : RP T R) : (Tryz.prog.info? 64).map (·.size) = some R.toArray.size := by
  obtain ⟨bk, n, rfl, hb⟩ := h
  rw [List.size_toArray, rcells_length _ _ _ hb]
  exact size_running
theorem rp_old {T : S8} {R : List Value} {Y : Array Value} (hY : Y.size = 73) (h : RP T R) : Y.size = R.toArray.size := by
  obtain ⟨bk, n, rfl, hb⟩ := h
  exact hY.trans (by simp only [List.size_toArray]; rw [rcells_length _ _ _ hb])
theorem rp_one {T : S8} {R : List Value} (h : RP T R) : R.toArray.all (·.oneCell') = true := by
  obtain ⟨bk, n, rfl, hb⟩ := h
  exact rvals_one T bk n
theorem rp_cell {T : S8} {R : List Value} (h : RP T R) (k : Nat) (hk : k < 8) : R.toArray[k]? = some (vw (T.toL[k]'hk)) := by
  obtain ⟨bk, n, rfl, hb⟩ := h
  rw [List.getElem?_toArray, rcells, List.getElem?_append_left (by simp [S8.toL_length]; exact hk)]
  rw [List.getElem?_map, List.getElem?_eq_getElem (by exact hk)]
  rfl
theorem rng_below {w w' : World} {g : Nat} {R : List Value} (h : w.rangeAt g 0 R) (hb : Below w.heap.size w w') : w'.rangeAt g 0 R := fun j v hj =>
  (hb.cell (World.block_lt_of_cell? _ _ (h j v hj))).trans (h j v hj)
theorem rng_setRow {w : World} {g k : Nat} {R : List Value} (h : w.rangeAt g 0 R) (hk : g ≠ k) (cs : Array Value) : (w.setRow k cs).rangeAt g 0 R := fun j v hj =>
  (cell_setRow_other _ _ _ _ hk).trans (h j v hj)
theorem bytes_of_own {w : World} {B e : Nat} {v : Value} {n : Nat} {l : List UInt8} (h : w.ownsRow B e 1 v n (cellsOf l)) : ∃ a cap, v = .slice a l.length cap ∧ Bytes w a l ∧ l.length ≤ cap := by
  have hn : l.length = n := by have := h.1; simpa [cellsOf_length] using this
  subst hn
  rcases h.2 with ⟨rfl, h0⟩ | ⟨g, cap, cur, rfl, hb, hg, hc, hm, hs, ht⟩
  · refine ⟨none, 0, by rw [h0], fun i hi => ?_, by omega⟩
    omega
  · refine ⟨some ⟨g, 0, none⟩, cap, rfl, fun i hi => ⟨g, 0, rfl, ?_⟩, hc⟩
    have := World.ownsRow.cellAt h i (by omega)
    rw [Nat.zero_add, this, cellsOf_get l i hi]
theorem wp_alloc_row {o : Oper} {a : Act} {w : World} {K : Act → World → Prop} {Q : Exit → Act → World → Prop} (ty : TypeId) (ho : o.op = .alloc ty) (c : Array Value)
    (hz : ∀ w, (zeroValue ty).run Tryz.prog w = .ok (.agg c) w) (h : K (a.put o.dst (.pointer (some ⟨w.heap.size, 0, none⟩))) (w.alloc (.cells c ty))) : o.wp Tryz.prog a w K Q := by
  unfold Oper.wp execOp
  simp only [ho, Instr.alloc, Sem.run_bind, hz, Result.andThen_ok, Sem.run_pure, newVar, go_sem]
  exact h
theorem wp_store_run {o : Oper} {a : Act} {w : World} {K : Act → World → Prop} {Q : Exit → Act → World → Prop} (g : Nat) (R : List Value) (Y : Array Value) (ho : o.op = .store 64 (.tmp 3) (.tmp 11)) (ha : a.eval (.tmp 3) = .pointer (some ⟨g, 0, none⟩)) (hb : a.eval (.tmp 11) = .agg R.toArray)
    (hg : w.heap[g]? = some (.cells Y 64 (0, 0))) (hi : (Tryz.prog.info? 64).map (·.size) = some R.toArray.size) (hold : Y.size = R.toArray.size) (h1 : R.toArray.all (·.oneCell') = true) (h : K (a.put o.dst undef) (w.setRow g R.toArray)) : o.wp Tryz.prog a w K Q :=
  wp_store_row 64 (.tmp 3) (.tmp 11) ho g R.toArray ha hb 64 Y hg hi hold h1 h
structure SI (w : World) (N : Nat) (R : List Value) (Z : Array Value) (W : World) : Prop where
  rng : W.rangeAt N 0 R
  res : W.heap[N + 1]? = some (.cells Z 27 (0, 0))
  bel : Below N w W
  big : N + 2 ≤ W.heap.size
theorem SI.below {w W W' : World} {N : Nat} {R : List Value} {Z : Array Value} (h : SI w N R Z W) (hb : Below W.heap.size W W') : SI w N R Z W' :=
  ⟨rng_below h.rng hb, (hb.block _ (by have := h.big; omega)).trans h.res, h.bel.trans (hb.mono (by have := h.big; omega)), by have := hb.size; have := h.big; omega⟩
theorem SI.alloc {w W : World} {N : Nat} {R : List Value} {Z : Array Value} (h : SI w N R Z W) (o : Obj) : SI w N R Z (W.alloc o) :=
  h.below ((Below.refl _ W).alloc (Nat.le_refl _) o)
theorem SI.setRow {w W : World} {N : Nat} {R : List Value} {Z : Array Value} (h : SI w N R Z W) {g : Nat} (hg : N + 2 ≤ g) (cs : Array Value) : SI w N R Z (W.setRow g cs) :=
  ⟨rng_setRow h.rng (by omega) _, (setRow_other _ _ _ _ (by omega)).trans h.res, h.bel.setRow (by omega) _, by rw [size_setRow]; exact h.big⟩
theorem bvs_set (l : List UInt8) (i : Nat) (b : UInt8) : (bvs l).setIfInBounds i (.int .u8 (b.toNat : Int)) = bvs (l.set i b) := by
  simp [bvs, cellsOf, List.map_set]
def outAt (s : S8) (n : Nat) : List UInt8 := (outB s).take n ++ List.replicate (32 - n) 0
theorem outAt_length (s : S8) (n : Nat) (h : n ≤ 32) : (outAt s n).length = 32 := by simp [outAt, outB_length]; omega
theorem outAt_zero (s : S8) : outAt s 0 = List.replicate 32 0 := rfl
theorem outAt_all (s : S8) : outAt s 32 = outB s := by simp [outAt, List.take_of_length_le (Nat.le_of_eq (outB_length s))]
theorem outAt_set (s : S8) (k j : Nat) (hk : k < 8) (hj : j < 4) : (outAt s (4 * k + j)).set (4 * k + j) (UInt8.ofNat ((s.toL[k]'hk).toNat / 2 ^ (24 - 8 * j))) = outAt s (4 * k + j + 1) := by
  have hl : 4 * k + j < 32 := by omega
  have hb : (outB s)[4 * k + j]'(by rw [outB_length]; exact hl) = UInt8.ofNat ((s.toL[k]'hk).toNat / 2 ^ (24 - 8 * j)) := by
    simp only [outB, List.getElem_map, List.getElem_range]
    rw [show (4 * k + j) / 4 = k by omega, show (4 * k + j) % 4 = j by omega]
    rw [List.getD_eq_getElem?_getD, List.getElem?_eq_getElem (show k < s.toL.length from hk)]
    rfl
  unfold outAt
  rw [List.set_append_right _ _ (by simp [outB_length]; omega), List.take_succ_eq_append_getElem (by rw [outB_length]; exact hl), hb]
  have e : 4 * k + j - ((outB s).take (4 * k + j)).length = 0 := by simp [outB_length]; omega
  rw [e, show 32 - (4 * k + j) = (32 - (4 * k + j + 1)) + 1 by omega, List.replicate_succ]
  simp
set_option maxHeartbeats 6000000 in
theorem sum_any {w : World} {D : List UInt8} {s : S8} {bk : List UInt8} {f : Nat} (hP : Part D s bk f) (hl : D.length < 1152921504606846976) (hK : KAt w) :
    Calls Tryz.prog 18 #[.agg (rvals s bk D.length)] w fun e w' => e = .returned (.agg (bvs (sha D))) ∧ Below w.heap.size w w' := by
  obtain ⟨R, hR⟩ : ∃ R, R = rcells s bk D.length := ⟨_, rfl⟩
  obtain ⟨Z, hZ⟩ : ∃ Z, Z = bvs (List.replicate 32 0) := ⟨_, rfl⟩
  obtain ⟨Y, hY⟩ : ∃ Y, Y = rvals ⟨0, 0, 0, 0, 0, 0, 0, 0⟩ (List.replicate 64 0) 0 := ⟨_, rfl⟩
  obtain ⟨T, hT⟩ : ∃ T, T = blks init (D ++ pad D.length) := ⟨_, rfl⟩
  have zh := (zero_of_info zero_hash).1
  have zr := (zero_of_info zero_running).1
  rw [← hZ] at zh
  rw [← hY] at zr
  have HYs : Hid (Y.size = 73) := by
    show _ = _
    rw [hY]; exact rvals_size _ _ _ (by simp)
  have eR : rvals s bk D.length = R.toArray := by rw [hR]; rfl
  have lR : R.length = 73 := by rw [hR]; exact rcells_length _ _ _ hP.len
  have hu := Tryz.underlying64
  have hi : (Tryz.prog.info? 64).map (·.size) = some R.length := by rw [lR]; exact size_running
  have HS : Hid (bvs (sha D) = bvs (outB T)) := by
    show _ = _
    rw [hT]; rfl
  have HE : Hid (∀ W : World, Calls Tryz.prog 37 #[.agg R.toArray] W fun e w' => ∃ v, e = .returned v ∧ w'.ownsRow W.heap.size 5 1 v (pad D.length).length (cellsOf (pad D.length)) ∧ Below W.heap.size W w') := fun W => by
    have h := @end_any W s bk D.length hP.len hl
    rwa [eR] at h
  have HW : Hid (∀ (W : World) (v : Value) (B : Nat), KAt W → W.ownsRow B 5 1 v (pad D.length).length (cellsOf (pad D.length)) → Calls Tryz.prog 17 #[.agg R.toArray, v] W fun e w' => ∃ R' : List Value, e = .returned (.agg R'.toArray) ∧ RP T R' ∧ Below W.heap.size W w') := fun W v B hKW hv => by
    obtain ⟨a, cap, rfl, hB, hc⟩ := bytes_of_own hv
    have h := with_any hP (pad D.length) a cap hB (by have := pad_length D.length; unfold noughts at this; omega) hc hKW
    rw [eR] at h
    refine h.mono ?_
    rintro _ w' ⟨s', bk', f', rfl, hP', hb'⟩
    exact ⟨_, rfl, ⟨bk', _, by rw [hT, ← hP'.st], hP'.len⟩, hb'⟩
  have HZe := hid hZ
  rw [eR]
  clear hR hZ hY hT
  obtain ⟨N, hN⟩ : ∃ N, N = w.heap.size := ⟨_, rfl⟩
  go_enter Tryz.func18, Tryz.ntmps18
  go_wp2_with (with_reducible show Go.wpList _ _ _ _ _ _; refine wpList_alloc_row rfl 27 rfl Z zh.out ?_)
  clear eR
  have HK := hid hK
  have HY : Hid (Y.size = 73) := HYs.out
  have zr := hid zr
  obtain ⟨W0, hW0⟩ : ∃ W0, W0 = ((w.alloc (.cells R.toArray 64)).alloc (.cells Z 27)).drew := ⟨_, rfl⟩
  have s0 : SI w N R Z W0 := by
    rw [hW0, hN]
    refine ⟨(World.rangeAt_drew _ _ _ _).2 (fun j v hj => ?_), heap_alloc2_new w _ _, (((Below.refl _ w).alloc (Nat.le_refl _) _).alloc (by simp) _).drew, by simp⟩
    rw [Nat.zero_add, cell_of_row _ _ _ _ _ _ (heap_alloc2_old w _ _), List.getElem?_toArray, hj]
  have hf1 : ∀ (args : Array Value) (w : World), (callFunc 37 args).run Tryz.prog w = .ok (.enter 37 args) w := fun args w => by simp [go_sem]
  have hf2 : ∀ (args : Array Value) (w : World), (callFunc 17 args).run Tryz.prog w = .ok (.enter 17 args) w := fun args w => by simp [go_sem]
  have hm : Tryz.prog.follows .mixedOrders = true := by kernel_rfl
  refine wp_act _ fun A hA => ?_
  have sz : A.tmps.size = 35 := by rw [hA]; rfl
  have e1 : A.eval (.tmp 1) = .pointer (some ⟨N, 0, none⟩) := by rw [hA, hN]; rfl
  have r0 : ((w.alloc (.cells R.toArray 64)).alloc (.cells Z 27)).drew.rangeAt N 0 R := by rw [← hW0]; exact s0.rng
  refine wp_split (fun a W => ∃ (v : Value) (R' : List Value) (g : Nat), a = ((((A.put (some 8) (.agg R.toArray)).put (some 9) (.agg R.toArray)).put (some 10) v).put (some 11) (.agg R'.toArray)).put (some 3) (.pointer (some ⟨g, 0, none⟩)) ∧ RP T R' ∧ N + 2 ≤ g ∧ W.heap[g]? = some (.cells R'.toArray 64 (0, 0)) ∧ SI w N R Z W) ?_ ?_
  · refine wp_region_held (S := fun w9 => w9.rangeAt N 0 R) hm ?_
    refine wpAnyH_take (i := 0) (v := .agg R.toArray) rfl (by kernel_rfl) (by kernel_rfl) (by kernel_rfl) (fun _ _ _ h => nomatch h.1) (yieldsIf_load_mid (by simp [Region.wanted]) 64 (.tmp 1) rfl N 0 e1 R _ (fun _ h => h) hu rfl hi) r0 ?_
    refine wpAnyH_take (i := 1) (v := .agg R.toArray) rfl (by kernel_rfl) (by kernel_rfl) (by kernel_rfl) (fun _ _ _ h => nomatch h.1) (yieldsIf_load_mid (by simp [Region.wanted]) 64 (.tmp 1) rfl N 0 ((ev_ne _ _ (by decide)).trans e1) R _ (fun _ h => h) hu rfl hi) r0 ?_
    show wpAnyH _ _ _ _ _ _ _ ((A.put (some 8) (.agg R.toArray)).put (some 9) (.agg R.toArray)) _
    have z8 : ((A.put (some 8) (.agg R.toArray)).put (some 9) (.agg R.toArray)).tmps.size = 35 := by simp [put_sz, sz]
    have z9 : ((A.put (some 8) (.agg R.toArray)).put (some 9) (.agg R.toArray)).eval (.tmp 9) = .agg R.toArray := ev_eq _ _ (by simp [put_sz, sz])
    have z7 : ((A.put (some 8) (.agg R.toArray)).put (some 9) (.agg R.toArray)).eval (.tmp 8) = .agg R.toArray := (ev_ne _ _ (by decide)).trans (ev_eq _ _ (by simp [sz]))
    generalize (A.put (some 8) (.agg R.toArray)).put (some 9) (.agg R.toArray) = A2 at z8 z9 z7 ⊢
    rw [show ({ ((w.alloc (.cells R.toArray 64)).alloc (.cells Z 27)) with drawn := ((w.alloc (.cells R.toArray 64)).alloc (.cells Z 27)).drawn + 1 } : World) = W0 from hW0.symm]
    clear hA e1 r0 hW0 sz
    refine wpAnyH_all (rs := [2, 4]) (by kernel_rfl) (by simp) fun i hmem => ?_
    rcases (show i = 2 ∨ i = 4 by simpa using hmem) with rfl | rfl
    · refine wpOp_own rfl rfl fun K' hK' => ?_
      refine wp_calls1 37 hf1 (.tmp 9) _ rfl (.agg R.toArray) z9 ?_
      refine (HE.out _).mono ?_
      rintro _ w2 ⟨v, rfl, hv, hb2⟩
      have s2 := s0.below hb2
      refine ⟨v, rfl, hK' _ _ ⟨s2.rng, ?_⟩⟩
      clear hK' K'
      show wpAnyH _ _ _ _ _ _ _ (A2.put (some 10) v) _
      refine wpAnyH_all (rs := [3, 4]) (by kernel_rfl) (by simp) fun i hmem => ?_
      rcases (show i = 3 ∨ i = 4 by simpa using hmem) with rfl | rfl
      · refine wpOp_own rfl rfl fun K' hK' => ?_
        refine wp_calls2 17 hf2 (.tmp 8) (.tmp 10) _ rfl (.agg R.toArray) v ((ev_ne _ _ (by decide)).trans z7) (ev_eq _ _ (by simp [z8])) ?_
        refine (HW.out _ v _ (HK.out.below (hN ▸ s2.bel)) hv).mono ?_
        rintro _ w3 ⟨R', rfl, hR', hb3⟩
        have s3 := s2.below hb3
        refine ⟨_, rfl, hK' _ _ ⟨s3.rng, ?_⟩⟩
        clear hK' K'
        show wpAnyH _ _ _ _ _ _ _ ((A2.put (some 10) v).put (some 11) (.agg R'.toArray)) _
        refine wpAnyH_all (rs := [4]) (by kernel_rfl) (by simp) fun i hmem => ?_
        obtain rfl : i = 4 := by simpa using hmem
        refine wpOp_own rfl rfl fun K' hK' => ?_
        refine wp_alloc_row 64 rfl Y zr.out (hK' _ _ ⟨(s3.alloc _).rng, ?_⟩)
        clear hK' K'
        have s4 := s3.alloc (.cells Y 64)
        have y4 : (w3.alloc (.cells Y 64)).heap[w3.heap.size]? = some (.cells Y 64 (0, 0)) := heap_alloc_new w3 _
        have n4 := s3.big
        generalize w3.alloc (.cells Y 64) = W4 at s4 y4 ⊢
        generalize w3.heap.size = g at y4 n4 ⊢
        show wpAnyH _ _ _ _ _ _ _ (((A2.put (some 10) v).put (some 11) (.agg R'.toArray)).put (some 3) (.pointer (some ⟨g, 0, none⟩))) _
        obtain ⟨A5, hA5⟩ : ∃ A5, A5 = ((A2.put (some 10) v).put (some 11) (.agg R'.toArray)).put (some 3) (.pointer (some ⟨g, 0, none⟩)) := ⟨_, rfl⟩
        have x3 : A5.eval (.tmp 3) = .pointer (some ⟨g, 0, none⟩) := by rw [hA5]; exact ev_eq _ _ (by simp [put_sz, z8])
        have x11 : A5.eval (.tmp 11) = .agg R'.toArray := by rw [hA5]; exact (ev_ne _ _ (by decide)).trans (ev_eq _ _ (by simp [put_sz, z8]))
        have ho : A5 = ((A2.put (some 10) v).put (some 11) (.agg R'.toArray)).put (some 3) (.pointer (some ⟨g, 0, none⟩)) := hA5
        rw [← hA5]
        refine wpAnyH_all (rs := [5]) (by kernel_rfl) (by simp) fun i hmem => ?_
        obtain rfl : i = 5 := by simpa using hmem
        refine wpOp_own rfl rfl fun K' hK' => ?_
        refine wp_store_run g R' Y rfl x3 x11 y4 (rp_size hR') (rp_old HY.out hR') (rp_one hR') ?_
        have s5 := s4.setRow n4 R'.toArray
        refine hK' _ _ ⟨s5.rng, wpAnyH_done (by kernel_rfl) ⟨rfl, v, R', g, ho, hR', n4, setRow_heap _ _ _ _ _ _ y4, s5⟩ _⟩
      · refine wpOp_own rfl rfl fun K' hK' => ?_
        refine wp_alloc_row 64 rfl Y zr.out (hK' _ _ ⟨(s2.alloc _).rng, ?_⟩)
        clear hK' K'
        have s3 := s2.alloc (.cells Y 64)
        have y3 : (w2.alloc (.cells Y 64)).heap[w2.heap.size]? = some (.cells Y 64 (0, 0)) := heap_alloc_new w2 _
        have n4 := s2.big
        have hv := hv.alloc (.cells Y 64)
        generalize w2.alloc (.cells Y 64) = W3 at s3 y3 hv ⊢
        generalize w2.heap.size = g at y3 n4 ⊢
        show wpAnyH _ _ _ _ _ _ _ ((A2.put (some 10) v).put (some 3) (.pointer (some ⟨g, 0, none⟩))) _
        refine wpAnyH_all (rs := [3]) (by kernel_rfl) (by simp) fun i hmem => ?_
        obtain rfl : i = 3 := by simpa using hmem
        refine wpOp_own rfl rfl fun K' hK' => ?_
        refine wp_calls2 17 hf2 (.tmp 8) (.tmp 10) _ rfl (.agg R.toArray) v ((ev_ne _ _ (by decide)).trans ((ev_ne _ _ (by decide)).trans z7)) ((ev_ne _ _ (by decide)).trans (ev_eq _ _ (by simp [z8]))) ?_
        refine (HW.out _ v _ (HK.out.below (hN ▸ s3.bel)) hv).mono ?_
        rintro _ W4 ⟨R', rfl, hR', hb4⟩
        have s4 := s3.below hb4
        have y4 := (hb4.block _ (heap_lt y3)).trans y3
        refine ⟨_, rfl, hK' _ _ ⟨s4.rng, ?_⟩⟩
        clear hK' K'
        show wpAnyH _ _ _ _ _ _ _ (((A2.put (some 10) v).put (some 3) (.pointer (some ⟨g, 0, none⟩))).put (some 11) (.agg R'.toArray)) _
        obtain ⟨A5, hA5⟩ : ∃ A5, A5 = ((A2.put (some 10) v).put (some 3) (.pointer (some ⟨g, 0, none⟩))).put (some 11) (.agg R'.toArray) := ⟨_, rfl⟩
        have x3 : A5.eval (.tmp 3) = .pointer (some ⟨g, 0, none⟩) := by rw [hA5]; exact (ev_ne _ _ (by decide)).trans (ev_eq _ _ (by simp [put_sz, z8]))
        have x11 : A5.eval (.tmp 11) = .agg R'.toArray := by rw [hA5]; exact ev_eq _ _ (by simp [put_sz, z8])
        have ho : A5 = ((A2.put (some 10) v).put (some 11) (.agg R'.toArray)).put (some 3) (.pointer (some ⟨g, 0, none⟩)) := by rw [hA5]; exact put_swap _ (by decide)
        rw [← hA5]
        refine wpAnyH_all (rs := [5]) (by kernel_rfl) (by simp) fun i hmem => ?_
        obtain rfl : i = 5 := by simpa using hmem
        refine wpOp_own rfl rfl fun K' hK' => ?_
        refine wp_store_run g R' Y rfl x3 x11 y4 (rp_size hR') (rp_old HY.out hR') (rp_one hR') ?_
        have s5 := s4.setRow n4 R'.toArray
        refine hK' _ _ ⟨s5.rng, wpAnyH_done (by kernel_rfl) ⟨rfl, v, R', g, ho, hR', n4, setRow_heap _ _ _ _ _ _ y4, s5⟩ _⟩
    · refine wpOp_own rfl rfl fun K' hK' => ?_
      refine wp_alloc_row 64 rfl Y zr.out (hK' _ _ ⟨(s0.alloc _).rng, ?_⟩)
      clear hK' K'
      have s2 := s0.alloc (.cells Y 64)
      have y2 : (W0.alloc (.cells Y 64)).heap[W0.heap.size]? = some (.cells Y 64 (0, 0)) := heap_alloc_new W0 _
      have n4 := s0.big
      generalize W0.alloc (.cells Y 64) = W2 at s2 y2 ⊢
      generalize W0.heap.size = g at y2 n4 ⊢
      show wpAnyH _ _ _ _ _ _ _ (A2.put (some 3) (.pointer (some ⟨g, 0, none⟩))) _
      refine wpAnyH_all (rs := [2]) (by kernel_rfl) (by simp) fun i hmem => ?_
      obtain rfl : i = 2 := by simpa using hmem
      refine wpOp_own rfl rfl fun K' hK' => ?_
      refine wp_calls1 37 hf1 (.tmp 9) _ rfl (.agg R.toArray) ((ev_ne _ _ (by decide)).trans z9) ?_
      refine (HE.out _).mono ?_
      rintro _ w3 ⟨v, rfl, hv, hb3⟩
      have s3 := s2.below hb3
      have y3 := (hb3.block _ (heap_lt y2)).trans y2
      refine ⟨v, rfl, hK' _ _ ⟨s3.rng, ?_⟩⟩
      clear hK' K'
      show wpAnyH _ _ _ _ _ _ _ ((A2.put (some 3) (.pointer (some ⟨g, 0, none⟩))).put (some 10) v) _
      refine wpAnyH_all (rs := [3]) (by kernel_rfl) (by simp) fun i hmem => ?_
      obtain rfl : i = 3 := by simpa using hmem
      refine wpOp_own rfl rfl fun K' hK' => ?_
      refine wp_calls2 17 hf2 (.tmp 8) (.tmp 10) _ rfl (.agg R.toArray) v ((ev_ne _ _ (by decide)).trans ((ev_ne _ _ (by decide)).trans z7)) (ev_eq _ _ (by simp [put_sz, z8])) ?_
      refine (HW.out _ v _ (HK.out.below (hN ▸ s3.bel)) hv).mono ?_
      rintro _ W4 ⟨R', rfl, hR', hb4⟩
      have s4 := s3.below hb4
      have y4 := (hb4.block _ (heap_lt y3)).trans y3
      refine ⟨_, rfl, hK' _ _ ⟨s4.rng, ?_⟩⟩
      clear hK' K'
      show wpAnyH _ _ _ _ _ _ _ (((A2.put (some 3) (.pointer (some ⟨g, 0, none⟩))).put (some 10) v).put (some 11) (.agg R'.toArray)) _
      obtain ⟨A5, hA5⟩ : ∃ A5, A5 = ((A2.put (some 3) (.pointer (some ⟨g, 0, none⟩))).put (some 10) v).put (some 11) (.agg R'.toArray) := ⟨_, rfl⟩
      have x3 : A5.eval (.tmp 3) = .pointer (some ⟨g, 0, none⟩) := by rw [hA5]; exact (ev_ne _ _ (by decide)).trans ((ev_ne _ _ (by decide)).trans (ev_eq _ _ (by simp [z8])))
      have x11 : A5.eval (.tmp 11) = .agg R'.toArray := by rw [hA5]; exact ev_eq _ _ (by simp [put_sz, z8])
      have ho : A5 = ((A2.put (some 10) v).put (some 11) (.agg R'.toArray)).put (some 3) (.pointer (some ⟨g, 0, none⟩)) := by rw [hA5, put_swap (d := 3) (e := 10) _ (by decide)]; exact put_swap _ (by decide)
      rw [← hA5]
      refine wpAnyH_all (rs := [5]) (by kernel_rfl) (by simp) fun i hmem => ?_
      obtain rfl : i = 5 := by simpa using hmem
      refine wpOp_own rfl rfl fun K' hK' => ?_
      refine wp_store_run g R' Y rfl x3 x11 y4 (rp_size hR') (rp_old HY.out hR') (rp_one hR') ?_
      have s5 := s4.setRow n4 R'.toArray
      refine hK' _ _ ⟨s5.rng, wpAnyH_done (by kernel_rfl) ⟨rfl, v, R', g, ho, hR', n4, setRow_heap _ _ _ _ _ _ y4, s5⟩ _⟩
  · rintro a W ⟨v, R', g, rfl, hR', hg, hrow, hsi⟩
    subst hA
    subst hN
    have hgM : g < W.heap.size := heap_lt hrow
    have Hst : Hid ((W.alloc (.cells Z 27)).rangeAt g 0 T.vals.toList) := fun j u hj => by
      have hj8 : j < 8 := (List.getElem?_eq_some_iff.1 hj).1
      rw [Nat.zero_add, World.cell?_of_block (w := W) (Below.heap_alloc _ _ _ hgM), cell_of_row _ _ _ _ _ _ hrow, rp_cell hR' j hj8, ← hj, Array.getElem?_toList, vals_get T j hj8]
    have sv : Hid ((Tryz.prog.info? 61).map (·.size) = some T.vals.toList.length) := size_state
    have y1 : Hid ((W.alloc (.cells Z 27)).heap[W.heap.size]? = some (.cells (bvs (outAt T 0)) 27 (0, 0))) := by
      show _ = _
      rw [outAt_zero, ← HZe.out]; exact heap_alloc_new W _
    have x1 : Hid ((W.alloc (.cells Z 27)).heap[w.heap.size + 1]? = some (.cells Z 27 (0, 0))) := (hsi.alloc (.cells Z 27)).res
    have b1 : Hid (Below w.heap.size w (W.alloc (.cells Z 27))) := (hsi.alloc (.cells Z 27)).bel
    have Hlt : Hid (w.heap.size + 2 ≤ W.heap.size) := hsi.big
    have zz := hid zh
    have Zs : Hid (Z.size = 32) := by
      show _ = _
      rw [HZe.out, bvs_size]; simp
    clear HE HW HK hrow hR' hf1 hf2 HY zr s0 hW0 hsi hgM hm HYs hK hi hu lR r0 e1 sz zh
    go_wp2_with (with_reducible show Go.wpList _ _ _ _ _ _; first
      | refine wpList_alloc_row rfl 27 rfl Z zz.out ?_
      | refine wpList_load_mid rfl 61 _ rfl g 0 rfl T.vals.toList _ Hst.out Tryz.underlying61 rfl sv.out ?_)
    clear Hst sv zz
    go_loopw [14] (fun i wr => ∃ k : Nat, k ≤ 8 ∧ i = .int .i64 k ∧ wr.heap[W.heap.size]? = some (.cells (bvs (outAt T (4 * k))) 27 (0, 0)) ∧ wr.heap[w.heap.size + 1]? = some (.cells Z 27 (0, 0)) ∧ Below w.heap.size w wr) (fun i _ => 8 - (intOf i).toNat)
    case atStart => exact ⟨0, Nat.zero_le _, rfl, y1.out, x1.out, b1.out⟩
    case round =>
      clear y1 x1 b1
      obtain ⟨k, hk, rfl, hy, hx, hbel⟩ := hrel
      have Hy := hid hy
      have Hx := hid hx
      have Hb := hid hbel
      clear hy hx hbel
      by_cases hlt : k < 8
      · have i1 := index_state T.vals k _ hlt (vals_get T k hlt)
        obtain ⟨x, hxx⟩ : ∃ x : W32, x = T.toL[k]'hlt := ⟨_, rfl⟩
        rw [← hxx] at i1
        have Hxx := hid hxx
        clear hxx
        obtain ⟨V, hV⟩ : ∃ V, V = wr := ⟨_, rfl⟩
        rw [← hV] at Hy Hx Hb ⊢
        clear hV
        go_wp2_with fail
        go_loopw [18] (fun i wr => ∃ j : Nat, j ≤ 4 ∧ i = .int .i64 j ∧ wr.heap[W.heap.size]? = some (.cells (bvs (outAt T (4 * k + j))) 27 (0, 0)) ∧ wr.heap[w.heap.size + 1]? = some (.cells Z 27 (0, 0)) ∧ Below w.heap.size w wr) (fun i _ => 4 - (intOf i).toNat)
        case atStart => exact ⟨0, Nat.zero_le _, rfl, Hy.out, Hx.out, Hb.out⟩
        case round =>
          clear Hy Hx Hb
          obtain ⟨j, hj, rfl, hy, hx, hbel⟩ := hrel
          have Hy := hid hy
          have Hx := hid hx
          have Hb := hid hbel
          clear hx hbel
          by_cases hlj : j < 4
          · obtain ⟨m, hm⟩ : ∃ m, m = 4 * k + j := ⟨_, rfl⟩
            have q1 : IntKind.i64.wrap (4 * (k : Int)) = 4 * (k : Int) := by rw [IntKind.wrap_i64]; omega
            have q2 : IntKind.i64.wrap (4 * (k : Int) + (j : Int)) = (m : Int) := by rw [IntKind.wrap_i64]; omega
            have q2' : 4 * (k : Int) + (j : Int) = (m : Int) := by omega
            have q3 : IntKind.i64.wrap (24 - 8 * (j : Int)) = 24 - 8 * (j : Int) := by rw [IntKind.wrap_i64]; omega
            have q4 : (0 : Int) ≤ 24 - 8 * (j : Int) := by omega
            have q5 : (24 : Int) - 8 * (j : Int) ≤ 32 := by omega
            have q6 : m < 32 := by omega
            rw [← hm] at hy Hy
            have c1 := (cell_of_row _ _ m _ _ _ hy).trans (bvs_get _ m (by rw [outAt_length _ _ (by omega)]; exact q6))
            have f1 := frozen_of_row _ _ m _ _ hy
            obtain ⟨b, hb8⟩ : ∃ b, b = UInt8.ofNat (x.toNat / 2 ^ (24 - 8 * j)) := ⟨_, rfl⟩
            have q7 : (x.toNat : Int) / 2 ^ (24 - 8 * j) % 256 = (b.toNat : Int) := by
              have h := byte_of (x.toNat / 2 ^ (24 - 8 * j))
              rw [← hb8, IntKind.wrap_u8] at h
              rw [← h]
              simp
            have Hst := hid (outAt_set T k j hlt hlj)
            rw [← Hxx.out, ← hb8, ← hm] at Hst
            have Hm := hid hm
            clear hy hm hb8
            go_wp2
            go_roundw
            case rel =>
              refine ⟨j + 1, by omega, by go_num, ?_, (heap_setCell_other _ _ _ _ (by have := Hlt.out; simp; omega)).trans Hx.out, Hb.out.setCell (by have := Hlt.out; simp; omega) _⟩
              rw [heap_setCell_same _ _ _ _ _ _ Hy.out, bvs_set, Hst.out, Hm.out]
              rfl
            case measure => simp [intOf]; omega
          · have hj4 : j = 4 := by omega
            have H4 : Hid (wr.heap[W.heap.size]? = some (.cells (bvs (outAt T (4 * (k + 1)))) 27 (0, 0))) := by
              have h := Hy.out
              rw [hj4] at h
              exact h
            clear hy Hy hj4 hj
            go_wp2_with fail
            go_roundw
            case rel => exact ⟨k + 1, by omega, by go_num, H4.out, Hx.out, Hb.out⟩
            case measure => simp [intOf]; omega
      · have hk8 : k = 8 := by omega
        have H8 : Hid (wr.heap[W.heap.size]? = some (.cells (bvs (outB T)) 27 (0, 0))) := by
          have h := Hy.out
          rw [hk8, show 4 * 8 = 32 from rfl, outAt_all] at h
          exact h
        have hs8 : Hid ((bvs (outB T)).size = 32) := by
          show _ = _
          rw [bvs_size, outB_length]
        have hi8 : Hid ((Tryz.prog.info? 27).map (·.size) = some (bvs (outB T)).size) := by
          show _ = _
          rw [hs8.out]; exact size_hash
        have ho8 : Hid (Z.size = (bvs (outB T)).size) := Zs.out.trans hs8.out.symm
        have h18 : Hid ((bvs (outB T)).all (·.oneCell') = true) := bvs_one _
        clear hk8 Hy hk
        have HO : Hid (bvs (sha D) = bvs (outB T)) := HS.out
        generalize bvs (outB T) = O at H8 hs8 hi8 ho8 h18 HO
        clear hs8 HS
        go_wp2_with (with_reducible show Go.wpList _ _ _ _ _ _; first
          | refine wpList_load_row rfl 27 _ rfl W.heap.size rfl _ _ _ _ H8.out Tryz.underlying27 rfl hi8.out ?_
          | refine wpList_store_row rfl 27 _ _ rfl (w.heap.size + 1) O rfl rfl 27 Z Hx.out hi8.out ho8.out h18.out ?_)
        show bodyPost _ _ _ _ _ _
        refine bodyPost_ret (results_cell_row rfl _ _ (w.heap.size + 1) 27 O (0, 0) _ rfl (setRow_heap _ _ _ _ _ _ Hx.out) Tryz.underlying27 rfl hi8.out) rfl ⟨by rw [HO.out], ?_⟩
        exact Hb.out.setRow (by omega) _
end Go.Proofs.YtomhcccjeadefaaGreatDoor
