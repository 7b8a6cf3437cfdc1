/- YtdglmoikgmlaaaaDoorJR9 + YtdglmoikgmlaaaaDoorJR10 -/
import Derived.Test.YtdglmoikgmlaaaaDoorJR8
/- The reference's Open, by contracts. (Printed by gen/jropen.py.) -/
namespace Go.Proofs.YtdglmoikgmlaaaaDoor
open Go.RowKit Go.Maps
set_option linter.unusedVariables false
set_option maxRecDepth 20000
theorem hf_ropenJ : ∀ (args : Array Value) (w : World), (callFunc 35 args).run Tryd.prog w = .ok (.enter 35 args) w := fun args w => by simp [go_sem]
noncomputable def codeROpen (n : Nat) : Code := ((Tryd.f21.body.bind (regionAt n)).getD .skip)
set_option maxHeartbeats 4000000 in
theorem ropen_region9 {V0 W5 : World} {R gs m cap k oo : Nat} {key : List UInt8} {er : Int} {P : Value → World → Prop} {A : Act} (sz : A.tmps.size = 60) (e3 : A.eval (.tmp 3) = .slice (some ⟨gs, 0, none⟩) m cap) (e13 : A.eval (.tmp 13) = .pointer (some ⟨R, 0, none⟩))
    (lk : key.length = 32) (h1m : 1 ≤ m) (hoo : oo = if 1 < cap then 1 else 0) (hmc : m ≤ cap) (hcall : Calls Tryd.prog 35 #[.agg (bvs key), .slice (some ⟨gs, oo, none⟩) (m - 1) (cap - 1)] V0 fun e w' => ∃ vv, e = .returned (.tuple #[vv, .int .u64 (k : Int), .int .i64 er]) ∧ P vv w' ∧ Below V0.heap.size V0 w') (hV0 : V0 = W5.drew) (hs0 : (fun V => V.heap[R]? = some (.cells (bvs key) 23 (0, 0))) V0) :
    (codeROpen 9).wp Tryd.prog (fun x b V => x = .normal ∧ ∃ vv, b = (((((((((((A.put (some 45) (.agg (bvs key))).put (some 46) (.slice (some ⟨gs, 0, none⟩) m cap)).put (some 47) (.slice (some ⟨gs, oo, none⟩) (m - 1) (cap - 1))).put (some 48) (.tuple #[vv, .int .u64 (k : Int), .int .i64 er])).put (some 44) (.tuple #[vv, .int .u64 (k : Int), .int .i64 er])).put (some 49) (vv)).put (some 50) (.int .u64 (k : Int))).put (some 51) (.int .i64 er)).put (some 15) (vv)).put (some 16) (.int .u64 (k : Int))).put (some 14) (.int .i64 er)) ∧ P vv V ∧ Below V0.heap.size V0 V) A W5 := by
  have hm : Tryd.prog.follows .mixedOrders = true := by kernel_rfl
  unfold codeROpen
  conv => arg 2; whnf
  refine wp_region_G (fun _ => false) ((fun V => V.heap[R]? = some (.cells (bvs key) 23 (0, 0)))) hm ?_
  rw [show ({ W5 with drawn := W5.drawn + 1 } : World) = V0 from hV0.symm]
  refine wpAnyG_take (i := 0) (v := .agg (bvs key)) rfl (by kernel_rfl) (by kernel_rfl) (by kernel_rfl) (fun _ _ _ h => nomatch h.1) (yieldsIf_load_mid (by simp [Region.wanted]) 23 (.tmp 13) rfl R 0 e13 (cellsOf key) _ (fun V hV => rangeJ hV) Tryd.underlying23 rfl (by rw [cellsOf_length, lk]; exact size_hash)) hs0 ?_
  show wpAnyG _ _ _ _ _ _ _ _ (A.put (some 45) (.agg (bvs key))) _
  refine wpAnyG_take (i := 1) (v := .slice (some ⟨gs, 0, none⟩) m cap) rfl (by kernel_rfl) (by kernel_rfl) (by kernel_rfl) (fun _ _ _ h => nomatch h.1) (yg_mv (by simp [Region.wanted]) (.tmp 3) rfl ((ev_ne _ _ (by decide)).trans e3)) hs0 ?_
  show wpAnyG _ _ _ _ _ _ _ _ ((A.put (some 45) (.agg (bvs key))).put (some 46) (.slice (some ⟨gs, 0, none⟩) m cap)) _
  refine wpAnyG_take (i := 2) (v := .slice (some ⟨gs, oo, none⟩) (m - 1) (cap - 1)) rfl (by kernel_rfl) (by kernel_rfl) (by kernel_rfl) (fun _ _ _ h => nomatch h.1) (y_slice1 (by simp [Region.wanted]) (.tmp 46) rfl gs m cap h1m oo hoo hmc (ev_eq _ _ (by simp [put_sz, sz]))) hs0 ?_
  show wpAnyG _ _ _ _ _ _ _ _ (((A.put (some 45) (.agg (bvs key))).put (some 46) (.slice (some ⟨gs, 0, none⟩) m cap)).put (some 47) (.slice (some ⟨gs, oo, none⟩) (m - 1) (cap - 1))) _
  refine wpAnyG_all (rs := [3]) (by kernel_rfl) (by simp) fun i1 hm1 => ?_
  obtain rfl : i1 = 3 := by simpa using hm1
  refine wpOp_own rfl rfl fun K1 hK1 => ?_
  refine wp_calls2 35 hf_ropenJ (.tmp 45) (.tmp 47) _ rfl (.agg (bvs key)) (.slice (some ⟨gs, oo, none⟩) (m - 1) (cap - 1)) ((ev_ne _ _ (by decide)).trans ((ev_ne _ _ (by decide)).trans (ev_eq _ _ (by simp [sz])))) (ev_eq _ _ (by simp [put_sz, sz])) ?_
  refine (hcall).mono ?_
  rintro _ V1 ⟨vv, rfl, hP, hb1⟩
  have hs1 := (hb1.block R (heap_lt hs0)).trans hs0
  refine ⟨_, rfl, hK1 _ _ ⟨.inr hs1, ?_⟩⟩
  clear hK1 K1 hm1
  show wpAnyG _ _ _ _ _ _ _ _ ((((A.put (some 45) (.agg (bvs key))).put (some 46) (.slice (some ⟨gs, 0, none⟩) m cap)).put (some 47) (.slice (some ⟨gs, oo, none⟩) (m - 1) (cap - 1))).put (some 48) (.tuple #[vv, .int .u64 (k : Int), .int .i64 er])) _
  refine wpAnyG_take (i := 4) (v := .tuple #[vv, .int .u64 (k : Int), .int .i64 er]) rfl (by kernel_rfl) (by kernel_rfl) (by kernel_rfl) (fun _ _ _ h => nomatch h.1) (yg_mv (by simp [Region.wanted]) (.tmp 48) rfl (ev_eq _ _ (by simp [put_sz, sz]))) hs1 ?_
  show wpAnyG _ _ _ _ _ _ _ _ (((((A.put (some 45) (.agg (bvs key))).put (some 46) (.slice (some ⟨gs, 0, none⟩) m cap)).put (some 47) (.slice (some ⟨gs, oo, none⟩) (m - 1) (cap - 1))).put (some 48) (.tuple #[vv, .int .u64 (k : Int), .int .i64 er])).put (some 44) (.tuple #[vv, .int .u64 (k : Int), .int .i64 er])) _
  refine wpAnyG_take (i := 5) (v := vv) rfl (by kernel_rfl) (by kernel_rfl) (by kernel_rfl) (fun _ _ _ h => nomatch h.1) (yg_ext (by simp [Region.wanted]) (.tmp 44) rfl (ev_eq _ _ (by simp [put_sz, sz])) (fun w => by simp [go_sem])) hs1 ?_
  show wpAnyG _ _ _ _ _ _ _ _ ((((((A.put (some 45) (.agg (bvs key))).put (some 46) (.slice (some ⟨gs, 0, none⟩) m cap)).put (some 47) (.slice (some ⟨gs, oo, none⟩) (m - 1) (cap - 1))).put (some 48) (.tuple #[vv, .int .u64 (k : Int), .int .i64 er])).put (some 44) (.tuple #[vv, .int .u64 (k : Int), .int .i64 er])).put (some 49) (vv)) _
  refine wpAnyG_take (i := 6) (v := .int .u64 (k : Int)) rfl (by kernel_rfl) (by kernel_rfl) (by kernel_rfl) (fun _ _ _ h => nomatch h.1) (yg_ext (by simp [Region.wanted]) (.tmp 44) rfl ((ev_ne _ _ (by decide)).trans (ev_eq _ _ (by simp [put_sz, sz]))) (fun w => by simp [go_sem])) hs1 ?_
  show wpAnyG _ _ _ _ _ _ _ _ (((((((A.put (some 45) (.agg (bvs key))).put (some 46) (.slice (some ⟨gs, 0, none⟩) m cap)).put (some 47) (.slice (some ⟨gs, oo, none⟩) (m - 1) (cap - 1))).put (some 48) (.tuple #[vv, .int .u64 (k : Int), .int .i64 er])).put (some 44) (.tuple #[vv, .int .u64 (k : Int), .int .i64 er])).put (some 49) (vv)).put (some 50) (.int .u64 (k : Int))) _
  refine wpAnyG_take (i := 7) (v := .int .i64 er) rfl (by kernel_rfl) (by kernel_rfl) (by kernel_rfl) (fun _ _ _ h => nomatch h.1) (yg_ext (by simp [Region.wanted]) (.tmp 44) rfl ((ev_ne _ _ (by decide)).trans ((ev_ne _ _ (by decide)).trans (ev_eq _ _ (by simp [put_sz, sz])))) (fun w => by simp [go_sem])) hs1 ?_
  show wpAnyG _ _ _ _ _ _ _ _ ((((((((A.put (some 45) (.agg (bvs key))).put (some 46) (.slice (some ⟨gs, 0, none⟩) m cap)).put (some 47) (.slice (some ⟨gs, oo, none⟩) (m - 1) (cap - 1))).put (some 48) (.tuple #[vv, .int .u64 (k : Int), .int .i64 er])).put (some 44) (.tuple #[vv, .int .u64 (k : Int), .int .i64 er])).put (some 49) (vv)).put (some 50) (.int .u64 (k : Int))).put (some 51) (.int .i64 er)) _
  refine wpAnyG_take (i := 8) (v := vv) rfl (by kernel_rfl) (by kernel_rfl) (by kernel_rfl) (fun _ _ _ h => nomatch h.1) (yg_as (by simp [Region.wanted]) (.tmp 49) rfl ((ev_ne _ _ (by decide)).trans ((ev_ne _ _ (by decide)).trans (ev_eq _ _ (by simp [put_sz, sz]))))) hs1 ?_
  show wpAnyG _ _ _ _ _ _ _ _ (((((((((A.put (some 45) (.agg (bvs key))).put (some 46) (.slice (some ⟨gs, 0, none⟩) m cap)).put (some 47) (.slice (some ⟨gs, oo, none⟩) (m - 1) (cap - 1))).put (some 48) (.tuple #[vv, .int .u64 (k : Int), .int .i64 er])).put (some 44) (.tuple #[vv, .int .u64 (k : Int), .int .i64 er])).put (some 49) (vv)).put (some 50) (.int .u64 (k : Int))).put (some 51) (.int .i64 er)).put (some 15) (vv)) _
  obtain ⟨Az1, hAz1⟩ : ∃ Az1, Az1 = (((((((((A.put (some 45) (.agg (bvs key))).put (some 46) (.slice (some ⟨gs, 0, none⟩) m cap)).put (some 47) (.slice (some ⟨gs, oo, none⟩) (m - 1) (cap - 1))).put (some 48) (.tuple #[vv, .int .u64 (k : Int), .int .i64 er])).put (some 44) (.tuple #[vv, .int .u64 (k : Int), .int .i64 er])).put (some 49) (vv)).put (some 50) (.int .u64 (k : Int))).put (some 51) (.int .i64 er)).put (some 15) (vv)) := ⟨_, rfl⟩
  have szAz1 : Az1.tmps.size = 60 := by rw [hAz1]; simp [put_sz, sz]
  have eAz150 : Az1.eval (.tmp 50) = .int .u64 (k : Int) := by rw [hAz1]; exact ((ev_ne _ _ (by decide)).trans ((ev_ne _ _ (by decide)).trans (ev_eq _ _ (by simp [put_sz, sz]))))
  have eAz151 : Az1.eval (.tmp 51) = .int .i64 er := by rw [hAz1]; exact ((ev_ne _ _ (by decide)).trans (ev_eq _ _ (by simp [put_sz, sz])))
  rw [← hAz1]
  refine wpAnyG_take (i := 9) (v := .int .u64 (k : Int)) rfl (by kernel_rfl) (by kernel_rfl) (by kernel_rfl) (fun _ _ _ h => nomatch h.1) (yg_as (by simp [Region.wanted]) (.tmp 50) rfl eAz150) hs1 ?_
  show wpAnyG _ _ _ _ _ _ _ _ (Az1.put (some 16) (.int .u64 (k : Int))) _
  refine wpAnyG_take (i := 10) (v := .int .i64 er) rfl (by kernel_rfl) (by kernel_rfl) (by kernel_rfl) (fun _ _ _ h => nomatch h.1) (yg_as (by simp [Region.wanted]) (.tmp 51) rfl ((ev_ne _ _ (by decide)).trans eAz151)) hs1 ?_
  show wpAnyG _ _ _ _ _ _ _ _ ((Az1.put (some 16) (.int .u64 (k : Int))).put (some 14) (.int .i64 er)) _
  refine wpAnyG_done (by kernel_rfl) ⟨rfl, vv, ?_, hP, hb1⟩ _
  show ((Az1.put (some 16) (.int .u64 (k : Int))).put (some 14) (.int .i64 er)) = _
  rw [hAz1]
/-- bytes that lie somewhere -/
def Lies (w : World) (v : Value) (l : List UInt8) : Prop := ∃ a c, v = .slice a l.length c ∧ Bytes w a l
theorem lies_nil (w : World) : Lies w (.slice none 0 0) [] := ⟨none, 0, rfl, fun i hi => by simp at hi⟩
theorem Lies.below {w w' : World} {v : Value} {l : List UInt8} (h : Lies w v l) (hb : Below w.heap.size w w') : Lies w' v l := by
  obtain ⟨a, c, e, h⟩ := h
  exact ⟨a, c, e, h.below hb⟩
theorem rOpenS_any {w : World} {K : Array Value} {key : List UInt8} (hK : HV K key) (S : List UInt8) (ab ao n cap : Nat) (hn : n = S.length) (hB : Bytes w (some ⟨ab, ao, none⟩) S) (hcap : n ≤ cap) : ∃ nu : Nat,
    Calls Tryd.prog 35 #[.agg K, .slice (some ⟨ab, ao, none⟩) n cap] w fun e w' => ∃ vv, e = .returned (.tuple #[vv, .int .u64 (nu : Int), .int .i64 ((openS key S).2 : Int)]) ∧ Lies w' vv (openS key S).1 ∧ Below w.heap.size w w' := by
  unfold openS
  by_cases h1 : S.length < 24
  · rw [if_pos h1]
    refine ⟨0, (refOpen_bad hK _ n cap (by omega)).mono fun e w' h => ⟨_, ?_, lies_nil _, h.2⟩⟩
    rw [h.1, if_pos (by omega)]
    rfl
  · rw [if_neg h1]
    by_cases h2 : 1048 < S.length
    · rw [if_pos h2]
      refine ⟨0, (refOpen_bad hK _ n cap (by omega)).mono fun e w' h => ⟨_, ?_, lies_nil _, h.2⟩⟩
      rw [h.1, if_neg (by omega)]
      rfl
    · rw [if_neg h2]
      by_cases h3 : S.drop (S.length - 16) = tagB key (S.take (S.length - 16))
      · rw [if_pos h3]
        refine ⟨numB (S.take 8), (refOpen_right hK S ab ao n cap hn hB (by omega) (by omega) hcap (by rw [hn]; exact h3)).mono fun e w' h => ?_⟩
        obtain ⟨a, c, he, hb, hbel⟩ := h
        rw [hn] at he hb
        refine ⟨_, he, ⟨a, c, ?_, hb⟩, hbel⟩
        rw [cross_len, List.length_drop, List.length_take]
        congr 1
        omega
      · rw [if_neg h3]
        refine ⟨0, (refOpen_wrong hK S ab ao n cap hn hB (by omega) (by omega) hcap (by rw [hn]; exact h3)).mono fun e w' h => ?_⟩
        exact ⟨_, h.1, lies_nil _, h.2⟩
def ROpP (w : World) (r : List UInt8 × (Nat × Nat)) (e : Ending) (w' : World) : Prop := ∃ v, e = .returned (.tuple #[v, .int .i64 (r.2.1 : Int), .int .i64 (r.2.2 : Int)]) ∧ Lies w' v r.1 ∧ Below w.heap.size w w'
set_option maxHeartbeats 4000000 in
theorem ropen_gen {w : World} {g : Nat} (t u : ByteArray) (z : Int) (v : Nat) (hv : v ≤ 255) (key : List UInt8) (S : List UInt8) (gs m cap : Nat) (hm : m = S.length + 1) (hm9 : m ≤ 140737488351232) (hmc : m ≤ cap) (hB : Bytes w (some ⟨gs, 0, none⟩) (UInt8.ofNat v :: S)) (HC : Calls Tryd.prog 24 #[.pointer (some ⟨g, 0, none⟩), .string t, .string u] w fun e w' => e = .returned (.tuple #[.int .i64 z, .int .i64 0]) ∧ Below w.heap.size w w')
    (HKy : ∀ W, Below w.heap.size w W → Calls Tryd.prog 23 #[.pointer (some ⟨g, 0, none⟩), .string t, .string u, .int .i64 (v : Int)] W (HashErr W key 0)) :
    Calls Tryd.prog 21 #[.pointer (some ⟨g, 0, none⟩), .string t, .string u, .slice (some ⟨gs, 0, none⟩) m cap] w (ROpP w ((openS key S).1, (if (openS key S).2 = 0 then v else 0, (openS key S).2))) := by
  obtain ⟨Z, hZ⟩ : ∃ Z, Z = bvs (List.replicate 32 0) := ⟨_, rfl⟩
  have zh := (zero_of_info zero_hash).1
  rw [← hZ] at zh
  have hz : Hid (HV Z (List.replicate 32 0)) := by
    show HV _ _
    rw [hZ]; exact hv_zero
  have zh := hid zh
  have HC := hid HC
  have HKy := hid HKy
  have hv8 : ((UInt8.ofNat v).toNat : Int) = (v : Int) := by
    have : (UInt8.ofNat v).toNat = v := by simp; omega
    omega
  have q0 : w.cell? ⟨gs, 0, none⟩ = some (.int .u8 (v : Int)) := by
    obtain ⟨b9, o9, e9, hc9⟩ := hB 0 (by simp)
    cases e9
    rw [← hv8]
    exact hc9
  have hB1 : Bytes w (some ⟨gs, 1, none⟩) S := fun i hi => by
    obtain ⟨b9, o9, e9, hc9⟩ := hB (i + 1) (by simp; omega)
    cases e9
    refine ⟨gs, 1, rfl, ?_⟩
    rw [show 1 + i = 0 + (i + 1) by omega]
    exact hc9
  obtain ⟨oo, hoo⟩ : ∃ oo, oo = if 1 < cap then 1 else 0 := ⟨_, rfl⟩
  have hB1 : Bytes w (some ⟨gs, oo, none⟩) S := by
    by_cases hc : 1 < cap
    · rw [hoo, if_pos hc]; exact hB1
    · intro i hi; omega
  have HB1 := hid hB1
  have Hoo := hid hoo
  clear hoo
  have Q0 := hid q0
  have gm0 : ((m : Int) == 0) = false := by simp; omega
  have hm0 : 0 < m := by omega
  have Hm := hid hm
  have Hm9 := hid hm9
  obtain ⟨er, her⟩ : ∃ er, er = (openS key S).2 := ⟨_, rfl⟩
  obtain ⟨pl, hpl⟩ : ∃ pl, pl = (openS key S).1 := ⟨_, rfl⟩
  have Her := hid her
  have Hpl := hid hpl
  rw [← her, ← hpl]
  obtain ⟨RR, hRR⟩ : ∃ RR, RR = (pl, ((if er = 0 then v else 0 : Nat), er)) := ⟨_, rfl⟩
  have HRR := hid hRR
  rw [← hRR]
  clear hRR
  clear hm hZ hB hB1 hv8 q0 her hpl hm9
  go_enter Tryd.func21, Tryd.ntmps21
  go_wp2_with (first
    | (go_at_call 24; refine HC.out.mono ?_; rintro _ w1 ⟨rfl, b1⟩; have B1 := hid b1; have q1 := (b1.cell (World.block_lt_of_cell? _ _ Q0.out)).trans Q0.out; clear b1)
    | (go_at_call 23; refine (HKy.out w1 B1.out).mono ?_; rintro _ w2 ⟨O, rfl, hO, b2⟩; obtain rfl := hO.eq; have hlk := hid hO.len; have B2 := hid (Below.on' B1.out b2); have X2 : Hid ((w2.alloc (.cells Z 23)).heap[w2.heap.size]? = some (.cells Z 23 (0, 0))) := heap_alloc_new w2 _; have HI := hid hO.info; have HZ9 := hid (hz.out.size.trans hO.size.symm); have HO1 := hid hO.one; clear b2 hO)
    | (with_reducible show Go.wpList _ _ _ _ _ _; refine wpList_alloc_row rfl 23 rfl Z zh.out ?_)
    | (with_reducible show Go.wpList _ _ _ _ _ _; refine wpList_store_row rfl 23 _ _ rfl w2.heap.size (bvs key) rfl rfl 23 Z X2.out HI.out HZ9.out HO1.out ?_))
  obtain ⟨W3, hW3⟩ : ∃ W3, W3 = (w2.alloc (.cells Z 23)).setRow w2.heap.size (bvs key) := ⟨_, rfl⟩
  have b3 : Below w2.heap.size w2 W3 := by rw [hW3]; exact ((Below.refl _ w2).alloc (Nat.le_refl _) _).setRow (Nat.le_refl _) _
  have x3 : W3.heap[w2.heap.size]? = some (.cells (bvs key) 23 (0, 0)) := by rw [hW3]; exact setRow_heap _ _ _ _ _ _ X2.out
  rw [← hW3]
  obtain ⟨V0, hV0⟩ : ∃ V0, V0 = W3.drew := ⟨_, rfl⟩
  have b30 : Below W3.heap.size W3 V0 := by rw [hV0]; exact (Below.refl _ W3).drew
  have bw0 : Below w.heap.size w V0 := Below.on' (Below.on' B2.out b3) b30
  obtain ⟨nu, hcall⟩ := rOpenS_any (w := V0) (K := bvs key) (key := key) ⟨rfl, hlk.out⟩ S gs oo (m - 1) (cap - 1) (by have := Hm.out; omega) (HB1.out.below bw0) (by omega)
  rw [← Her.out, ← Hpl.out] at hcall
  refine wp_act _ fun A hA => ?_
  have sz : A.tmps.size = 60 := by rw [hA]; rfl
  have e3 : A.eval (.tmp 3) = .slice (some ⟨gs, 0, none⟩) m cap := by rw [hA]; rfl
  have e13 : A.eval (.tmp 13) = .pointer (some ⟨w2.heap.size, 0, none⟩) := by rw [hA]; rfl
  refine wp_split _ (ropen_region9 (P := fun vv w' => Lies w' vv pl) sz e3 e13 hlk.out (by omega) Hoo.out (by omega) hcall hV0 ((b30.block _ (heap_lt x3)).trans x3)) ?_
  rintro _ V4 ⟨vv, rfl, hown, b4⟩
  rw [hA]
  simp only [Act.put, List.setIfInBounds_toArray, List.set_cons_succ, List.set_cons_zero]
  have HOwn := hid hown
  have BF := hid (Below.on' bw0 b4)
  clear sz e3 e13 hA A hcall hown b4 bw0 b30 b3 x3 hV0 hW3
  have q4 := (BF.out.cell (World.block_lt_of_cell? _ _ Q0.out)).trans Q0.out
  have q5 : V4.drew.cell? ⟨gs, 0, none⟩ = some (.int .u8 (v : Int)) := q4
  by_cases h0 : er = 0
  · have Hv0 : Hid (RR = (pl, (v, 0))) := HRR.out.trans (by rw [if_pos h0, h0])
    subst h0
    go_wp2
    go_quiet (fail)
    go_wp2
    go_ret3
    rw [Hv0.out]
    exact ⟨vv, rfl, HOwn.out.below (below_drewN _ _ _), BF.out.trans (below_drewN _ _ _)⟩
  · have q9 : ((er : Int) != 0) = true := by simp; omega
    have hnil : Hid (RR = ([], (0, er))) := by
      show RR = _
      rw [HRR.out, if_neg h0, Hpl.out, openS_err (by rw [← Her.out]; exact h0)]
    clear h0
    go_wp2
    go_ret3
    rw [hnil.out]
    exact ⟨_, rfl, lies_nil _, BF.out⟩
end Go.Proofs.YtdglmoikgmlaaaaDoor

/- The reference's Open and Reseal of any bytes, by contracts. -/
namespace Go.Proofs.YtdglmoikgmlaaaaDoor
open Go.RowKit Go.Maps
set_option linter.unusedVariables false
set_option maxRecDepth 20000
set_option maxHeartbeats 1000000 in
theorem ropen_err {w : World} {g : Nat} (t u : ByteArray) (v : Value) (z c : Int) (hc : c ≠ 0) (H : Calls Tryd.prog 24 #[.pointer (some ⟨g, 0, none⟩), .string t, .string u] w fun e w' => e = .returned (.tuple #[.int .i64 z, .int .i64 c]) ∧ Below w.heap.size w w') :
    Calls Tryd.prog 21 #[.pointer (some ⟨g, 0, none⟩), .string t, .string u, v] w fun e w' => e = .returned (.tuple #[.slice none 0 0, .int .i64 0, .int .i64 c]) ∧ Below w.heap.size w w' := by
  have q0 : (c != 0) = true := by simpa using hc
  go_enter Tryd.func21, Tryd.ntmps21
  go_wp2_with (go_at_call 24; refine H.mono ?_; rintro _ w1 ⟨rfl, b1⟩)
  go_ret3
  exact ⟨rfl, b1⟩
set_option maxHeartbeats 1000000 in
theorem ropen_empty {w : World} {g : Nat} (t u : ByteArray) (a : Option Addr) (cap : Nat) (z : Int) (H : Calls Tryd.prog 24 #[.pointer (some ⟨g, 0, none⟩), .string t, .string u] w fun e w' => e = .returned (.tuple #[.int .i64 z, .int .i64 0]) ∧ Below w.heap.size w w') :
    Calls Tryd.prog 21 #[.pointer (some ⟨g, 0, none⟩), .string t, .string u, .slice a 0 cap] w fun e w' => e = .returned (.tuple #[.slice none 0 0, .int .i64 0, .int .i64 3]) ∧ Below w.heap.size w w' := by
  go_enter Tryd.func21, Tryd.ntmps21
  go_wp2_with (go_at_call 24; refine H.mono ?_; rintro _ w1 ⟨rfl, b1⟩)
  go_ret3
  exact ⟨rfl, b1⟩
set_option maxHeartbeats 4000000 in
theorem ropen_rng {w : World} {g : Nat} (t u : ByteArray) (z : Int) (v : Nat) (hv : v ≤ 255) (gs m cap : Nat) (hm0 : 0 < m) (q0 : w.cell? ⟨gs, 0, none⟩ = some (.int .u8 (v : Int))) (key : List UInt8) (HC : Calls Tryd.prog 24 #[.pointer (some ⟨g, 0, none⟩), .string t, .string u] w fun e w' => e = .returned (.tuple #[.int .i64 z, .int .i64 0]) ∧ Below w.heap.size w w')
    (HKy : ∀ W, Below w.heap.size w W → Calls Tryd.prog 23 #[.pointer (some ⟨g, 0, none⟩), .string t, .string u, .int .i64 (v : Int)] W (HashErr W key 2)) :
    Calls Tryd.prog 21 #[.pointer (some ⟨g, 0, none⟩), .string t, .string u, .slice (some ⟨gs, 0, none⟩) m cap] w fun e w' => e = .returned (.tuple #[.slice none 0 0, .int .i64 0, .int .i64 2]) ∧ Below w.heap.size w w' := by
  obtain ⟨Z, hZ⟩ : ∃ Z, Z = bvs (List.replicate 32 0) := ⟨_, rfl⟩
  have zh := (zero_of_info zero_hash).1
  rw [← hZ] at zh
  have hz : Hid (HV Z (List.replicate 32 0)) := by
    show HV _ _
    rw [hZ]; exact hv_zero
  have Zh := hid zh
  have HC := hid HC
  have HKy := hid HKy
  have Q0 := hid q0
  have gm0 : ((m : Int) == 0) = false := by simp; omega
  have hm0' := hid hm0
  clear hZ q0
  go_enter Tryd.func21, Tryd.ntmps21
  go_wp2_with (first
    | (go_at_call 24; refine HC.out.mono ?_; rintro _ w1 ⟨rfl, b1⟩; have B1 := hid b1; have q1 := (b1.cell (World.block_lt_of_cell? _ _ Q0.out)).trans Q0.out; clear b1)
    | (go_at_call 23; refine (HKy.out w1 B1.out).mono ?_; rintro _ w2 ⟨O, rfl, hO, b2⟩; obtain rfl := hO.eq; have hlk := hid hO.len; have B2 := hid (Below.on' B1.out b2); have X2 : Hid ((w2.alloc (.cells Z 23)).heap[w2.heap.size]? = some (.cells Z 23 (0, 0))) := heap_alloc_new w2 _; have HI := hid hO.info; have HZ9 := hid (hz.out.size.trans hO.size.symm); have HO1 := hid hO.one; clear b2 hO)
    | (with_reducible show Go.wpList _ _ _ _ _ _; refine wpList_alloc_row rfl 23 rfl Z Zh.out ?_)
    | (with_reducible show Go.wpList _ _ _ _ _ _; refine wpList_store_row rfl 23 _ _ rfl w2.heap.size (bvs key) rfl rfl 23 Z X2.out HI.out HZ9.out HO1.out ?_))
  go_ret3
  exact ⟨rfl, (B2.out.alloc B2.out.size _).setRow B2.out.size _⟩
theorem rCur_any {w : World} {B g : Nat} {root : List UInt8} {s : TS} (h : RT w B g root s) (ok : s.Ok) (t u : ByteArray) (ht : t.size ≤ maxLen) (hu : u.size ≤ maxLen) :
    Calls Tryd.prog 24 #[.pointer (some ⟨g, 0, none⟩), .string t, .string u] w fun e w' => e = .returned (.tuple #[.int .i64 ((s.cur t u).1 : Int), .int .i64 ((s.cur t u).2 : Int)]) ∧ Below w.heap.size w w' := by
  obtain ⟨gv, lv, h⟩ := h
  have hf := ok.few
  have hgf := ok.gfew
  exact rCurrent_any h (by omega) (by omega) t u ht hu
theorem rOpen_any {w : World} {B g : Nat} {root : List UInt8} {s : TS} (h : RT w B g root s) (ok : s.Ok) (t u : ByteArray) (ht : t.size ≤ maxLen) (hu : u.size ≤ maxLen) (S : List UInt8) (a : Option Addr) (m cap : Nat) (hm : m = S.length) (hm9 : m ≤ 140737488351232) (hmc : m ≤ cap) (ha : S ≠ [] → ∃ gs, a = some ⟨gs, 0, none⟩) (hB : Bytes w a S) :
    Calls Tryd.prog 21 #[.pointer (some ⟨g, 0, none⟩), .string t, .string u, .slice a m cap] w (ROpP w (s.openR root t u S)) := by
  have h0 := h
  obtain ⟨gv, lv, h⟩ := h
  have hf := ok.few
  have hgf := ok.gfew
  have HC := rCurrent_any h (by omega) (by omega) t u ht hu
  cases S with
  | nil =>
    subst hm
    rw [openR_nil]
    by_cases he : (s.cur t u).2 ≠ 0
    · rw [if_pos he]
      exact (ropen_err t u _ _ _ (by omega) HC).mono fun e w' h9 => ⟨_, h9.1, lies_nil _, h9.2⟩
    · rw [if_neg he]
      have he0 : (s.cur t u).2 = 0 := by omega
      rw [he0] at HC
      exact (ropen_empty t u a cap _ HC).mono fun e w' h9 => ⟨_, h9.1, lies_nil _, h9.2⟩
  | cons b S =>
    obtain ⟨gs, rfl⟩ := ha (by simp)
    have hb8 : UInt8.ofNat b.toNat = b := by simp
    have hlt := b.toNat_lt
    show Calls _ _ _ _ (ROpP w (s.openB root t u b S))
    unfold TS.openB
    by_cases he : (s.cur t u).2 ≠ 0
    · rw [if_pos he]
      exact (ropen_err t u _ _ _ (by omega) HC).mono fun e w' h9 => ⟨_, h9.1, lies_nil _, h9.2⟩
    · rw [if_neg he]
      have he0 : (s.cur t u).2 = 0 := by omega
      rw [he0] at HC
      by_cases hk : (s.keyR root t u (b.toNat : Int)).2 ≠ 0
      · rw [if_pos hk]
        have q0 : w.cell? ⟨gs, 0, none⟩ = some (.int .u8 (b.toNat : Int)) := by
          obtain ⟨b9, o9, e9, hc9⟩ := hB 0 (by simp)
          cases e9
          exact hc9
        have h2 := keyR_err he0 hk
        rw [h2]
        exact (ropen_rng t u _ b.toNat (by omega) gs m cap (by rw [hm]; simp) q0 _ HC (fun W hW => by have := rKey_any (h0.below hW) ok t u ht hu (b.toNat : Int); rw [h2] at this; exact this)).mono fun e w' h9 => ⟨_, h9.1, lies_nil _, h9.2⟩
      · rw [if_neg hk]
        have hk0 : (s.keyR root t u (b.toNat : Int)).2 = 0 := by omega
        exact ropen_gen t u _ b.toNat (by omega) _ S gs m cap (by rw [hm]; rfl) hm9 hmc (by rw [hb8]; exact hB) HC (fun W hW => by have := rKey_any (h0.below hW) ok t u ht hu (b.toNat : Int); rw [hk0] at this; exact this)
theorem OutJ.rm {w w1 w2 : World} {B g : Nat} (b : Below w.heap.size w w1) (o : OutJ (RM w1 B g) w1 w2) : OutJ (RM w B g) w w2 :=
  ⟨o.os.trans b.os, o.tape.trans b.tape, o.output.trans b.output, Nat.le_trans b.size o.size, fun k hk hp => (o.block k (Nat.lt_of_lt_of_le hk b.size) (fun ⟨h1, h2⟩ => hp ⟨h1, by rw [b.block k hk] at h2; exact h2⟩)).trans (b.block k hk)⟩
def RResP (w : World) (B g : Nat) (root : List UInt8) (r : TS × (List UInt8 × (Bool × Nat))) (e : Ending) (w' : World) : Prop := ∃ v, e = .returned (.tuple #[v, .bool r.2.2.1, .int .i64 (r.2.2.2 : Int)]) ∧ w'.ownsRow w.heap.size 5 1 v r.2.1.length (cellsOf r.2.1) ∧ RT w' B g root r.1 ∧ OutJ (RM w B g) w w'
theorem resealR_eq (s : TS) (root : List UInt8) (t u : ByteArray) (S : List UInt8) : s.resealR root t u S = if (s.openR root t u S).2.2 ≠ 0 then (s, ([], (false, (s.openR root t u S).2.2))) else if (s.openR root t u S).2.1 = verOf s.vs t u then (s, (S, (false, 0))) else ((s.sealR root t u (s.openR root t u S).1).1, ((s.sealR root t u (s.openR root t u S).1).2.1, (decide ((s.sealR root t u (s.openR root t u S).1).2.2 = 0), (s.sealR root t u (s.openR root t u S).1).2.2))) := by
  cases S with
  | nil =>
    rw [openR_nil, if_pos]
    · rfl
    · show (if (s.cur t u).2 ≠ 0 then (s.cur t u).2 else 3) ≠ 0
      split <;> omega
  | cons b S => rfl
theorem openR_ok {s : TS} {root : List UInt8} {t u : ByteArray} {S : List UInt8} (h : (s.openR root t u S).2.2 = 0) : (s.cur t u).2 = 0 := by
  cases S with
  | nil => rw [openR_nil] at h; simp only at h; split at h <;> omega
  | cons b S =>
    change (s.openB root t u b S).2.2 = 0 at h
    unfold TS.openB at h
    by_cases he : (s.cur t u).2 ≠ 0
    · rw [if_pos he] at h; exact h
    · omega
set_option maxHeartbeats 4000000 in
theorem rReseal_any {w : World} {B g : Nat} {root : List UInt8} {s : TS} (h : RT w B g root s) (ok : s.Ok) (hB0 : B ≤ w.heap.size) (hsn : s.n ≤ 1000) (t u : ByteArray) (ht : t.size ≤ maxLen) (hu : u.size ≤ maxLen) (S : List UInt8) (a : Option Addr) (m cap : Nat) (hm : m = S.length) (hm9 : m ≤ 140737488351232) (hmc : m ≤ cap) (ha : S ≠ [] → ∃ gs, a = some ⟨gs, 0, none⟩) (hB : Bytes w a S) (hcn : a = none → cap = 0) :
    Calls Tryd.prog 22 #[.pointer (some ⟨g, 0, none⟩), .string t, .string u, .slice a m cap] w (RResP w B g root (s.resealR root t u S)) := by
  have HO := hid (rOpen_any h ok t u ht hu S a m cap hm hm9 hmc ha hB)
  have hf := ok.few
  have hgf := ok.gfew
  have HC := hid (fun (W : World) (hW : Below w.heap.size w W) => rCur_any (h.below hW) ok t u ht hu)
  have HS := hid (fun (W : World) (hW : Below w.heap.size w W) (p : List UInt8) (a : Option Addr) (n c : Nat) (hn : n = p.length) (hb : Bytes W a p) => rSeal_any (h.below hW) ok (Nat.le_trans hB0 hW.size) hsn t u ht hu p a n c hn hb)
  have HB := hid (fun (W : World) (hW : Below w.heap.size w W) => hB.below hW)
  have H := hid h
  have Hm := hid hm
  have Hm9 := hid hm9
  have Hcn := hid hcn
  obtain ⟨R, hR⟩ : ∃ R, R = s.resealR root t u S := ⟨_, rfl⟩
  have HR : Hid (R = _) := hR.trans (resealR_eq s root t u S)
  rw [← hR]
  obtain ⟨po, vo, eo, hop⟩ : ∃ po vo eo, s.openR root t u S = (po, (vo, eo)) := ⟨_, _, _, rfl⟩
  rw [hop] at HO HR
  have Hcur : Hid (eo = 0 → s.cur t u = (verOf s.vs t u, 0)) := fun h0 => by
    have h1 := openR_ok (s := s) (root := root) (t := t) (u := u) (S := S) (by rw [hop]; exact h0)
    obtain ⟨_, _, _, h2⟩ := cur_ok h1
    exact Prod.ext h2 h1
  clear h hm hm9 hmc hB hsn hR hop ha hf hgf hB0 hcn
  by_cases he : eo = 0
  · have Hc := hid (Hcur.out he)
    rw [Hc.out] at HC
    subst he
    by_cases hv : vo = verOf s.vs t u
    · have q1 : ((verOf s.vs t u : Int) == (vo : Int)) = true := by simp; omega
      have Hv := hid hv
      clear hv
      go_enter Tryd.func22, Tryd.ntmps22
      go_wp2_with (first
        | (go_at_call 21; refine HO.out.mono ?_; rintro _ w1 ⟨v1, rfl, o1, b1⟩; have B1 := hid b1; clear b1 o1)
        | (go_at_call 24; refine (HC.out w1 B1.out).mono ?_; rintro _ w2 ⟨rfl, b2⟩; have B2 := hid (Below.on' B1.out b2); clear b2)
        | (at_builtin; refine app_src _ rfl (.tmp 40) (.tmp 41) rfl w.heap.size (.slice none 0 0) [] rfl (World.ownsRow_nil _ _ _ _) a m cap S Hm.out rfl (HB.out w2 B2.out) Hcn.out (by have := Hm.out; have := Hm9.out; simp; omega) B2.out.size ?_; intro v3 w3 o3 b3; have O3 := hid o3; have B3 := hid (B2.out.trans b3); clear o3 b3))
      go_ret3
      have hR1 : R = (s, (S, (false, 0))) := by
        rw [HR.out, if_neg (by simp), if_pos Hv.out]
      rw [hR1]
      exact ⟨v3, rfl, by have := O3.out; rw [List.nil_append] at this; exact this, H.out.below B3.out, OutJ.of_below B3.out⟩
    · have q1 : ((verOf s.vs t u : Int) == (vo : Int)) = false := by simp; omega
      have Hv := hid hv
      obtain ⟨sr, lr, er, hsr⟩ : ∃ sr lr er, s.sealR root t u po = (sr, (lr, er)) := ⟨_, _, _, rfl⟩
      have HS9 := hid (fun (W : World) (hW : Below w.heap.size w W) (a : Option Addr) (n c : Nat) (hn : n = po.length) (hb : Bytes W a po) => by have := HS.out W hW po a n c hn hb; rw [hsr] at this; exact this)
      have Hsr := hid hsr
      clear hv hsr
      go_enter Tryd.func22, Tryd.ntmps22
      go_wp2_with (first
        | (go_at_call 21; refine HO.out.mono ?_; rintro _ w1 ⟨v1, rfl, ⟨a1, c1, rfl, hB1⟩, b1⟩; have B1 := hid b1; have HB1 := hid hB1; clear b1 hB1)
        | (go_at_call 24; refine (HC.out w1 B1.out).mono ?_; rintro _ w2 ⟨rfl, b2⟩; have B2 := hid (Below.on' B1.out b2); have HB2 := hid (HB1.out.below b2); clear b2)
        | (go_at_call 20; refine (HS9.out w2 B2.out a1 _ c1 rfl HB2.out).mono ?_; rintro _ w3 ⟨v3, rfl, o3, t3, x3⟩; have O3 := hid (own_mono o3 B2.out.size); have T3 := hid t3; have X3 := hid x3; clear o3 t3 x3))
      go_ret3
      have hR1 : R = (sr, (lr, (decide (er = 0), er))) := by
        rw [HR.out, if_neg (by simp), if_neg Hv.out]
        simp only [Hsr.out]
      rw [hR1]
      refine ⟨v3, ?_, O3.out, T3.out, ?_⟩
      · have hd : ((er : Int) == 0) = decide (er = 0) := by
          by_cases h0 : er = 0
          · subst h0; rfl
          · have : ¬ (er : Int) = 0 := by omega
            simp [h0]
        rw [← hd]
        rfl
      · exact OutJ.rm B2.out X3.out
  · have q1 : ((eo : Int) != 0) = true := by simp; omega
    have He := hid he
    clear he
    go_enter Tryd.func22, Tryd.ntmps22
    go_wp2_with (go_at_call 21; refine HO.out.mono ?_; rintro _ w1 ⟨v1, rfl, o1, b1⟩; have B1 := hid b1; clear b1 o1)
    go_ret3
    have hR1 : R = (s, ([], (false, eo))) := by
      rw [HR.out, if_pos He.out]
    rw [hR1]
    exact ⟨_, rfl, nilJ _ _, H.out.below B1.out, OutJ.of_below B1.out⟩
end Go.Proofs.YtdglmoikgmlaaaaDoor
