/- SealTells of the laws on sealed texts, walked. -/
import Derived.Test.YtfiaefagnkmpoaaDoorERef2
import Derived.Test.YtfiaefagnkmpoaaDoorELift
namespace Go.Proofs.YtfiaefagnkmpoaaDoor
open Go.ChangeShapes Go.WideShapes Go.ChangeAt Go.RowKit Go.Shelf
set_option linter.unusedVariables false
set_option maxRecDepth 20000
theorem hf_tag8 : ∀ (args : Array Value) (w : World), (callFunc 30 args).run Tryd.prog w = .ok (.enter 30 args) w := fun args w => by simp [go_sem]
theorem hf_same01 : ∀ (args : Array Value) (w : World), (callFunc 15 args).run Tryd.prog w = .ok (.enter 15 args) w := fun args w => by simp [go_sem]
theorem bytes_drop {w : World} {g o : Nat} {l : List UInt8} (h : Bytes w (some ⟨g, o, none⟩) l) (n : Nat) : Bytes w (some ⟨g, o + n, none⟩) (l.drop n) := fun i hi => by
  have h1 : n + i < l.length := by simp at hi; omega
  obtain ⟨b, q, e, hc⟩ := h (n + i) h1
  cases e
  refine ⟨g, o + n, rfl, ?_⟩
  rw [Nat.add_assoc, hc]
  simp
/-- a row of one's own, with all of its cells -/
theorem own_full {w : World} {B e : Nat} {v : Value} {l : List UInt8} (h : w.ownsRow B e 1 v l.length (cellsOf l)) (h0 : 0 < l.length) : ∃ g cap cur, v = .slice (some ⟨g, 0, none⟩) l.length cap ∧ B ≤ g ∧ w.heap[g]? = some (.cells cur e (0, 0)) ∧ l.length ≤ cap ∧ Bytes w (some ⟨g, 0, none⟩) l ∧ l.length ≤ cur.size := by
  have hB := bytes_of_own h
  rcases h.2 with ⟨_, hz⟩ | ⟨g, cap, cur, hv, hb, hg, hc, hm, hs, ht⟩
  · omega
  · obtain ⟨a', c', e', h1, h2⟩ := hB
    rw [hv] at e'
    cases e'
    exact ⟨g, cap, cur, hv, hb, hg, hc, h1, by omega⟩
theorem bytes_set {w : World} {g e : Nat} {cur : Array Value} {l : List UInt8} (hg : w.heap[g]? = some (.cells cur e (0, 0))) (hB : Bytes w (some ⟨g, 0, none⟩) l) (hl : l.length ≤ cur.size) (j : Nat) (hj : j < l.length) (z : UInt8) :
    Bytes (w.setCell ⟨g, j, none⟩ (.int .u8 (z.toNat : Int))) (some ⟨g, 0, none⟩) (l.set j z) := fun i hi => by
  have hi' : i < l.length := by simpa using hi
  refine ⟨g, 0, rfl, ?_⟩
  obtain ⟨b, q, e1, hc⟩ := hB i hi'
  cases e1
  rw [cell_of_row _ _ _ _ _ _ hg, Nat.zero_add] at hc
  rw [Nat.zero_add, cell_of_row _ _ _ _ _ _ (heap_setCell_same _ _ _ _ _ _ hg)]
  by_cases h : j = i
  · subst h
    rw [Array.getElem?_setIfInBounds_self_of_lt (by omega)]
    simp
  · rw [Array.getElem?_setIfInBounds_ne h, hc, List.getElem_set_ne h]
/-- an argument of two bytes -/
theorem open_two8 {H : Type} {enc : TypeId × Value → H} {W : World} {v : Value} {d : DataW H} {p : List MemPlace} {base0 : Nat} (hv : Value.okWide Tryd.prog W .any base0 49 v)
    (h : DataW.Trod enc Tryd.prog W 0 (fun _ => true) true 49 v d p) : ∃ x y : UInt8, v = .agg #[.int .u8 (x.toNat : Int), .int .u8 (y.toNat : Int)] := by
  simp only [Value.okWide, Tryd.underlying49] at hv
  obtain ⟨xs, rfl, hs, _⟩ := hv
  have hs2 : xs.size = 2 := hs.trans (by kernel_rfl)
  have c8 : Tryd.prog.cellsOf 5 = 1 := by kernel_rfl
  obtain ⟨fuel, hf⟩ := h
  cases fuel with
  | zero => simp [DataW.trod] at hf
  | succ m =>
    rw [DataW.trod_step] at hf
    unfold DataW.trodStep at hf
    simp only [Tryd.underlying49, Value.cells] at hf
    split at hf
    · simp only [Option.map_eq_some_iff] at hf
      obtain ⟨ys, hy, _⟩ := hf
      have hall := mapM_ints Tryd.underlying5 _ ys hy
      rw [c8] at hall
      have get : ∀ i (hi : i < 2), ∃ z : UInt8, xs[i]'(by omega) = .int .u8 (z.toNat : Int) := fun i hi => by
        obtain ⟨a, ea, wa⟩ := hall i (by simp; omega)
        have h3 : (xs.toList.drop (i * 1)).take 1 = [xs[i]'(by omega)] := by
          rw [Nat.mul_one, List.drop_eq_getElem_cons (by simpa using (by omega : i < xs.size))]
          simp
        rw [h3] at ea
        have ex : xs[i]'(by omega) = .int .u8 a := by simpa using ea
        have hr : 0 ≤ a ∧ a ≤ 255 := by simpa [Lit.wf, IntKind.min, IntKind.max, IntKind.signed, IntKind.bits] using wa
        refine ⟨UInt8.ofNat a.toNat, ?_⟩
        rw [ex]
        congr 1
        simp
        omega
      obtain ⟨x, ex⟩ := get 0 (by omega)
      obtain ⟨y, ey⟩ := get 1 (by omega)
      refine ⟨x, y, ?_⟩
      congr 1
      apply Array.ext
      · simp [hs2]
      · intro i h1 h2
        have : i = 0 ∨ i = 1 := by omega
        rcases this with rfl | rfl
        · simpa using ex
        · simpa using ey
    · cases hf

set_option maxHeartbeats 4000000 in
theorem sealTells_walk {w : World} {K : Array Value} {key : List UInt8} (hK : HV K key) (plain : List UInt8) (a : Option Addr) (cap : Nat) (hp : BytesIn w a cap plain) (x y : UInt8) (hT : KAt w) :
    Calls Tryd.prog 8 #[.agg K, .slice a plain.length cap, .agg #[.int .u8 (x.toNat : Int), .int .u8 (y.toNat : Int)]] w fun e w' => e = .returned (.bool true) ∧ Below w.heap.size w w' := by
  have HK := hid hK
  have HP := hid hp
  have HT := hid hT
  have hinf : (Tryd.prog.info? 26).map (·.size) = some K.size := hK.info
  obtain ⟨W0, hW0⟩ : ∃ W0, W0 = (w.alloc (.cells K 26)).alloc (.cells #[.int .u8 (x.toNat : Int), .int .u8 (y.toNat : Int)] 49) := ⟨_, rfl⟩
  have b0 : Hid (Below w.heap.size w W0) := by
    show Below _ _ _
    rw [hW0]; exact ((Below.refl _ w).alloc (Nat.le_refl _) _).alloc (by simp) _
  have k0 : Hid (W0.heap[w.heap.size]? = some (.cells K 26 (0, 0))) := by
    show _ = _
    rw [hW0]; exact heap_alloc2_old w _ _
  have p0 : W0.heap[w.heap.size + 1]? = some (.cells #[.int .u8 (x.toNat : Int), .int .u8 (y.toNat : Int)] 49 (0, 0)) := by
    rw [hW0]; exact heap_alloc2_new w _ _
  have s1 : W0.drew.cell? ⟨w.heap.size + 1, 0, none⟩ = some (.int .u8 (x.toNat : Int)) ∧ W0.drew.cell? ⟨w.heap.size + 1, 1, none⟩ = some (.int .u8 (y.toNat : Int)) :=
    ⟨by rw [cell_of_row _ _ _ _ _ _ (show W0.drew.heap[w.heap.size + 1]? = _ from p0)]; rfl, by rw [cell_of_row _ _ _ _ _ _ (show W0.drew.heap[w.heap.size + 1]? = _ from p0)]; rfl⟩
  obtain ⟨np, hnp⟩ : ∃ np, np = plain.length := ⟨_, rfl⟩
  have Hnp := hid hnp
  have HW0 := hid hW0.symm
  have hnpb : np ≤ 140737488351232 := by rw [hnp]; exact hp.length
  rw [← hnp]
  clear hK hp hT hW0 p0 hnp
  go_enter Tryd.func8, Tryd.ntmps8
  go_wp2_with fail
  rw [HW0.out]
  refine wp_region_held (S := fun w9 => w9.cell? ⟨w.heap.size + 1, 0, none⟩ = some (.int .u8 (x.toNat : Int)) ∧ w9.cell? ⟨w.heap.size + 1, 1, none⟩ = some (.int .u8 (y.toNat : Int))) (by kernel_rfl) ?_
  refine wpAnyH_take (i := 0) (v := .pointer (some ⟨w.heap.size + 1, 0, none⟩)) rfl (by kernel_rfl) (by kernel_rfl) (by kernel_rfl) (fun _ _ _ h => h) (Or.inl ⟨by rfl, fun w9 h9 => by go_simp⟩) s1 ?_
  show wpAnyH _ _ _ _ _ _ _ (Act.put _ (some 16) _) _
  simp only [Act.put, List.setIfInBounds_toArray, List.set_cons_zero, List.set_cons_succ]
  refine wpAnyH_take (i := 1) (v := .int .u8 (x.toNat : Int)) rfl (by kernel_rfl) (by kernel_rfl) (by kernel_rfl) (fun _ _ _ h => h) (y_load8 (by simp [Region.wanted]) (.tmp 16) rfl (w.heap.size + 1) 0 x rfl (fun _ h => h.1)) s1 ?_
  show wpAnyH _ _ _ _ _ _ _ (Act.put _ (some 17) _) _
  simp only [Act.put, List.setIfInBounds_toArray, List.set_cons_zero, List.set_cons_succ]
  refine wpAnyH_take (i := 2) (v := .pointer (some ⟨w.heap.size + 1, 1, none⟩)) rfl (by kernel_rfl) (by kernel_rfl) (by kernel_rfl) (fun _ _ _ h => h) (Or.inl ⟨by rfl, fun w9 h9 => by go_simp⟩) s1 ?_
  show wpAnyH _ _ _ _ _ _ _ (Act.put _ (some 18) _) _
  simp only [Act.put, List.setIfInBounds_toArray, List.set_cons_zero, List.set_cons_succ]
  refine wpAnyH_take (i := 3) (v := .int .u8 (y.toNat : Int)) rfl (by kernel_rfl) (by kernel_rfl) (by kernel_rfl) (fun _ _ _ h => h) (y_load8 (by simp [Region.wanted]) (.tmp 18) rfl (w.heap.size + 1) 1 y rfl (fun _ h => h.2)) s1 ?_
  show wpAnyH _ _ _ _ _ _ _ (Act.put _ (some 19) _) _
  simp only [Act.put, List.setIfInBounds_toArray, List.set_cons_zero, List.set_cons_succ]
  refine wpAnyH_take (i := 4) (v := .int .u8 (x.toNat : Int)) rfl (by kernel_rfl) (by kernel_rfl) (by kernel_rfl) (fun _ _ _ h => h) (Or.inl ⟨by rfl, fun w9 h9 => by go_simp⟩) s1 ?_
  show wpAnyH _ _ _ _ _ _ _ (Act.put _ (some 7) _) _
  simp only [Act.put, List.setIfInBounds_toArray, List.set_cons_zero, List.set_cons_succ]
  refine wpAnyH_take (i := 5) (v := .int .u8 (y.toNat : Int)) rfl (by kernel_rfl) (by kernel_rfl) (by kernel_rfl) (fun _ _ _ h => h) (Or.inl ⟨by rfl, fun w9 h9 => by go_simp⟩) s1 ?_
  show wpAnyH _ _ _ _ _ _ _ (Act.put _ (some 8) _) _
  simp only [Act.put, List.setIfInBounds_toArray, List.set_cons_zero, List.set_cons_succ]
  refine wpAnyH_done (by kernel_rfl) ?_ _
  obtain ⟨V, hV⟩ : ∃ V, V = W0.drew := ⟨_, rfl⟩
  have bV : Hid (Below w.heap.size w V) := by show Below _ _ _; rw [hV]; exact b0.out.drew
  have kV : Hid (V.heap[w.heap.size]? = some (.cells K 26 (0, 0))) := by show _ = _; rw [hV]; exact k0.out
  rw [show ({ W0 with drawn := W0.drawn + 1 } : World) = V from hV.symm]
  clear hV s1 b0 k0 HW0
  have qx : IntKind.i64.wrap (x.toNat : Int) = (x.toNat : Int) := by have := x.toNat_lt; rw [IntKind.wrap_i64]; omega
  by_cases hlong : 1024 < np
  · go_wp2_with (with_reducible show Go.wpList _ _ _ _ _ _; refine wpList_load_row rfl 26 _ rfl w.heap.size rfl _ _ _ _ kV.out Tryd.underlying26 rfl hinf ?_)
    refine (seal_long HK.out 5 np a cap hlong).mono ?_
    rintro _ W1 ⟨rfl, hb1⟩
    have b1 : Hid (Below w.heap.size w W1) := Below.on' bV.out hb1
    clear hb1
    go_wp2_with fail
    refine (live_any (HT.out.below b1.out)).mono ?_
    rintro _ W2 ⟨rfl, hb2⟩
    have b2 : Hid (Below w.heap.size w W2) := Below.on' b1.out hb2
    clear hb2
    go_wp2
    go_ret
    exact ⟨rfl, b2.out⟩
  · have hshort : plain.length ≤ 1024 := by have := Hnp.out; omega
    go_wp2_with (with_reducible show Go.wpList _ _ _ _ _ _; refine wpList_load_row rfl 26 _ rfl w.heap.size rfl _ _ _ _ kV.out Tryd.underlying26 rfl hinf ?_)
    refine (seal_any HK.out 5 plain a np cap Hnp.out (HP.out.bytes.below bV.out) hshort (HT.out.below bV.out)).mono ?_
    rintro _ W1 ⟨v1, rfl, ho1, hb1⟩
    have lS0 := sealB_len key 5 plain
    obtain ⟨S0, hS0⟩ : ∃ S0, S0 = sealB key 5 plain := ⟨_, rfl⟩
    rw [← hS0] at ho1 lS0
    obtain ⟨g1, c1, cur1, rfl, hg1, hr1, lc1, B1, _⟩ := own_full ho1 (by omega)
    obtain ⟨N, hN⟩ : ∃ N, N = S0.length := ⟨_, rfl⟩
    rw [← hN] at lc1 ⊢
    have hN24 : 24 ≤ N := by omega
    have hN48 : N ≤ 1048 := by omega
    have HB1 := hid B1
    have HN := hid hN
    have b1 : Hid (Below w.heap.size w W1) := Below.on' bV.out hb1
    have k1 : Hid (W1.heap[w.heap.size]? = some (.cells K 26 (0, 0))) := (hb1.block _ (heap_lt kV.out)).trans kV.out
    clear ho1 hb1 B1 hr1 hg1 kV bV hS0 lS0 hN
    have n24 : ¬ (N : Int) < 24 := by omega
    go_wp2_with fail
    refine (copy_any S0 (some ⟨g1, 0, none⟩) N c1 _ HN.out HB1.out (fun h => nomatch h) (by have := HN.out; omega)).mono ?_
    rintro _ W2 ⟨v2, rfl, ho2, hb2⟩
    obtain ⟨g2, c2, cur2, rfl, hg2, hr2, lc2, B2, lr2⟩ := own_full ho2 (by have := HN.out; omega)
    rw [← HN.out] at lc2 lr2 ⊢
    obtain ⟨j, hj⟩ : ∃ j, j = x.toNat % N := ⟨_, rfl⟩
    have hjN : j < N := by rw [hj]; exact Nat.mod_lt _ (by omega)
    have qj : (x.toNat : Int).tmod (N : Int) = (j : Int) := by rw [Int.tmod_eq_emod_of_nonneg (by omega), hj]; omega
    have hjS : j < S0.length := by have := HN.out; omega
    obtain ⟨bb, oo, eb, hcell⟩ := B2 j hjS
    cases eb
    rw [Nat.zero_add] at hcell
    have hfr : W2.frozen? ⟨g2, j, none⟩ = false := frozen_of_row _ _ j _ _ hr2
    obtain ⟨c, hcc⟩ : ∃ c, c = S0[j]'hjS := ⟨_, rfl⟩
    rw [← hcc] at hcell
    obtain ⟨z, hz⟩ : ∃ z, z = c ^^^ y := ⟨_, rfl⟩
    have qz : bits .xor .u8 (c.toNat : Int) (y.toNat : Int) = (z.toNat : Int) := by rw [hz]; exact b_xor c y
    have j0 : (0 : Int) ≤ (j : Int) := by omega
    have j1 : (j : Int) < (N : Int) := by omega
    have n0 : ¬ (N : Int) = 0 := by omega
    have b2 : Hid (Below w.heap.size w W2) := Below.on' b1.out hb2
    have k2 : Hid (W2.heap[w.heap.size]? = some (.cells K 26 (0, 0))) := (hb2.block _ (heap_lt k1.out)).trans k1.out
    obtain ⟨W3, hW3⟩ : ∃ W3, W3 = W2.setCell ⟨g2, j, none⟩ (.int .u8 (z.toNat : Int)) := ⟨_, rfl⟩
    have hwg : w.heap.size < g2 := Nat.lt_of_lt_of_le (heap_lt k1.out) hg2
    obtain ⟨SB, hSB⟩ : ∃ SB, SB = S0.set j z := ⟨_, rfl⟩
    have HB3 : Hid (Bytes W3 (some ⟨g2, 0, none⟩) SB) := by
      show Bytes _ _ _
      rw [hW3, hSB]; exact bytes_set hr2 B2 (by have := HN.out; omega) j hjS z
    have HSB : Hid (SB.length = N) := by show _ = _; rw [hSB, List.length_set]; exact HN.out.symm
    have b3 : Hid (Below w.heap.size w W3) := by show Below _ _ _; rw [hW3]; exact b2.out.setCell (p := ⟨g2, j, none⟩) (Nat.le_of_lt hwg) _
    have k3 : Hid (W3.heap[w.heap.size]? = some (.cells K 26 (0, 0))) := by show _ = _; rw [hW3]; exact (heap_setCell_other _ _ _ _ (show w.heap.size ≠ g2 by omega)).trans k2.out
    have HW3 := hid hW3
    obtain ⟨M, hM⟩ : ∃ M, N = M + 16 := ⟨N - 16, by omega⟩
    have qM : (N : Int) - 16 = (M : Int) := by omega
    have HM := hid hM
    have Hhj := hid (And.intro hj hjN)
    clear ho2 hb2 B2 hr2 b2 k2 hW3 hSB hz hcc hj lr2 HB1 b1 k1 hM hjN
    go_wp2_with (first
      | (rw [← HW3.out]; with_reducible show Go.wpList _ _ _ _ _ _; refine wpList_load_row rfl 26 _ rfl w.heap.size rfl _ _ _ _ k3.out Tryd.underlying26 rfl hinf ?_)
      | (with_reducible show Go.wpList _ _ _ _ _ _; refine wpList_load_row rfl 26 _ rfl w.heap.size rfl _ _ _ _ k3.out Tryd.underlying26 rfl hinf ?_))
    refine (open_any HK.out SB g2 0 N c2 HSB.out.symm HB3.out hN24 hN48 lc2 (HT.out.below b3.out)).mono ?_
    rintro eo W5 ⟨hright, hwrong, hb5⟩
    have b5 : Hid (Below w.heap.size w W5) := Below.on' b3.out hb5
    have k5 : Hid (W5.heap[w.heap.size]? = some (.cells K 26 (0, 0))) := (hb5.block _ (heap_lt k3.out)).trans k3.out
    have HB5 : Hid (Bytes W5 (some ⟨g2, 0, none⟩) SB) := HB3.out.below hb5
    rw [HSB.out, show N - 16 = M by have := HM.out; omega] at hright hwrong
    have hMlt : M < N := by have := HM.out; omega
    have hMc : M ≤ c2 := by omega
    clear qx qj hcell hfr qz j0 j1 n0 qM hb5 n24 b3 k3 HB3
    by_cases hD : SB.drop M = tagB key (SB.take M)
    · obtain ⟨v5, rfl, ho5⟩ := hright hD
      have HD := hid hD
      obtain ⟨a5, c5, rfl, _, _, _⟩ := bytes_ofH ho5
      clear hD hright hwrong ho5
      go_wp2_with fail
      have s5 : W5.drew.heap[w.heap.size]? = some (.cells K 26 (0, 0)) := k5.out
      refine wp_region_held (S := fun w9 => w9.heap[w.heap.size]? = some (.cells K 26 (0, 0))) (by kernel_rfl) ?_
      refine wpAnyH_take (i := 0) (v := .agg K) rfl (by kernel_rfl) (by kernel_rfl) (by kernel_rfl) (fun _ _ _ h => h) (y_loadK (by simp [Region.wanted]) (.tmp 3) rfl w.heap.size HK.out rfl (fun _ h => h)) s5 ?_
      show wpAnyH _ _ _ _ _ _ _ (Act.put _ (some 59) _) _
      simp only [Act.put, List.setIfInBounds_toArray, List.set_cons_zero, List.set_cons_succ]
      refine wpAnyH_take (i := 1) (v := .slice (some ⟨g2, 0, none⟩) N c2) rfl (by kernel_rfl) (by kernel_rfl) (by kernel_rfl) (fun _ _ _ h => h) (Or.inl ⟨by rfl, fun w9 h9 => by go_simp⟩) s5 ?_
      show wpAnyH _ _ _ _ _ _ _ (Act.put _ (some 60) _) _
      simp only [Act.put, List.setIfInBounds_toArray, List.set_cons_zero, List.set_cons_succ]
      refine wpAnyH_take (i := 2) (v := .int .i64 (M : Int)) rfl (by kernel_rfl) (by kernel_rfl) (by kernel_rfl) (fun _ _ _ h => h) (Or.inl ⟨by rfl, fun w9 h9 => by go_simp⟩) s5 ?_
      show wpAnyH _ _ _ _ _ _ _ (Act.put _ (some 61) _) _
      simp only [Act.put, List.setIfInBounds_toArray, List.set_cons_zero, List.set_cons_succ]
      refine wpAnyH_take (i := 3) (v := .slice (some ⟨g2, 0, none⟩) M c2) rfl (by kernel_rfl) (by kernel_rfl) (by kernel_rfl) (fun _ _ _ h => h) (y_upto (by simp [Region.wanted]) (.tmp 60) 61 rfl g2 0 N c2 M rfl rfl (by omega)) s5 ?_
      show wpAnyH _ _ _ _ _ _ _ (Act.put _ (some 62) _) _
      simp only [Act.put, List.setIfInBounds_toArray, List.set_cons_zero, List.set_cons_succ]
      refine wpAnyH_take (i := 5) (v := .slice (some ⟨g2, 0, none⟩) N c2) rfl (by kernel_rfl) (by kernel_rfl) (by kernel_rfl) (fun _ _ _ h => h) (Or.inl ⟨by rfl, fun w9 h9 => by go_simp⟩) s5 ?_
      show wpAnyH _ _ _ _ _ _ _ (Act.put _ (some 64) _) _
      simp only [Act.put, List.setIfInBounds_toArray, List.set_cons_zero, List.set_cons_succ]
      refine wpAnyH_take (i := 6) (v := .int .i64 (M : Int)) rfl (by kernel_rfl) (by kernel_rfl) (by kernel_rfl) (fun _ _ _ h => h) (Or.inl ⟨by rfl, fun w9 h9 => by go_simp⟩) s5 ?_
      show wpAnyH _ _ _ _ _ _ _ (Act.put _ (some 65) _) _
      simp only [Act.put, List.setIfInBounds_toArray, List.set_cons_zero, List.set_cons_succ]
      refine wpAnyH_take (i := 7) (v := .slice (some ⟨g2, 0 + M, none⟩) (N - M) (c2 - M)) rfl (by kernel_rfl) (by kernel_rfl) (by kernel_rfl) (fun _ _ _ h => h) (y_from (by simp [Region.wanted]) (.tmp 64) 65 rfl g2 0 N c2 M rfl rfl (by omega) (by omega)) s5 ?_
      show wpAnyH _ _ _ _ _ _ _ (Act.put _ (some 66) _) _
      simp only [Act.put, List.setIfInBounds_toArray, List.set_cons_zero, List.set_cons_succ]
      refine wpAnyH_all (rs := [4]) (by kernel_rfl) (by simp) fun i hmem => ?_
      obtain rfl : i = 4 := by simpa using hmem
      refine wpOp_own rfl rfl fun K' hK' => ?_
      refine wp_calls2 30 hf_tag8 _ _ _ rfl (.agg K) (.slice (some ⟨g2, 0, none⟩) M c2) rfl rfl ?_
      refine (refTag8_any HK.out (SB.take M) (some ⟨g2, 0, none⟩) M c2 (by rw [List.length_take]; have := HSB.out; omega) (bytes_take (HB5.out.below ((Below.refl _ _).drew)) M) (fun h => nomatch h) (by rw [List.length_take]; have := HSB.out; omega)).mono ?_
      rintro _ W6 ⟨g6, c6, rfl, lc6, hg6, B6, hb6⟩
      have b6 : Below W5.heap.size W5 W6 := ((Below.refl _ W5).drew).trans hb6
      have s6 := (hb6.block _ (heap_lt s5)).trans s5
      refine ⟨_, rfl, hK' _ _ ⟨s6, ?_⟩⟩
      clear hK' K' hmem
      show wpAnyH _ _ _ _ _ _ _ (Act.put _ (some 63) _) _
      simp only [Act.put, List.setIfInBounds_toArray, List.set_cons_zero, List.set_cons_succ]
      refine wpAnyH_all (rs := [8]) (by kernel_rfl) (by simp) fun i hmem => ?_
      obtain rfl : i = 8 := by simpa using hmem
      refine wpOp_own rfl rfl fun K' hK' => ?_
      refine wp_calls2 15 hf_same01 _ _ _ rfl (.slice (some ⟨g6, 0, none⟩) 16 c6) (.slice (some ⟨g2, 0 + M, none⟩) (N - M) (c2 - M)) rfl rfl ?_
      have hsame := sameBytes_any (tagB key (SB.take M)) (SB.drop M) (some ⟨g6, 0, none⟩) (some ⟨g2, 0 + M, none⟩) c6 (c2 - M) W6 B6 (bytes_drop (HB5.out.below b6) M) (by rw [tagB_len]; omega) (by rw [List.length_drop]; have := HSB.out; omega)
      rw [tagB_len, List.length_drop, show SB.length = N from HSB.out] at hsame
      refine hsame.mono ?_
      rintro _ W7 ⟨rfl, hb7⟩
      have s7 := (hb7.block _ (heap_lt s6)).trans s6
      have b7 : Below w.heap.size w W7 := Below.on' (Below.on' b5.out b6) hb7
      refine ⟨_, rfl, hK' _ _ ⟨s7, ?_⟩⟩
      clear hK' K' hmem
      show wpAnyH _ _ _ _ _ _ _ (Act.put _ (some 67) _) _
      simp only [Act.put, List.setIfInBounds_toArray, List.set_cons_zero, List.set_cons_succ]
      rw [show decide (tagB key (SB.take M) = SB.drop M) = true from decide_eq_true HD.out.symm]
      refine wpAnyH_done (by kernel_rfl) ?_ _
      have B7 := hid b7
      clear b7 b6 s7 s6 s5 hb7 hb6 hsame B6
      go_wp2_with fail
      refine (live_any (HT.out.below B7.out)).mono ?_
      rintro _ W8 ⟨rfl, hb8⟩
      have b8 : Hid (Below w.heap.size w W8) := Below.on' B7.out hb8
      clear hb8
      go_wp2
      go_ret
      exact ⟨rfl, b8.out⟩
    · rw [hwrong hD]
      have HD := hid hD
      clear hD hright hwrong
      go_wp2_with fail
      have s5 : W5.drew.heap[w.heap.size]? = some (.cells K 26 (0, 0)) := k5.out
      refine wp_region_held (S := fun w9 => w9.heap[w.heap.size]? = some (.cells K 26 (0, 0))) (by kernel_rfl) ?_
      refine wpAnyH_take (i := 0) (v := .agg K) rfl (by kernel_rfl) (by kernel_rfl) (by kernel_rfl) (fun _ _ _ h => h) (y_loadK (by simp [Region.wanted]) (.tmp 3) rfl w.heap.size HK.out rfl (fun _ h => h)) s5 ?_
      show wpAnyH _ _ _ _ _ _ _ (Act.put _ (some 59) _) _
      simp only [Act.put, List.setIfInBounds_toArray, List.set_cons_zero, List.set_cons_succ]
      refine wpAnyH_take (i := 1) (v := .slice (some ⟨g2, 0, none⟩) N c2) rfl (by kernel_rfl) (by kernel_rfl) (by kernel_rfl) (fun _ _ _ h => h) (Or.inl ⟨by rfl, fun w9 h9 => by go_simp⟩) s5 ?_
      show wpAnyH _ _ _ _ _ _ _ (Act.put _ (some 60) _) _
      simp only [Act.put, List.setIfInBounds_toArray, List.set_cons_zero, List.set_cons_succ]
      refine wpAnyH_take (i := 2) (v := .int .i64 (M : Int)) rfl (by kernel_rfl) (by kernel_rfl) (by kernel_rfl) (fun _ _ _ h => h) (Or.inl ⟨by rfl, fun w9 h9 => by go_simp⟩) s5 ?_
      show wpAnyH _ _ _ _ _ _ _ (Act.put _ (some 61) _) _
      simp only [Act.put, List.setIfInBounds_toArray, List.set_cons_zero, List.set_cons_succ]
      refine wpAnyH_take (i := 3) (v := .slice (some ⟨g2, 0, none⟩) M c2) rfl (by kernel_rfl) (by kernel_rfl) (by kernel_rfl) (fun _ _ _ h => h) (y_upto (by simp [Region.wanted]) (.tmp 60) 61 rfl g2 0 N c2 M rfl rfl (by omega)) s5 ?_
      show wpAnyH _ _ _ _ _ _ _ (Act.put _ (some 62) _) _
      simp only [Act.put, List.setIfInBounds_toArray, List.set_cons_zero, List.set_cons_succ]
      refine wpAnyH_take (i := 5) (v := .slice (some ⟨g2, 0, none⟩) N c2) rfl (by kernel_rfl) (by kernel_rfl) (by kernel_rfl) (fun _ _ _ h => h) (Or.inl ⟨by rfl, fun w9 h9 => by go_simp⟩) s5 ?_
      show wpAnyH _ _ _ _ _ _ _ (Act.put _ (some 64) _) _
      simp only [Act.put, List.setIfInBounds_toArray, List.set_cons_zero, List.set_cons_succ]
      refine wpAnyH_take (i := 6) (v := .int .i64 (M : Int)) rfl (by kernel_rfl) (by kernel_rfl) (by kernel_rfl) (fun _ _ _ h => h) (Or.inl ⟨by rfl, fun w9 h9 => by go_simp⟩) s5 ?_
      show wpAnyH _ _ _ _ _ _ _ (Act.put _ (some 65) _) _
      simp only [Act.put, List.setIfInBounds_toArray, List.set_cons_zero, List.set_cons_succ]
      refine wpAnyH_take (i := 7) (v := .slice (some ⟨g2, 0 + M, none⟩) (N - M) (c2 - M)) rfl (by kernel_rfl) (by kernel_rfl) (by kernel_rfl) (fun _ _ _ h => h) (y_from (by simp [Region.wanted]) (.tmp 64) 65 rfl g2 0 N c2 M rfl rfl (by omega) (by omega)) s5 ?_
      show wpAnyH _ _ _ _ _ _ _ (Act.put _ (some 66) _) _
      simp only [Act.put, List.setIfInBounds_toArray, List.set_cons_zero, List.set_cons_succ]
      refine wpAnyH_all (rs := [4]) (by kernel_rfl) (by simp) fun i hmem => ?_
      obtain rfl : i = 4 := by simpa using hmem
      refine wpOp_own rfl rfl fun K' hK' => ?_
      refine wp_calls2 30 hf_tag8 _ _ _ rfl (.agg K) (.slice (some ⟨g2, 0, none⟩) M c2) rfl rfl ?_
      refine (refTag8_any HK.out (SB.take M) (some ⟨g2, 0, none⟩) M c2 (by rw [List.length_take]; have := HSB.out; omega) (bytes_take (HB5.out.below ((Below.refl _ _).drew)) M) (fun h => nomatch h) (by rw [List.length_take]; have := HSB.out; omega)).mono ?_
      rintro _ W6 ⟨g6, c6, rfl, lc6, hg6, B6, hb6⟩
      have b6 : Below W5.heap.size W5 W6 := ((Below.refl _ W5).drew).trans hb6
      have s6 := (hb6.block _ (heap_lt s5)).trans s5
      refine ⟨_, rfl, hK' _ _ ⟨s6, ?_⟩⟩
      clear hK' K' hmem
      show wpAnyH _ _ _ _ _ _ _ (Act.put _ (some 63) _) _
      simp only [Act.put, List.setIfInBounds_toArray, List.set_cons_zero, List.set_cons_succ]
      refine wpAnyH_all (rs := [8]) (by kernel_rfl) (by simp) fun i hmem => ?_
      obtain rfl : i = 8 := by simpa using hmem
      refine wpOp_own rfl rfl fun K' hK' => ?_
      refine wp_calls2 15 hf_same01 _ _ _ rfl (.slice (some ⟨g6, 0, none⟩) 16 c6) (.slice (some ⟨g2, 0 + M, none⟩) (N - M) (c2 - M)) rfl rfl ?_
      have hsame := sameBytes_any (tagB key (SB.take M)) (SB.drop M) (some ⟨g6, 0, none⟩) (some ⟨g2, 0 + M, none⟩) c6 (c2 - M) W6 B6 (bytes_drop (HB5.out.below b6) M) (by rw [tagB_len]; omega) (by rw [List.length_drop]; have := HSB.out; omega)
      rw [tagB_len, List.length_drop, show SB.length = N from HSB.out] at hsame
      refine hsame.mono ?_
      rintro _ W7 ⟨rfl, hb7⟩
      have s7 := (hb7.block _ (heap_lt s6)).trans s6
      have b7 : Below w.heap.size w W7 := Below.on' (Below.on' b5.out b6) hb7
      refine ⟨_, rfl, hK' _ _ ⟨s7, ?_⟩⟩
      clear hK' K' hmem
      show wpAnyH _ _ _ _ _ _ _ (Act.put _ (some 67) _) _
      simp only [Act.put, List.setIfInBounds_toArray, List.set_cons_zero, List.set_cons_succ]
      rw [show decide (tagB key (SB.take M) = SB.drop M) = false from decide_eq_false (fun h => HD.out h.symm)]
      refine wpAnyH_done (by kernel_rfl) ?_ _
      have B7 := hid b7
      clear b7 b6 s7 s6 s5 hb7 hb6 hsame B6
      go_wp2_with fail
      refine (live_any (HT.out.below B7.out)).mono ?_
      rintro _ W8 ⟨rfl, hb8⟩
      have b8 : Hid (Below w.heap.size w W8) := Below.on' B7.out hb8
      clear hb8
      go_wp2
      go_ret
      exact ⟨rfl, b8.out⟩
end Go.Proofs.YtfiaefagnkmpoaaDoor
