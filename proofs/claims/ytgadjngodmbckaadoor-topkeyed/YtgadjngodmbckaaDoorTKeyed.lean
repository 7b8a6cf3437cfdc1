/- TopKeyed, walked. -/
import Derived.Test.YtgadjngodmbckaaDoorEBack
import Derived.Test.YtgadjngodmbckaaDoorHDerive
import Derived.Test.YtgadjngodmbckaaDoorHHex
import Derived.BigQuiet
namespace Go.Proofs.YtgadjngodmbckaaDoor
open Go.RowKit Go.Shelf
set_option linter.unusedVariables false
set_option maxRecDepth 100000

/-- what a walk is told of a row of texts -/
structure TextsIn (w : World) (a : Option Addr) (cap : Nat) (l : List ByteArray) : Prop where
  texts : Texts w a l
  cap : l.length ≤ cap
  length : l.length ≤ 140737488351232
  sizes : ∀ s ∈ l, s.size ≤ 140737488351232
theorem conv_all (w : World) (a : Option Addr) (cap : Nat) (l : List UInt8) (h : Bytes w a l) :
    (convert 25 9 (.slice a l.length cap)).run Tryd.prog w = .ok (.string ⟨l.toArray⟩) w := by
  by_cases h0 : 0 < l.length
  · obtain ⟨b, o, rfl, _⟩ := h 0 h0
    refine run_convert_bytes_back (P := Tryd.prog) w 25 9 5 ⟨b, o, none⟩ cap l Tryd.underlying25 Tryd.underlying5 Tryd.underlying9 (fun j hj => ?_)
    obtain ⟨b', o', e, hc⟩ := h j hj
    cases e
    rw [addr_add]
    exact hc
  · have : l = [] := List.length_eq_zero_iff.1 (by omega)
    subst this
    cases a with
    | none =>
      rw [run_convert_bytes_string w 25 9 5 none _ cap Tryd.underlying25 Tryd.underlying5 Tryd.underlying9]
      rfl
    | some x =>
      exact run_convert_bytes_back (P := Tryd.prog) w 25 9 5 x cap [] Tryd.underlying25 Tryd.underlying5 Tryd.underlying9 (fun j hj => by simp at hj)
set_option maxHeartbeats 400000 in
theorem topSame_any (x y : List UInt8) (a b : Option Addr) (n m ca cb : Nat) (hn : n = x.length) (hm : m = y.length) (w : World) (hx : Bytes w a x) (hy : Bytes w b y) :
    Calls Tryd.prog 19 #[.slice a n ca, .slice b m cb] w fun e w' => e = .returned (.bool (decide (x = y))) ∧ w' = w := by
  subst hn
  subst hm
  have h1 := conv_all w a ca x hx
  have h2 := conv_all w b cb y hy
  have q : ((⟨x.toArray⟩ : ByteArray).toList == (⟨y.toArray⟩ : ByteArray).toList) = decide (x = y) := by
    rw [Lib.toList_data, Lib.toList_data, List.toList_toArray, List.toList_toArray]
    by_cases h : x = y
    · simp [h]
    · simp [h]
  clear hx hy
  generalize hs : (⟨x.toArray⟩ : ByteArray) = s at *
  generalize ht : (⟨y.toArray⟩ : ByteArray) = t at *
  generalize decide (x = y) = d at *
  clear hs ht
  go_enter Tryd.func19, Tryd.ntmps19
  go_wp2
  go_ret
  exact ⟨ret_bool (by first | rfl | exact q), rfl⟩
theorem topSame_true (x : List UInt8) (a b : Option Addr) (n m ca cb : Nat) (hn : n = x.length) (hm : m = x.length) (w : World) (hx : Bytes w a x) (hy : Bytes w b x) :
    Calls Tryd.prog 19 #[.slice a n ca, .slice b m cb] w fun e w' => e = .returned (.bool true) ∧ w' = w := by
  have h := topSame_any x x a b n m ca cb hn hm w hx hy
  rw [decide_eq_true (rfl : x = x)] at h
  exact h
theorem hex_none2 : hexOf (sha []) = [101, 51, 98, 48, 99, 52, 52, 50, 57, 56, 102, 99, 49, 99, 49, 52, 57, 97, 102, 98, 102, 52, 99, 56, 57, 57, 54, 102, 98, 57, 50, 52, 50, 55, 97, 101, 52, 49, 101, 52, 54, 52, 57, 98, 57, 51, 52, 99, 97, 52, 57, 53, 57, 57, 49, 98, 55, 56, 53, 50, 98, 56, 53, 53] := by decide +kernel

set_option maxHeartbeats 4000000 in
theorem topKeyed_walk {w : World} {K : Array Value} {root : List UInt8} (hK : HV K root) (la : Option Addr) (L : List ByteArray) (lc : Nat) (oa : Option Addr) (M : List ByteArray) (oc : Nat) (pa : Option Addr) (P : List UInt8) (pc : Nat) (hL : TextsIn w la lc L) (hM : TextsIn w oa oc M) (hP : BytesIn w pa pc P) (hT : KAt w) :
    Calls Tryd.prog 7 #[.agg K, .agg #[.slice la L.length lc, .slice oa M.length oc, .slice pa P.length pc]] w fun e w' => e = .returned (.bool true) ∧ Below w.heap.size w w' := by
  obtain ⟨Z, hZ⟩ : ∃ Z, Z = bvs (List.replicate 32 0) := ⟨_, rfl⟩
  have zh := (zero_of_info zero_hash).1
  rw [← hZ] at zh
  have hz : Hid (HV Z (List.replicate 32 0)) := by
    show HV _ _
    rw [hZ]; exact hv_zero
  have zh := hid zh
  have HK := hid hK
  have HL := hid hL
  have HM := hid hM
  have HP := hid hP
  have HT := hid hT
  have hinf : (Tryd.prog.info? 23).map (·.size) = some K.size := hK.info
  obtain ⟨nl, hnl⟩ : ∃ n, n = L.length := ⟨_, rfl⟩
  obtain ⟨nm, hnm⟩ : ∃ n, n = M.length := ⟨_, rfl⟩
  obtain ⟨np, hnp⟩ : ∃ n, n = P.length := ⟨_, rfl⟩
  have lp := hP.length
  rw [← hnp] at lp
  rw [← hnl, ← hnm, ← hnp]
  have Hnl := hid hnl
  have Hnm := hid hnm
  have Hnp := hid hnp
  obtain ⟨V0, hV0⟩ : ∃ V0, V0 = (w.alloc (.cells K 23)).alloc (.cells #[.slice la nl lc, .slice oa nm oc, .slice pa np pc] 45) := ⟨_, rfl⟩
  have b0 : Hid (Below w.heap.size w V0) := by
    show Below _ _ _
    rw [hV0]; exact ((Below.refl _ w).alloc (Nat.le_refl _) _).alloc (by simp) _
  have k0 : Hid (V0.heap[w.heap.size]? = some (.cells K 23 (0, 0))) := by
    show _ = _
    rw [hV0]; exact heap_alloc2_old w _ _
  have r0 : Hid (V0.heap[w.heap.size + 1]? = some (.cells #[.slice la nl lc, .slice oa nm oc, .slice pa np pc] 45 (0, 0))) := by
    show _ = _
    rw [hV0]; exact heap_alloc2_new w _ _
  have k0e : Hid (((w.alloc (.cells K 23)).alloc (.cells #[.slice la nl lc, .slice oa nm oc, .slice pa np pc] 45)).heap[w.heap.size]? = some (.cells K 23 (0, 0))) := heap_alloc2_old w _ _
  have HV0 := hid hV0.symm
  clear hK hL hM hP hT hZ hnl hnm hnp hV0
  go_enter Tryd.func7, Tryd.ntmps7
  go_wp2_with (with_reducible show Go.wpList _ _ _ _ _ _; refine wpList_load_row rfl 23 (.tmp 2) rfl w.heap.size rfl 23 K (0, 0) _ k0e.out Tryd.underlying23 rfl HK.out.info ?_)
  rw [HV0.out]
  refine (derive_any HK.out L la nl lc Hnl.out (HL.out.texts.below b0.out) HL.out.sizes HL.out.length (HT.out.below b0.out)).mono ?_
  rintro _ W1 ⟨O1, rfl, hO1, hb1⟩
  have HO1 := hid hO1
  have b1 : Hid (Below w.heap.size w (W1.alloc (.cells O1 23))) := (Below.on' b0.out hb1).alloc (Below.on' b0.out hb1).size _
  have k1 : Hid ((W1.alloc (.cells O1 23)).heap[w.heap.size]? = some (.cells K 23 (0, 0))) := (Below.heap_alloc _ _ _ (by have := hb1.size; have := heap_lt k0.out; omega)).trans ((hb1.block _ (heap_lt k0.out)).trans k0.out)
  have r1 : Hid ((W1.alloc (.cells O1 23)).heap[w.heap.size + 1]? = some (.cells #[.slice la nl lc, .slice oa nm oc, .slice pa np pc] 45 (0, 0))) := (Below.heap_alloc _ _ _ (by have := hb1.size; have := heap_lt r0.out; omega)).trans ((hb1.block _ (heap_lt r0.out)).trans r0.out)
  have d1 : (W1.alloc (.cells O1 23)).cell? ⟨w.heap.size + 1, 1, none⟩ = some (.slice oa nm oc) := by rw [cell_of_row _ _ _ _ _ _ r1.out]; rfl
  have s1 := hid (Nat.lt_of_lt_of_le (heap_lt r0.out) hb1.size)
  clear hO1 hb1 b0 k0 r0 k0e HV0
  go_wp2_with (with_reducible show Go.wpList _ _ _ _ _ _; first
    | refine wpList_alloc_row rfl 23 rfl Z zh.out ?_
    | (refine wpList_store_row rfl 23 (.tmp 5) (.tmp 26) rfl W1.heap.size O1 rfl rfl 23 Z (heap_alloc_new W1 _) HO1.out.info (hz.out.size.trans HO1.out.size.symm) HO1.out.one ?_; rw [World.setRow_alloc_new])
    | refine wpList_load_row rfl 23 (.tmp 2) rfl w.heap.size rfl 23 K (0, 0) _ k1.out Tryd.underlying23 rfl HK.out.info ?_)
  refine (derive_any HK.out M oa nm oc Hnm.out (HM.out.texts.below b1.out) HM.out.sizes HM.out.length (HT.out.below b1.out)).mono ?_
  rintro _ W2 ⟨O2, rfl, hO2, hb2⟩
  have HO2 := hid hO2
  have o1 : Hid (W2.heap[W1.heap.size]? = some (.cells O1 23 (0, 0))) := (hb2.block _ (by simp)).trans (heap_alloc_new W1 _)
  have k2' := (hb2.block _ (heap_lt k1.out)).trans k1.out
  have r2' := (hb2.block _ (heap_lt r1.out)).trans r1.out
  have bb := Below.on' b1.out hb2
  obtain ⟨V2, hV2⟩ : ∃ V2, V2 = W2.alloc (.cells O2 23) := ⟨_, rfl⟩
  have b2 : Hid (Below w.heap.size w V2) := by
    show Below _ _ _
    rw [hV2]; exact bb.alloc bb.size _
  have k2 : Hid (V2.heap[w.heap.size]? = some (.cells K 23 (0, 0))) := by
    show _ = _
    rw [hV2]; exact (Below.heap_alloc _ _ _ (heap_lt k2')).trans k2'
  have r2 : Hid (V2.heap[w.heap.size + 1]? = some (.cells #[.slice la nl lc, .slice oa nm oc, .slice pa np pc] 45 (0, 0))) := by
    show _ = _
    rw [hV2]; exact (Below.heap_alloc _ _ _ (heap_lt r2')).trans r2'
  have p1 : Hid (V2.heap[W1.heap.size]? = some (.cells O1 23 (0, 0))) := by
    show _ = _
    rw [hV2]; exact (Below.heap_alloc _ _ _ (heap_lt o1.out)).trans o1.out
  have p2 : Hid (V2.heap[W2.heap.size]? = some (.cells O2 23 (0, 0))) := by
    show _ = _
    rw [hV2]; exact heap_alloc_new W2 _
  have HV2 := hid hV2.symm
  clear hO2 hb2 b1 k1 r1 d1 o1 k2' r2' bb hV2 s1
  by_cases heL : keyErr L = 0
  · by_cases heM : keyErr M = 0
    · rw [heL, heM]
      have d2 : V2.cell? ⟨w.heap.size + 1, 2, none⟩ = some (.slice pa np pc) := by rw [cell_of_row _ _ _ _ _ _ r2.out]; rfl
      have HeL := hid heL
      clear heL heM
      obtain ⟨key1, hkey1⟩ : ∃ k, k = derRes root L := ⟨_, rfl⟩
      obtain ⟨key2, hkey2⟩ : ∃ k, k = derRes root M := ⟨_, rfl⟩
      rw [← hkey1] at HO1
      rw [← hkey2] at HO2
      have Hkey1 := hid hkey1
      clear hkey1 hkey2
      by_cases hlong : 1024 < np
      · have q0 : (1024 : Int) < (np : Int) := by omega
        go_wp2_with (with_reducible show Go.wpList _ _ _ _ _ _; first
          | refine wpList_alloc_row rfl 23 rfl Z zh.out ?_
          | (refine wpList_store_row rfl 23 (.tmp 7) (.tmp 33) rfl W2.heap.size O2 rfl rfl 23 Z (heap_alloc_new W2 _) HO2.out.info (hz.out.size.trans HO2.out.size.symm) HO2.out.one ?_; rw [World.setRow_alloc_new]; rw [HV2.out])
          | refine wpList_load_row rfl 23 (.tmp 5) rfl W1.heap.size rfl 23 O1 (0, 0) _ p1.out Tryd.underlying23 rfl HO1.out.info ?_)
        refine (seal_long HO1.out 3 np pa pc hlong).mono ?_
        rintro _ W3 ⟨rfl, hb3⟩
        have b3 : Hid (Below w.heap.size w W3) := Below.on' b2.out hb3
        have r3 := (hb3.block _ (heap_lt r2.out)).trans r2.out
        have d3 : W3.cell? ⟨w.heap.size + 1, 2, none⟩ = some (.slice pa np pc) := by rw [cell_of_row _ _ _ _ _ _ r3]; rfl
        clear hb3 r3 d2
        go_wp2
        go_ret
        exact ⟨ret_bool (by simp), b3.out⟩
      · have q0 : ¬ (1024 : Int) < (np : Int) := by omega
        have q1 : ¬ ((np + 24 : Nat) : Int) < 24 := by omega
        have q2 : ¬ (np : Int) + 24 < 24 := by omega
        go_wp2_with (with_reducible show Go.wpList _ _ _ _ _ _; first
          | refine wpList_alloc_row rfl 23 rfl Z zh.out ?_
          | (refine wpList_store_row rfl 23 (.tmp 7) (.tmp 33) rfl W2.heap.size O2 rfl rfl 23 Z (heap_alloc_new W2 _) HO2.out.info (hz.out.size.trans HO2.out.size.symm) HO2.out.one ?_; rw [World.setRow_alloc_new]; rw [HV2.out])
          | refine wpList_load_row rfl 23 (.tmp 5) rfl W1.heap.size rfl 23 O1 (0, 0) _ p1.out Tryd.underlying23 rfl HO1.out.info ?_)
        refine (seal_any HO1.out 3 P pa np pc Hnp.out (HP.out.bytes.below b2.out) (by have := Hnp.out; omega) (HT.out.below b2.out)).mono ?_
        rintro _ W3 ⟨v3, rfl, hown3, hb3⟩
        have ls : (sealB key1 3 P).length = np + 24 := by rw [sealB_len, Hnp.out]
        have lh : (headB key1 3 P).length = np + 8 := by rw [headB_len, Hnp.out]; omega
        obtain ⟨g, c1, rfl, hB1, hc1, _⟩ := own_some hown3 (by omega)
        rw [ls] at hc1 ⊢
        have HB3 := hid hB1
        have b3 : Hid (Below w.heap.size w W3) := Below.on' b2.out hb3
        have k3 : Hid (W3.heap[w.heap.size]? = some (.cells K 23 (0, 0))) := (hb3.block _ (heap_lt k2.out)).trans k2.out
        have r3 : Hid (W3.heap[w.heap.size + 1]? = some (.cells #[.slice la nl lc, .slice oa nm oc, .slice pa np pc] 45 (0, 0))) := (hb3.block _ (heap_lt r2.out)).trans r2.out
        have j3 : Hid (W3.heap[W2.heap.size]? = some (.cells O2 23 (0, 0))) := (hb3.block _ (heap_lt p2.out)).trans p2.out
        have d3 : W3.cell? ⟨w.heap.size + 1, 0, none⟩ = some (.slice la nl lc) := by rw [cell_of_row _ _ _ _ _ _ r3.out]; rfl
        clear hown3 hb3 b2 k2 r2 p1 p2 d2 hB1
        go_wp2_with (with_reducible show Go.wpList _ _ _ _ _ _; refine wpList_load_row rfl 23 (.tmp 2) rfl w.heap.size rfl 23 K (0, 0) _ k3.out Tryd.underlying23 rfl HK.out.info ?_)
        refine (derive_any HK.out L la nl lc Hnl.out (HL.out.texts.below b3.out) HL.out.sizes HL.out.length (HT.out.below b3.out)).mono ?_
        rintro _ W4 ⟨O3, rfl, hO3, hb4⟩
        rw [HeL.out]
        have HO3 : Hid (HV O3 key1) := by rw [Hkey1.out]; exact hO3
        have b4' := Below.on' b3.out hb4
        have b4 : Hid (Below w.heap.size w (W4.alloc (.cells O3 23))) := b4'.alloc b4'.size _
        have bl4 : Below W3.heap.size W3 (W4.alloc (.cells O3 23)) := hb4.alloc hb4.size _
        have r4 : Hid ((W4.alloc (.cells O3 23)).heap[w.heap.size + 1]? = some (.cells #[.slice la nl lc, .slice oa nm oc, .slice pa np pc] 45 (0, 0))) := (bl4.block _ (heap_lt r3.out)).trans r3.out
        have j4 : Hid ((W4.alloc (.cells O3 23)).heap[W2.heap.size]? = some (.cells O2 23 (0, 0))) := (bl4.block _ (heap_lt j3.out)).trans j3.out
        have HB4 : Hid (Bytes (W4.alloc (.cells O3 23)) (some ⟨g, 0, none⟩) (sealB key1 3 P)) := HB3.out.below bl4
        have x4 : Hid ((W4.alloc (.cells O3 23)).heap[W4.heap.size]? = some (.cells O3 23 (0, 0))) := heap_alloc_new W4 _
        clear hO3 hb4 b4' bl4 b3 k3 r3 j3 HB3 d3
        go_wp2_with (with_reducible show Go.wpList _ _ _ _ _ _; first
          | refine wpList_alloc_row rfl 23 rfl Z zh.out ?_
          | (refine wpList_store_row rfl 23 (.tmp 11) (.tmp 66) rfl W4.heap.size O3 rfl rfl 23 Z (heap_alloc_new W4 _) HO3.out.info (hz.out.size.trans HO3.out.size.symm) HO3.out.one ?_; rw [World.setRow_alloc_new])
          | refine wpList_load_row rfl 23 (.tmp 11) rfl W4.heap.size rfl 23 O3 (0, 0) _ x4.out Tryd.underlying23 rfl HO3.out.info ?_)
        refine (open_sealed HO3.out 3 (by omega) P (by have := Hnp.out; omega) g (np + 24) c1 (by rw [Hnp.out]) HB4.out hc1 (HT.out.below b4.out)).mono ?_
        rintro _ W5 ⟨v13, rfl, hown13, hb5⟩
        obtain ⟨a13, c13, rfl, hB13, hc13⟩ := bytes_of_own hown13
        rw [← Hnp.out]
        have b5 : Hid (Below w.heap.size w W5) := Below.on' b4.out hb5
        have r5 : Hid (W5.heap[w.heap.size + 1]? = some (.cells #[.slice la nl lc, .slice oa nm oc, .slice pa np pc] 45 (0, 0))) := (hb5.block _ (heap_lt r4.out)).trans r4.out
        have j5 : Hid (W5.heap[W2.heap.size]? = some (.cells O2 23 (0, 0))) := (hb5.block _ (heap_lt j4.out)).trans j4.out
        have HB5 : Hid (Bytes W5 (some ⟨g, 0, none⟩) (sealB key1 3 P)) := HB4.out.below hb5
        have HP5 := hid hB13
        clear hown13 hb5 b4 r4 j4 HB4 x4 hB13
        go_wp2_with (with_reducible show Go.wpList _ _ _ _ _ _; refine wpList_load_row rfl 23 (.tmp 7) rfl W2.heap.size rfl 23 O2 (0, 0) _ j5.out Tryd.underlying23 rfl HO2.out.info ?_)
        refine (open_any HO2.out (sealB key1 3 P) g 0 (np + 24) c1 ls.symm HB5.out (by omega) (by omega) hc1 (HT.out.below b5.out)).mono ?_
        intro e6 W6 hop
        obtain ⟨T1, hT1⟩ : ∃ T, T = tagB key1 (headB key1 3 P) := ⟨_, rfl⟩
        obtain ⟨T2, hT2⟩ : ∃ T, T = tagB key2 (headB key1 3 P) := ⟨_, rfl⟩
        obtain ⟨v16, n17, er, hE, her⟩ : ∃ (v16 n17 : Value) (er : Int), e6 = .returned (.tuple #[v16, n17, .int .i64 er]) ∧ (decide (er = 0) = decide (T2 = T1)) := by
          have hr := hop.right
          have hw := hop.wrong
          rw [seal_take, seal_drop, ← hT1, ← hT2] at hr hw
          by_cases h : T1 = T2
          · obtain ⟨v, hv, _⟩ := hr h
            exact ⟨v, _, 0, hv, by simp [h]⟩
          · exact ⟨_, _, 10, hw h, by simp [Ne.symm h, eq_comm]⟩
        subst hE
        have hb6 := hop.below
        have b6 : Hid (Below w.heap.size w W6) := Below.on' b5.out hb6
        have r6 : Hid (W6.heap[w.heap.size + 1]? = some (.cells #[.slice la nl lc, .slice oa nm oc, .slice pa np pc] 45 (0, 0))) := (hb6.block _ (heap_lt r5.out)).trans r5.out
        have j6 : Hid (W6.heap[W2.heap.size]? = some (.cells O2 23 (0, 0))) := (hb6.block _ (heap_lt j5.out)).trans j5.out
        have HB6 : Hid (Bytes W6 (some ⟨g, 0, none⟩) (sealB key1 3 P)) := HB5.out.below hb6
        have HP6 : Hid (Bytes W6 a13 P) := HP5.out.below hb6
        have Her := hid her
        have HT1 := hid hT1
        have HT2 := hid hT2
        clear hop hb6 b5 r5 j5 HB5 HP5 her hT1 hT2
        have q3 : IntKind.i64.wrap ((np : Int) + 24 - 16) = (np : Int) + 8 := by rw [IntKind.wrap_i64]; omega
        have q4 : (np : Int) + 24 - 16 = (np : Int) + 8 := by omega
        have q5 : (np : Int) + 8 ≤ (c1 : Int) := by omega
        have q6 : (0 : Int) ≤ (np : Int) + 8 := by omega
        have q7 : ((np : Int) + 8).toNat = np + 8 := by omega
        have HBh : Hid (Bytes (W6.alloc (.cells (cellsOf [116]).toArray 5)) (some ⟨g, 0, none⟩) (headB key1 3 P)) := by
          show Bytes _ _ _
          have h := (HB6.out.below ((Below.refl _ W6).alloc (Nat.le_refl _) _ : Below W6.heap.size W6 (W6.alloc (.cells (cellsOf [116]).toArray 5)))).take (np + 8)
          have e := seal_take key1 3 P
          rw [ls, show np + 24 - 16 = np + 8 by omega] at e
          rw [e] at h
          exact h
        go_wp2_with (at_builtin; refine app_src _ rfl (.tmp 82) (.tmp 87) rfl W6.heap.size _ [116] rfl (own_lits W6 [116] (by simp)) (some ⟨g, 0, none⟩) (np + 8) c1 (headB key1 3 P) lh.symm rfl HBh.out (fun e => by cases e) (by simp; omega) (by simp) ?_; intro v7 W7 hown7 hb7; obtain ⟨a7, c7, rfl, hB7, hc7⟩ := bytes_of_own hown7; have Hb7 := hid hb7; have HB7 := hid hB7; have Hc7 := hid hc7; clear hown7 hb7 hB7 hc7)
        have bl7 : Below W6.heap.size W6 W7 := ((Below.refl _ W6).alloc (Nat.le_refl _) _).trans Hb7.out
        have b7 : Hid (Below w.heap.size w W7) := Below.on' b6.out bl7
        have r7 : Hid (W7.heap[w.heap.size + 1]? = some (.cells #[.slice la nl lc, .slice oa nm oc, .slice pa np pc] 45 (0, 0))) := (bl7.block _ (heap_lt r6.out)).trans r6.out
        have j7 : W7.heap[W2.heap.size]? = some (.cells O2 23 (0, 0)) := (bl7.block _ (heap_lt j6.out)).trans j6.out
        have HB8 : Hid (Bytes W7 (some ⟨g, 0, none⟩) (sealB key1 3 P)) := HB6.out.below bl7
        have HP7 : Hid (Bytes W7 a13 P) := HP6.out.below bl7
        clear b6 r6 j6 HB6 HP6 HBh Hb7 bl7
        refine (tag_any key2 (some ⟨W2.heap.size, 0, none⟩) 32 32 HO2.out.len.symm (HO2.out.bytes j7) (by rw [HO2.out.len]; omega) (by rw [HO2.out.len]; omega) ([116] ++ headB key1 3 P) a7 (np + 8 + 1) c7 (by simp; omega) HB7.out (by simp; omega) Hc7.out (HT.out.below b7.out)).mono ?_
        rintro _ W8 ⟨O8, rfl, hO8, hb8⟩
        have HO8 := hid hO8
        have b8' := Below.on' b7.out hb8
        obtain ⟨V8, hV8⟩ : ∃ V8, V8 = W8.alloc (.cells O8 23) := ⟨_, rfl⟩
        have bl8 : Below W7.heap.size W7 V8 := by rw [hV8]; exact hb8.alloc hb8.size _
        have b8 : Hid (Below w.heap.size w V8) := Below.on' b7.out bl8
        have r8 := (bl8.block _ (heap_lt r7.out)).trans r7.out
        have d8 : V8.cell? ⟨w.heap.size + 1, 2, none⟩ = some (.slice pa np pc) := by rw [cell_of_row _ _ _ _ _ _ r8]; rfl
        have x8 : Hid (V8.heap[W8.heap.size]? = some (.cells O8 23 (0, 0))) := by
          show _ = _
          rw [hV8]; exact heap_alloc_new W8 _
        have HB9 : Hid (Bytes V8 (some ⟨g, 0, none⟩) (sealB key1 3 P)) := HB8.out.below bl8
        have HP8 : Hid (Bytes V8 a13 P) := HP7.out.below bl8
        have HV8 := hid hV8.symm
        clear hO8 hb8 b8' bl8 b7 r7 j7 HB8 HP7 HB7 Hc7 r8 hV8
        go_wp2_with (with_reducible show Go.wpList _ _ _ _ _ _; first
          | refine wpList_alloc_row rfl 23 rfl Z zh.out ?_
          | (refine wpList_store_row rfl 23 (.tmp 20) (.tmp 91) rfl W8.heap.size O8 rfl rfl 23 Z (heap_alloc_new W8 _) HO8.out.info (hz.out.size.trans HO8.out.size.symm) HO8.out.one ?_; rw [World.setRow_alloc_new]; rw [HV8.out]))
        obtain ⟨c16, hc16⟩ : ∃ c, c = c1 - (np + 8) := ⟨_, rfl⟩
        have HBt : Hid (Bytes V8 (some ⟨g, np + 8, none⟩) T1) := by
          show Bytes _ _ _
          have h := HB9.out.drop (np + 8)
          have e := seal_drop key1 3 P
          rw [ls, show np + 24 - 16 = np + 8 by omega] at e
          rw [e, ← HT1.out, Nat.zero_add] at h
          exact h
        have HBo : Hid (Bytes V8 (some ⟨W8.heap.size, 0, none⟩) T2) := by
          show Bytes _ _ _
          have h := (HO8.out.bytes x8.out).take 16
          rw [HT2.out]
          exact h
        have l1 : T1.length = 16 := by rw [HT1.out, tagB_len]
        have l2 : T2.length = 16 := by rw [HT2.out, tagB_len]
        simp only [Act.put, List.setIfInBounds_toArray, List.set_cons_succ, List.set_cons_zero]
        go_quiet (first
          | (go_at_call 19; refine Calls.quiet_of_same (topSame_true P a13 pa np np c13 pc Hnp.out Hnp.out _ (HP8.out.below (below_drewN _ _ _)) ((HP.out.bytes.below b8.out).below (below_drewN _ _ _))))
          | (go_at_call 19; refine Calls.quiet_of_same (topSame_any T2 T1 (some ⟨W8.heap.size, 0, none⟩) (some ⟨g, np + 8, none⟩) 16 16 _ _ l2.symm l1.symm _ (HBo.out.below (below_drewN _ _ _)) (HBt.out.below (below_drewN _ _ _)))))
        go_wp2
        go_ret
        refine ⟨ret_bool ?_, b8.out.trans (below_drewN _ _ _)⟩
        have h := Her.out
        by_cases e : er = 0
        · rw [decide_eq_true e] at h
          rw [← h, e]; rfl
        · rw [decide_eq_false e] at h
          rw [← h]; simp [e]
    · rw [heL]
      have q0 : ((keyErr M : Int) != 0) = true := by rw [bne_iff_ne]; omega
      have q1 : ¬ (keyErr M : Int) = 0 := by omega
      go_wp2_with (with_reducible show Go.wpList _ _ _ _ _ _; first
        | refine wpList_alloc_row rfl 23 rfl Z zh.out ?_
        | (refine wpList_store_row rfl 23 (.tmp 7) (.tmp 33) rfl W2.heap.size O2 rfl rfl 23 Z (heap_alloc_new W2 _) HO2.out.info (hz.out.size.trans HO2.out.size.symm) HO2.out.one ?_; rw [World.setRow_alloc_new]; rw [HV2.out]))
      refine (hsum_any [] none 0 0 rfl (fun i hi => absurd hi (by simp)) (by simp) (by simp) (HT.out.below b2.out)).mono ?_
      rintro _ w3 ⟨Os, rfl, hOs, hb3⟩
      have b3 : Hid (Below w.heap.size w w3) := Below.on' b2.out hb3
      clear hb3
      go_wp2_with fail
      refine (hex_any hOs.out).mono ?_
      rintro _ w4 ⟨rfl, hb4⟩
      have b4 : Hid (Below w.heap.size w w4) := Below.on' b3.out hb4
      rw [hex_none2]
      clear hb4 b3
      go_wp2
      go_ret
      exact ⟨ret_bool (by decide +kernel), b4.out⟩
  · have q0 : ((keyErr L : Int) != 0) = true := by rw [bne_iff_ne]; omega
    have q1 : ¬ (keyErr L : Int) = 0 := by omega
    go_wp2_with (with_reducible show Go.wpList _ _ _ _ _ _; first
      | refine wpList_alloc_row rfl 23 rfl Z zh.out ?_
      | (refine wpList_store_row rfl 23 (.tmp 7) (.tmp 33) rfl W2.heap.size O2 rfl rfl 23 Z (heap_alloc_new W2 _) HO2.out.info (hz.out.size.trans HO2.out.size.symm) HO2.out.one ?_; rw [World.setRow_alloc_new]; rw [HV2.out]))
    refine (hsum_any [] none 0 0 rfl (fun i hi => absurd hi (by simp)) (by simp) (by simp) (HT.out.below b2.out)).mono ?_
    rintro _ w3 ⟨Os, rfl, hOs, hb3⟩
    have b3 : Hid (Below w.heap.size w w3) := Below.on' b2.out hb3
    clear hb3
    go_wp2_with fail
    refine (hex_any hOs.out).mono ?_
    rintro _ w4 ⟨rfl, hb4⟩
    have b4 : Hid (Below w.heap.size w w4) := Below.on' b3.out hb4
    rw [hex_none2]
    clear hb4 b3
    go_wp2
    go_ret
    exact ⟨ret_bool (by decide +kernel), b4.out⟩
end Go.Proofs.YtgadjngodmbckaaDoor
