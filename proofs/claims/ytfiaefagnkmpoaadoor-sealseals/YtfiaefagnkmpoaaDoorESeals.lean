/- SealSeals of the laws on sealed texts, walked. -/
import Derived.Test.YtfiaefagnkmpoaaDoorETwo
import Derived.Test.YtfiaefagnkmpoaaDoorERef4
namespace Go.Proofs.YtfiaefagnkmpoaaDoor
open Go.RowKit
set_option linter.unusedVariables false
set_option maxRecDepth 20000
theorem u64_natT (x : Int) (hx : (Lit.int .u64 x).wf = true) : ∃ m : Nat, x = (m : Int) ∧ m < 2 ^ 64 := by
  have hr : 0 ≤ x ∧ x ≤ 18446744073709551615 := by simpa [Lit.wf, IntKind.min, IntKind.max, IntKind.signed, IntKind.bits] using hx
  exact ⟨x.toNat, by omega, by omega⟩
/-- bytes and an error -/
def AnsS (L : List UInt8) (er : Int) (W : World) (e : Ending) (w' : World) : Prop := ∃ a c, e = .returned (.tuple #[.slice a L.length c, .int .i64 er]) ∧ Bytes w' a L ∧ Below W.heap.size W w'
/-- bytes, a number and an error -/
def AnsO (L : List UInt8) (num : Nat) (er : Int) (W : World) (e : Ending) (w' : World) : Prop := ∃ a c, e = .returned (.tuple #[.slice a L.length c, .int .u64 (num : Int), .int .i64 er]) ∧ Bytes w' a L ∧ Below W.heap.size W w'
theorem no_bytes (w : World) : Bytes w none [] := fun i hi => by simp at hi

/-- both Seals answer alike -/
theorem seals_both {K : Array Value} {key : List UInt8} (hK : HV K key) (once : Nat) (plain : List UInt8) (a : Option Addr) (cap : Nat) :
    ∃ L er, L.length ≤ 1048 ∧ (∀ W, Bytes W a plain → KAt W → Calls Tryd.prog 22 #[.agg K, .int .u64 (once : Int), .slice a plain.length cap] W (AnsS L er W)) ∧ (∀ W, Bytes W a plain → Calls Tryd.prog 23 #[.agg K, .int .u64 (once : Int), .slice a plain.length cap] W (AnsS L er W)) := by
  by_cases h : 1024 < plain.length
  · refine ⟨[], 6, by simp, fun W hB hT => (seal_long hK once plain.length a cap h).mono ?_, fun W hB => (refSeal_long hK once plain.length a cap h).mono ?_⟩
    · rintro _ w' ⟨rfl, hb⟩
      exact ⟨none, 0, rfl, no_bytes _, hb⟩
    · rintro _ w' ⟨rfl, hb⟩
      exact ⟨none, 0, rfl, no_bytes _, hb⟩
  · refine ⟨sealB key once plain, 0, by rw [sealB_len]; omega, fun W hB hT => (seal_any hK once plain a plain.length cap rfl hB (by omega) hT).mono ?_, fun W hB => (refSeal_any hK once plain a plain.length cap rfl hB (by omega)).mono ?_⟩
    · rintro _ w' ⟨v, rfl, ho, hb⟩
      obtain ⟨a1, c1, rfl, B1, _, _⟩ := bytes_ofH ho
      exact ⟨a1, c1, rfl, B1, hb⟩
    · rintro _ w' ⟨a1, c1, rfl, B1, hb⟩
      exact ⟨a1, c1, by rw [sealB_len], B1, hb⟩

set_option maxHeartbeats 400000 in
theorem open_bad {w : World} {K : Array Value} {key : List UInt8} (hK : HV K key) (a : Option Addr) (n cap : Nat) (hn : n < 24 ∨ 1048 < n) :
    Calls Tryd.prog 24 #[.agg K, .slice a n cap] w fun e w' => e = .returned (.tuple #[.slice none 0 0, .int .u64 0, .int .i64 (if n < 24 then 3 else 6)]) ∧ Below w.heap.size w w' := by
  have b0 : Hid (Below w.heap.size w (w.alloc (.cells K 26))) := (Below.refl _ w).alloc (Nat.le_refl _) _
  have hinf : (Tryd.prog.info? 26).map (·.size) = some K.size := hK.info
  by_cases h : n < 24
  · rw [if_pos h]
    have d1 : (n : Int) < 24 := by omega
    clear hn
    go_enter Tryd.func24, Tryd.ntmps24
    go_wp2
    go_ret3
    exact ⟨rfl, b0.out⟩
  · rw [if_neg h]
    have d1 : ¬ (n : Int) < 24 := by omega
    have d2 : (1048 : Int) < (n : Int) := by omega
    clear hn
    go_enter Tryd.func24, Tryd.ntmps24
    go_wp2
    go_ret3
    exact ⟨rfl, b0.out⟩

/-- both Opens answer alike -/
theorem opens_both {K : Array Value} {key : List UInt8} (hK : HV K key) (S : List UInt8) (a : Option Addr) (cap : Nat) (w0 : World) (hB0 : Bytes w0 a S) (hcap : S.length ≤ cap) :
    ∃ L num er, L.length ≤ 1048 ∧ (∀ W, Bytes W a S → KAt W → Calls Tryd.prog 24 #[.agg K, .slice a S.length cap] W (AnsO L num er W)) ∧ (∀ W, Bytes W a S → Calls Tryd.prog 25 #[.agg K, .slice a S.length cap] W (AnsO L num er W)) := by
  by_cases h : S.length < 24 ∨ 1048 < S.length
  · refine ⟨[], 0, if S.length < 24 then 3 else 6, by simp, fun W hB hT => (open_bad hK a S.length cap h).mono ?_, fun W hB => (refOpen_bad hK a S.length cap h).mono ?_⟩
    · rintro _ w' ⟨rfl, hb⟩
      exact ⟨none, 0, rfl, no_bytes _, hb⟩
    · rintro _ w' ⟨rfl, hb⟩
      exact ⟨none, 0, rfl, no_bytes _, hb⟩
  · obtain ⟨ab, ao, rfl, _⟩ := hB0 0 (by omega)
    by_cases hD : S.drop (S.length - 16) = tagB key (S.take (S.length - 16))
    · have lc : (cross key (numB (S.take 8)) ((S.take (S.length - 16)).drop 8)).length = S.length - 24 := by rw [cross_len, List.length_drop, List.length_take]; omega
      refine ⟨cross key (numB (S.take 8)) ((S.take (S.length - 16)).drop 8), numB (S.take 8), 0, by omega, fun W hB hT => (open_any hK S ab ao S.length cap rfl hB (by omega) (by omega) hcap hT).mono ?_, fun W hB => (refOpen_right hK S ab ao S.length cap rfl hB (by omega) (by omega) hcap hD).mono ?_⟩
      · rintro e w' ⟨hr, _, hb⟩
        obtain ⟨v, rfl, ho⟩ := hr hD
        obtain ⟨a1, c1, rfl, B1, _, _⟩ := bytes_ofH ho
        exact ⟨a1, c1, rfl, B1, hb⟩
      · rintro _ w' ⟨a1, c1, rfl, B1, hb⟩
        exact ⟨a1, c1, by rw [lc], B1, hb⟩
    · refine ⟨[], 0, 10, by simp, fun W hB hT => (open_any hK S ab ao S.length cap rfl hB (by omega) (by omega) hcap hT).mono ?_, fun W hB => (refOpen_wrong hK S ab ao S.length cap rfl hB (by omega) (by omega) hcap hD).mono ?_⟩
      · rintro e w' ⟨_, hw, hb⟩
        exact ⟨none, 0, hw hD, no_bytes _, hb⟩
      · rintro _ w' ⟨rfl, hb⟩
        exact ⟨none, 0, rfl, no_bytes _, hb⟩

set_option maxHeartbeats 2000000 in
theorem sealSeals_walk {w : World} {K : Array Value} {key : List UInt8} (hK : HV K key) (once : Nat) (a : Option Addr) (k : List UInt8) (ca : Nat) (b : Option Addr) (l : List UInt8) (cb : Nat) (ha : BytesAt w a ca k) (hb : BytesAt w b cb l) (hT : KAt w) :
    Calls Tryd.prog 6 #[.agg K, .int .u64 (once : Int), .agg #[.slice a k.length ca, .slice b l.length cb]] w fun e w' => e = .returned (.bool true) ∧ Below w.heap.size w w' := by
  have HK := hid hK
  have HT := hid hT
  obtain ⟨LS, es, lLS, hS1, hS2⟩ := seals_both hK once k a ca
  obtain ⟨LO, num, eo, lLO, hO1, hO2⟩ := opens_both hK l b cb w hb.bytes hb.cap
  have HA := hid ha.bytes
  have HBb := hid hb.bytes
  have hinf : (Tryd.prog.info? 26).map (·.size) = some K.size := hK.info
  obtain ⟨nk, hnk⟩ : ∃ nk, nk = k.length := ⟨_, rfl⟩
  obtain ⟨nl, hnl⟩ : ∃ nl, nl = l.length := ⟨_, rfl⟩
  obtain ⟨nS, hnS⟩ : ∃ nS, nS = LS.length := ⟨_, rfl⟩
  obtain ⟨nO, hnO⟩ : ∃ nO, nO = LO.length := ⟨_, rfl⟩
  rw [← hnk] at hS1 hS2 ⊢
  rw [← hnl] at hO1 hO2 ⊢
  have HS1 := hid hS1
  have HS2 := hid hS2
  have HO1 := hid hO1
  have HO2 := hid hO2
  have HnS := hid hnS
  have HnO := hid hnO
  have HlS := hid lLS
  have HlO := hid lLO
  obtain ⟨W0, hW0⟩ : ∃ W0, W0 = (w.alloc (.cells K 26)).alloc (.cells #[.slice a nk ca, .slice b nl cb] 40) := ⟨_, rfl⟩
  have b0 : Hid (Below w.heap.size w W0) := by
    show Below _ _ _
    rw [hW0]; exact ((Below.refl _ w).alloc (Nat.le_refl _) _).alloc (by simp) _
  have k0 : Hid (W0.heap[w.heap.size]? = some (.cells K 26 (0, 0))) := by
    show _ = _
    rw [hW0]; exact heap_alloc2_old w _ _
  have p0 : Hid (W0.heap[w.heap.size + 1]? = some (.cells #[.slice a nk ca, .slice b nl cb] 40 (0, 0))) := by
    show _ = _
    rw [hW0]; exact heap_alloc2_new w _ _
  have cell0 : Hid (∀ W : World, W.heap[w.heap.size + 1]? = some (.cells #[.slice a nk ca, .slice b nl cb] 40 (0, 0)) → W.cell? ⟨w.heap.size + 1, 0, none⟩ = some (.slice a nk ca)) := fun W h => by rw [cell_of_row _ _ _ _ _ _ h]; rfl
  have cell1 : Hid (∀ W : World, W.heap[w.heap.size + 1]? = some (.cells #[.slice a nk ca, .slice b nl cb] 40 (0, 0)) → W.cell? ⟨w.heap.size + 1, 1, none⟩ = some (.slice b nl cb)) := fun W h => by rw [cell_of_row _ _ _ _ _ _ h]; rfl
  have HW0 := hid hW0.symm
  clear hK hT ha hb hS1 hS2 hO1 hO2 hnk hnl hnS hnO hW0 lLS lLO
  go_enter Tryd.func6, Tryd.ntmps6
  have r0 := cell0.out _ p0.out
  go_wp2_with (with_reducible show Go.wpList _ _ _ _ _ _; rw [HW0.out]; refine wpList_load_row rfl 26 _ rfl w.heap.size rfl _ _ _ _ k0.out Tryd.underlying26 rfl hinf ?_)
  refine (HS1.out _ (HA.out.below b0.out) (HT.out.below b0.out)).mono ?_
  rintro _ W1 ⟨a1, c1, rfl, B1, hb1⟩
  rw [← HnS.out]
  have HB1 := hid B1
  have b1 : Hid (Below w.heap.size w W1) := Below.on' b0.out hb1
  have k1 : Hid (W1.heap[w.heap.size]? = some (.cells K 26 (0, 0))) := (hb1.block _ (heap_lt k0.out)).trans k0.out
  have p1 : Hid (W1.heap[w.heap.size + 1]? = some (.cells #[.slice a nk ca, .slice b nl cb] 40 (0, 0))) := (hb1.block _ (heap_lt p0.out)).trans p0.out
  clear hb1 B1 b0 k0 p0 r0
  have r1 := cell0.out _ p1.out
  go_wp2_with (with_reducible show Go.wpList _ _ _ _ _ _; refine wpList_load_row rfl 26 _ rfl w.heap.size rfl _ _ _ _ k1.out Tryd.underlying26 rfl hinf ?_)
  refine (HS2.out _ (HA.out.below b1.out)).mono ?_
  rintro _ W2 ⟨a2, c2, rfl, B2, hb2⟩
  rw [← HnS.out]
  have HB2 := hid B2
  have HB12 : Hid (Bytes W2 a1 LS) := HB1.out.below hb2
  have b2 : Hid (Below w.heap.size w W2) := Below.on' b1.out hb2
  have k2 : Hid (W2.heap[w.heap.size]? = some (.cells K 26 (0, 0))) := (hb2.block _ (heap_lt k1.out)).trans k1.out
  have p2 : Hid (W2.heap[w.heap.size + 1]? = some (.cells #[.slice a nk ca, .slice b nl cb] 40 (0, 0))) := (hb2.block _ (heap_lt p1.out)).trans p1.out
  clear hb2 B2 b1 k1 p1 r1 HB1
  have r2 := cell1.out _ p2.out
  go_wp2_with (with_reducible show Go.wpList _ _ _ _ _ _; refine wpList_load_row rfl 26 _ rfl w.heap.size rfl _ _ _ _ k2.out Tryd.underlying26 rfl hinf ?_)
  refine (HO1.out _ (HBb.out.below b2.out) (HT.out.below b2.out)).mono ?_
  rintro _ W3 ⟨a3, c3, rfl, B3, hb3⟩
  rw [← HnO.out]
  have HB3 := hid B3
  have HB13 : Hid (Bytes W3 a1 LS) := HB12.out.below hb3
  have HB23 : Hid (Bytes W3 a2 LS) := HB2.out.below hb3
  have b3 : Hid (Below w.heap.size w W3) := Below.on' b2.out hb3
  have k3 : Hid (W3.heap[w.heap.size]? = some (.cells K 26 (0, 0))) := (hb3.block _ (heap_lt k2.out)).trans k2.out
  have p3 : Hid (W3.heap[w.heap.size + 1]? = some (.cells #[.slice a nk ca, .slice b nl cb] 40 (0, 0))) := (hb3.block _ (heap_lt p2.out)).trans p2.out
  clear hb3 B3 b2 k2 p2 r2 HB12 HB2
  have r3 := cell1.out _ p3.out
  go_wp2_with (with_reducible show Go.wpList _ _ _ _ _ _; refine wpList_load_row rfl 26 _ rfl w.heap.size rfl _ _ _ _ k3.out Tryd.underlying26 rfl hinf ?_)
  refine (HO2.out _ (HBb.out.below b3.out)).mono ?_
  rintro _ W4 ⟨a4, c4, rfl, B4, hb4⟩
  rw [← HnO.out]
  have HB4 := hid B4
  have HB34 : Hid (Bytes W4 a3 LO) := HB3.out.below hb4
  have HB14 : Hid (Bytes W4 a1 LS) := HB13.out.below hb4
  have HB24 : Hid (Bytes W4 a2 LS) := HB23.out.below hb4
  have b4 : Hid (Below w.heap.size w W4) := Below.on' b3.out hb4
  clear hb4 B4 b3 k3 p3 r3 HB13 HB23 HB3
  go_wp2_with fail
  refine (live_any (HT.out.below b4.out)).mono ?_
  rintro _ W5 ⟨rfl, hb5⟩
  have HS3 : Hid (Calls Tryd.prog 15 #[.slice a1 nS c1, .slice a2 nS c2] W5 fun e w' => e = .returned (.bool true) ∧ Below W5.heap.size W5 w') := by
    show Calls _ _ _ _ _
    have h := sameBytes_any LS LS a1 a2 c1 c2 W5 (HB14.out.below hb5) (HB24.out.below hb5) (by have := HlS.out; omega) (by have := HlS.out; omega)
    rw [← HnS.out] at h
    exact h.mono fun e w' hh => by rw [decide_eq_true (rfl : LS = LS)] at hh; exact hh
  have HB35 : Hid (Bytes W5 a3 LO) := HB34.out.below hb5
  have HB45 : Hid (Bytes W5 a4 LO) := HB4.out.below hb5
  have b5 : Hid (Below w.heap.size w W5) := Below.on' b4.out hb5
  clear hb5 b4 HB14 HB24 HB34 HB4
  go_wp2_with fail
  refine HS3.out.mono ?_
  rintro _ W6 ⟨rfl, hb6⟩
  have HS4 : Hid (Calls Tryd.prog 15 #[.slice a3 nO c3, .slice a4 nO c4] W6 fun e w' => e = .returned (.bool true) ∧ Below W6.heap.size W6 w') := by
    show Calls _ _ _ _ _
    have h := sameBytes_any LO LO a3 a4 c3 c4 W6 (HB35.out.below hb6) (HB45.out.below hb6) (by have := HlO.out; omega) (by have := HlO.out; omega)
    rw [← HnO.out] at h
    exact h.mono fun e w' hh => by rw [decide_eq_true (rfl : LO = LO)] at hh; exact hh
  have b6 : Hid (Below w.heap.size w W6) := Below.on' b5.out hb6
  clear hb6 b5 HS3 HB35 HB45
  go_wp2_with fail
  refine HS4.out.mono ?_
  rintro _ W7 ⟨rfl, hb7⟩
  have b7 : Hid (Below w.heap.size w W7) := Below.on' b6.out hb7
  clear hb7 b6 HS4
  go_wp2
  go_ret
  exact ⟨ret_bool (by simp), b7.out⟩
theorem sealSeals_row {w : World} {K : Array Value} {key : List UInt8} (hK : HV K key) (z : Int) (hz : (Lit.int .u64 z).wf = true) (a : Option Addr) (k : List UInt8) (ca : Nat) (b : Option Addr) (l : List UInt8) (cb : Nat) (ha : BytesAt w a ca k) (hb : BytesAt w b cb l) (hT : KAt w) :
    Calls Tryd.prog 6 #[.agg K, .int .u64 z, .agg #[.slice a k.length ca, .slice b l.length cb]] w fun e w' => e = .returned (.bool true) ∧ Below w.heap.size w w' := by
  obtain ⟨m, rfl, hm⟩ := u64_natT z hz
  exact sealSeals_walk hK m a k ca b l cb ha hb hT
end Go.Proofs.YtfiaefagnkmpoaaDoor
