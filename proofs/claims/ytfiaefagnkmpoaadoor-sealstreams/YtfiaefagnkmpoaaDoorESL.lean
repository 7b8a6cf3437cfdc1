/- SealStreams of the laws on sealed texts, walked. -/
import Derived.Test.YtfiaefagnkmpoaaDoorEStreamF
import Derived.Test.YtfiaefagnkmpoaaDoorERef2
namespace Go.Proofs.YtfiaefagnkmpoaaDoor
open Go.RowKit
set_option linter.unusedVariables false
set_option maxRecDepth 20000
theorem u64_natS (x : Int) (hx : (Lit.int .u64 x).wf = true) : ∃ m : Nat, x = (m : Int) ∧ m < 2 ^ 64 := by
  have hr : 0 ≤ x ∧ x ≤ 18446744073709551615 := by simpa [Lit.wf, IntKind.min, IntKind.max, IntKind.signed, IntKind.bits] using hx
  exact ⟨x.toNat, by omega, by omega⟩

set_option maxHeartbeats 1000000 in
theorem sealStreams_bad {w : World} {K : Array Value} {key : List UInt8} (hK : HV K key) (once : Nat) (n : Int) (hn : n < 0 ∨ 1024 < n) (hT : KAt w) :
    Calls Tryd.prog 7 #[.agg K, .int .u64 (once : Int), .int .i64 n] w fun e w' => e = .returned (.bool true) ∧ Below w.heap.size w w' := by
  have HK := hid hK
  have HT := hid hT
  have hinf : (Tryd.prog.info? 26).map (·.size) = some K.size := hK.info
  have x0 := hid (heap_alloc_new w (.cells K 26))
  have b0 : Hid (Below w.heap.size w (w.alloc (.cells K 26))) := (Below.refl _ w).alloc (Nat.le_refl _) _
  have Hn := hid hn
  have hc : ((0 : Int) ≤ n ∧ ¬ n ≤ 1024) ∨ ¬ (0 : Int) ≤ n := by omega
  clear hK hT hn
  rcases hc with ⟨c1, c2⟩ | c1
  all_goals
    go_enter Tryd.func7, Tryd.ntmps7
    go_wp2_with (with_reducible show Go.wpList _ _ _ _ _ _; refine wpList_load_row rfl 26 _ rfl w.heap.size rfl _ _ _ _ x0.out Tryd.underlying26 rfl hinf ?_)
    refine (streamF_bad HK.out once n Hn.out).mono ?_
    rintro _ W1 ⟨rfl, hb1⟩
    have x1 : Hid (W1.heap[w.heap.size]? = some (.cells K 26 (0, 0))) := (hb1.block _ (heap_lt x0.out)).trans x0.out
    have b1 : Hid (Below w.heap.size w W1) := Below.on' b0.out hb1
    clear hb1
    go_wp2_with (with_reducible show Go.wpList _ _ _ _ _ _; refine wpList_load_row rfl 26 _ rfl w.heap.size rfl _ _ _ _ x1.out Tryd.underlying26 rfl hinf ?_)
    refine (refStream_bad HK.out once n Hn.out).mono ?_
    rintro _ W2 ⟨rfl, hb2⟩
    have b2 : Hid (Below w.heap.size w W2) := Below.on' b1.out hb2
    clear hb2
    go_wp2_with fail
    refine (live_any (HT.out.below b2.out)).mono ?_
    rintro _ W3 ⟨rfl, hb3⟩
    have b3 : Hid (Below w.heap.size w W3) := Below.on' b2.out hb3
    clear hb3
    have HS : Hid (Calls Tryd.prog 15 #[.slice none 0 0, .slice none 0 0] W3 fun e w' => e = .returned (.bool true) ∧ Below W3.heap.size W3 w') := by
      show Calls _ _ _ _ _
      have h := sameBytes_any [] [] none none 0 0 W3 (fun i hi => by simp at hi) (fun i hi => by simp at hi) (by simp) (by simp)
      exact h.mono fun e w' hh => by rw [decide_eq_true (rfl : ([] : List UInt8) = [])] at hh; exact hh
    go_wp2_with fail
    refine HS.out.mono ?_
    rintro _ W4 ⟨rfl, hb4⟩
    have b4 : Hid (Below w.heap.size w W4) := Below.on' b3.out hb4
    clear hb4
    go_wp2_with fail
    refine (size_bad _ n Hn.out).mono ?_
    rintro _ W5 ⟨rfl, hW5⟩
    have b5 : Hid (Below w.heap.size w W5) := by show Below _ _ _; rw [hW5]; exact b4.out
    clear hW5
    go_wp2
    go_ret
    exact ⟨rfl, b5.out⟩

set_option maxHeartbeats 1000000 in
theorem sealStreams_ok {w : World} {K : Array Value} {key : List UInt8} (hK : HV K key) (once n : Nat) (hn : n ≤ 1024) (hT : KAt w) :
    Calls Tryd.prog 7 #[.agg K, .int .u64 (once : Int), .int .i64 (n : Int)] w fun e w' => e = .returned (.bool true) ∧ Below w.heap.size w w' := by
  have HK := hid hK
  have HT := hid hT
  have hinf : (Tryd.prog.info? 26).map (·.size) = some K.size := hK.info
  have x0 := hid (heap_alloc_new w (.cells K 26))
  have b0 : Hid (Below w.heap.size w (w.alloc (.cells K 26))) := (Below.refl _ w).alloc (Nat.le_refl _) _
  have c1 : (0 : Int) ≤ (n : Int) := by omega
  have c2 : (n : Int) ≤ 1024 := by omega
  have q2 : IntKind.i64.wrap ((n : Int) + 24) = (n : Int) + 24 := by rw [IntKind.wrap_i64]; omega
  clear hK hT
  go_enter Tryd.func7, Tryd.ntmps7
  go_wp2_with (with_reducible show Go.wpList _ _ _ _ _ _; refine wpList_load_row rfl 26 _ rfl w.heap.size rfl _ _ _ _ x0.out Tryd.underlying26 rfl hinf ?_)
  refine (streamF_any HK.out once n hn (HT.out.below b0.out)).mono ?_
  rintro _ W1 ⟨v1, rfl, ho1, hb1⟩
  have lc : (cross key once (List.replicate n 0)).length = n := by rw [cross_len]; simp
  have eqs : cross key once (List.replicate n 0) = (strm key once (nblk n)).take n := by
    rw [cross, List.length_replicate, xorL_zero _ _ (by rw [strm_len, nblk]; omega)]
  rw [eqs] at ho1 lc
  obtain ⟨X, hX⟩ : ∃ X, X = (strm key once (nblk n)).take n := ⟨_, rfl⟩
  rw [← hX] at ho1 lc
  have ho1' : W1.ownsRow (w.alloc (.cells K 26)).heap.size 5 1 v1 X.length (cellsOf X) := by rw [lc]; exact ho1
  obtain ⟨a1, k1, rfl, B1, _, _⟩ := bytes_ofH ho1'
  rw [lc]
  have HB1 := hid B1
  have HX := hid hX
  have Hlc := hid lc
  have x1 : Hid (W1.heap[w.heap.size]? = some (.cells K 26 (0, 0))) := (hb1.block _ (heap_lt x0.out)).trans x0.out
  have b1 : Hid (Below w.heap.size w W1) := Below.on' b0.out hb1
  clear hb1 ho1 ho1' B1 hX lc eqs
  go_wp2_with (with_reducible show Go.wpList _ _ _ _ _ _; refine wpList_load_row rfl 26 _ rfl w.heap.size rfl _ _ _ _ x1.out Tryd.underlying26 rfl hinf ?_)
  refine (refStream_any HK.out once n hn).mono ?_
  rintro _ W2 ⟨a2, k2, rfl, B2, lc2, hn2, hb2⟩
  rw [← HX.out] at B2
  have HB2 := hid B2
  have HB12 : Hid (Bytes W2 a1 X) := HB1.out.below hb2
  have b2 : Hid (Below w.heap.size w W2) := Below.on' b1.out hb2
  clear hb2 B2 HB1 hn2
  go_wp2_with fail
  refine (live_any (HT.out.below b2.out)).mono ?_
  rintro _ W3 ⟨rfl, hb3⟩
  have HS : Hid (Calls Tryd.prog 15 #[.slice a1 n k1, .slice a2 n k2] W3 fun e w' => e = .returned (.bool true) ∧ Below W3.heap.size W3 w') := by
    show Calls _ _ _ _ _
    have h := sameBytes_any X X a1 a2 k1 k2 W3 (HB12.out.below hb3) (HB2.out.below hb3) (by rw [Hlc.out]; omega) (by rw [Hlc.out]; omega)
    rw [Hlc.out] at h
    exact h.mono fun e w' hh => by rw [decide_eq_true (rfl : X = X)] at hh; exact hh
  have b3 : Hid (Below w.heap.size w W3) := Below.on' b2.out hb3
  clear hb3
  go_wp2_with fail
  refine HS.out.mono ?_
  rintro _ W4 ⟨rfl, hb4⟩
  have b4 : Hid (Below w.heap.size w W4) := Below.on' b3.out hb4
  clear hb4
  go_wp2_with fail
  refine (size_any _ n hn).mono ?_
  rintro _ W5 ⟨rfl, hW5⟩
  have b5 : Hid (Below w.heap.size w W5) := by show Below _ _ _; rw [hW5]; exact b4.out
  clear hW5
  go_wp2
  go_ret
  exact ⟨rfl, b5.out⟩
theorem sealStreams_row {w : World} {K : Array Value} {key : List UInt8} (hK : HV K key) (x : Int) (hx : (Lit.int .u64 x).wf = true) (n : Int) (hn : (Lit.int .i64 n).wf = true) (hT : KAt w) :
    Calls Tryd.prog 7 #[.agg K, .int .u64 x, .int .i64 n] w fun e w' => e = .returned (.bool true) ∧ Below w.heap.size w w' := by
  obtain ⟨m, rfl, hm⟩ := u64_natS x hx
  by_cases h : n < 0 ∨ 1024 < n
  · exact sealStreams_bad hK m n h hT
  · obtain ⟨k, rfl⟩ : ∃ k : Nat, n = (k : Int) := ⟨n.toNat, by omega⟩
    exact sealStreams_ok hK m k (by omega) hT
end Go.Proofs.YtfiaefagnkmpoaaDoor
