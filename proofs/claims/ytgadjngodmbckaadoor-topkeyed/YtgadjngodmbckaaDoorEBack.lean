/- SealBack of the laws on sealed texts, walked. -/
import Derived.Test.YtgadjngodmbckaaDoorELift
namespace Go.Proofs.YtgadjngodmbckaaDoor
open Go.RowKit Go.Shelf
set_option linter.unusedVariables false
set_option maxRecDepth 20000

theorem u64_nat (x : Int) (h : (Lit.int .u64 x).wf = true) : ∃ m : Nat, x = (m : Int) ∧ m < 2 ^ 64 := by
  have hr : 0 ≤ x ∧ x ≤ 18446744073709551615 := by simpa [Lit.wf, IntKind.min, IntKind.max, IntKind.signed, IntKind.bits] using h
  exact ⟨x.toNat, by omega, by omega⟩

set_option maxHeartbeats 2000000 in
theorem sealBack_walk {w : World} {K : Array Value} {key : List UInt8} (hK : HV K key) (once : Nat) (ho : once < 2 ^ 64) (plain : List UInt8) (a : Option Addr) (cap : Nat) (hp : BytesIn w a cap plain) (hT : KAt w) :
    Calls Tryd.prog 3 #[.agg K, .int .u64 (once : Int), .slice a plain.length cap] w fun e w' => e = .returned (.bool true) ∧ Below w.heap.size w w' := by
  have HK := hid hK
  have HP := hid hp
  have HT := hid hT
  have hinf : (Tryd.prog.info? 23).map (·.size) = some K.size := hK.info
  have lp := hp.length
  obtain ⟨n, hn⟩ : ∃ n, n = plain.length := ⟨_, rfl⟩
  rw [← hn] at lp ⊢
  have Hn := hid hn
  have k1 : Hid ((w.alloc (.cells K 23)).heap[w.heap.size]? = some (.cells K 23 (0, 0))) := heap_alloc_new w _
  have b1 : Hid (Below w.heap.size w (w.alloc (.cells K 23))) := (Below.refl _ w).alloc (Nat.le_refl _) _
  clear hK hp hT hn
  by_cases hlong : 1024 < n
  · have q0 : (1024 : Int) < (n : Int) := by omega
    go_enter Tryd.func3, Tryd.ntmps3
    go_wp2_with (with_reducible show Go.wpList _ _ _ _ _ _; refine wpList_load_row rfl 23 (.tmp 3) rfl w.heap.size rfl 23 K (0, 0) _ k1.out Tryd.underlying23 rfl HK.out.info ?_)
    refine (seal_long HK.out once n a cap hlong).mono ?_
    rintro _ W1 ⟨rfl, hb1⟩
    have b2 : Hid (Below w.heap.size w W1) := Below.on' b1.out hb1
    clear hb1 k1 b1
    go_wp2_with fail
    refine (live_any (HT.out.below b2.out)).mono ?_
    rintro _ W2 ⟨rfl, hb2⟩
    have b3 : Hid (Below w.heap.size w W2) := Below.on' b2.out hb2
    clear hb2
    go_wp2
    go_ret
    exact ⟨rfl, b3.out⟩
  · have q0 : ¬ (1024 : Int) < (n : Int) := by omega
    go_enter Tryd.func3, Tryd.ntmps3
    go_wp2_with (with_reducible show Go.wpList _ _ _ _ _ _; refine wpList_load_row rfl 23 (.tmp 3) rfl w.heap.size rfl 23 K (0, 0) _ k1.out Tryd.underlying23 rfl HK.out.info ?_)
    refine (seal_any HK.out once plain a n cap Hn.out (HP.out.bytes.below b1.out) (by have := Hn.out; omega) (HT.out.below b1.out)).mono ?_
    rintro _ W1 ⟨v1, rfl, hown1, hb1⟩
    have ls : (sealB key once plain).length = n + 24 := by rw [sealB_len, Hn.out]
    obtain ⟨g, c1, rfl, hB1, hc1, _⟩ := own_some hown1 (by omega)
    rw [ls] at hc1 ⊢
    have b2 : Hid (Below w.heap.size w W1) := Below.on' b1.out hb1
    have k2 : Hid (W1.heap[w.heap.size]? = some (.cells K 23 (0, 0))) := (hb1.block _ (heap_lt k1.out)).trans k1.out
    have HB1 := hid hB1
    clear hown1 hb1 k1 b1 hB1
    go_wp2_with (with_reducible show Go.wpList _ _ _ _ _ _; refine wpList_load_row rfl 23 (.tmp 3) rfl w.heap.size rfl 23 K (0, 0) _ k2.out Tryd.underlying23 rfl HK.out.info ?_)
    refine (open_sealed HK.out once ho plain (by have := Hn.out; omega) g (n + 24) c1 (by rw [Hn.out]) HB1.out hc1 (HT.out.below b2.out)).mono ?_
    rintro _ W2 ⟨v2, rfl, hown2, hb2⟩
    obtain ⟨a2, c2, rfl, hB2, hc2⟩ := bytes_of_own hown2
    rw [← Hn.out]
    have b3 : Hid (Below w.heap.size w W2) := Below.on' b2.out hb2
    have HB2 := hid hB2
    clear hown2 hb2 HB1 b2 k2 hB2
    go_wp2_with fail
    refine (live_any (HT.out.below b3.out)).mono ?_
    rintro _ W3 ⟨rfl, hb3⟩
    have b4 : Hid (Below w.heap.size w W3) := Below.on' b3.out hb3
    have HB3 : Hid (Bytes W3 a2 plain) := HB2.out.below hb3
    clear hb3 b3 HB2
    have HS : Hid (Calls Tryd.prog 11 #[.slice a2 n c2, .slice a n cap] W3 fun e w' => e = .returned (.bool true) ∧ Below W3.heap.size W3 w') := by
      show Calls _ _ _ _ _
      have h := sameBytes_any plain plain a2 a c2 cap W3 HB3.out (HP.out.bytes.below b4.out) HP.out.length HP.out.length
      rw [← Hn.out] at h
      exact h.mono fun e w' hh => by rw [decide_eq_true (rfl : plain = plain)] at hh; exact hh
    go_wp2_with fail
    refine HS.out.mono ?_
    rintro _ W4 ⟨rfl, hb4⟩
    have b5 : Hid (Below w.heap.size w W4) := Below.on' b4.out hb4
    clear hb4 b4 HB3 HS
    go_wp2_with fail
    refine (size_any _ n (by omega)).mono ?_
    rintro _ W5 ⟨rfl, rfl⟩
    go_wp2
    go_ret
    exact ⟨ret_bool (by simp), b5.out⟩
theorem sealBack_row {w : World} {K : Array Value} {key : List UInt8} (hK : HV K key) (x : Int) (hx : (Lit.int .u64 x).wf = true) (plain : List UInt8) (a : Option Addr) (cap : Nat) (hp : BytesIn w a cap plain) (hT : KAt w) :
    Calls Tryd.prog 3 #[.agg K, .int .u64 x, .slice a plain.length cap] w fun e w' => e = .returned (.bool true) ∧ Below w.heap.size w w' := by
  obtain ⟨m, rfl, hm⟩ := u64_nat x hx
  exact sealBack_walk hK m hm plain a cap hp hT
end Go.Proofs.YtgadjngodmbckaaDoor
