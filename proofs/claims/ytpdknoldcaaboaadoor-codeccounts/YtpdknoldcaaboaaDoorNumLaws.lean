/- The walks of holdfastlaw02.CodecNext, CodecCounts and CodecNumbers: each answers true, and writes nothing that was there. -/
import Derived.Test.YtpdknoldcaaboaaDoorLive
import Derived.Test.YtpdknoldcaaboaaDoorNumMath
import Derived.Test.YtpdknoldcaaboaaDoorRefToNum
namespace Go.Proofs.YtpdknoldcaaboaaDoor
open Go.RowKit

theorem number_nat (n : Nat) (h : n ≤ 4611686018427387904) (w : World) (ht : TabAt w) :
    Calls Tryd.prog 23 #[.int .i64 n] w fun e w' => e = .returned (.tuple #[.string ⟨(numT n).toArray⟩, .int .i64 0]) ∧ Below w.heap.size w w' := by
  by_cases h0 : n = 0
  · subst h0
    exact (number_zero w).mono fun e w' ⟨he, hw⟩ => ⟨he, hw ▸ Below.refl _ _⟩
  · exact number_pos n (by omega) h w ht

theorem Below.on {w w1 w2 : World} (h : Below w.heap.size w w1) (k : Below w1.heap.size w1 w2) : Below w.heap.size w w2 := h.trans (k.mono h.size)

theorem numT_size (n : Nat) (h : n ≤ 4611686018427387904) : (⟨(numT n).toArray⟩ : ByteArray).size ≤ maxLen := by
  show (numT n).toArray.size ≤ maxLen
  unfold numT
  split
  · decide
  · rename_i h0
    have := log_le n h0 h
    simp [lo_length, maxLen]
    omega

set_option maxHeartbeats 400000 in
theorem codecNext_walk (n : Int) (hn : (Lit.int .i64 n).wf = true) (w : World) (ht : TabAt w) :
    Calls Tryd.prog 10 #[.int .i64 n] w fun e w' => e = .returned (.bool true) ∧ Below w.heap.size w w' := by
  have Ht := hid ht
  clear ht
  by_cases h1 : n < 0
  · have d1 : decide (n < 0) = true := by simp; omega
    go_enter Tryd.func10, Tryd.ntmps10
    go_wp2_with (go_at_call 16; refine (live_any _ Ht.out).mono ?_; rintro e w' ⟨rfl, hb⟩)
    go_ret
    exact ⟨rfl, hb⟩
  have d1 : decide (n < 0) = false := by simp; omega
  by_cases h2 : 4611686018427387904 ≤ n
  · have d2 : decide (4611686018427387904 ≤ n) = true := by simp; omega
    go_enter Tryd.func10, Tryd.ntmps10
    go_wp2_with (go_at_call 16; refine (live_any _ Ht.out).mono ?_; rintro e w' ⟨rfl, hb⟩)
    go_ret
    exact ⟨rfl, hb⟩
  have d2 : decide (4611686018427387904 ≤ n) = false := by simp; omega
  obtain ⟨m, rfl⟩ : ∃ m : Nat, n = m := ⟨n.toNat, by omega⟩
  go_enter Tryd.func10, Tryd.ntmps10
  go_wp2_with fail
  refine (number_nat m (by omega) _ Ht.out).mono ?_
  rintro e w1 ⟨rfl, hb1⟩
  have Hb1 := hid hb1
  clear hb1
  go_wp2_with fail
  rw [show ((m : Int) + 1) = ((m + 1 : Nat) : Int) by omega]
  refine (number_nat (m + 1) (by omega) _ (Ht.out.below Hb1.out)).mono ?_
  rintro e w2 ⟨rfl, hb2⟩
  have Hb2 := hid (Below.on Hb1.out hb2)
  clear hb2
  have Hless := hid (numT_less m (m + 1) (by omega) (by omega))
  have Hto := hid (toNum_numT (m + 1) (by omega))
  have Hsz := hid (numT_size (m + 1) (by omega))
  generalize numT m = t1 at *
  generalize numT (m + 1) = t2 at *
  go_wp2_with fail
  refine (toNumber_any _ _ Hsz.out).mono ?_
  rintro e w3 ⟨rfl, hw3⟩
  rw [hw3, Hto.out]
  clear hw3 w3
  go_wp2_with fail
  refine (live_any _ (Ht.out.below Hb2.out)).mono ?_
  rintro e w4 ⟨rfl, hb4⟩
  have Hb4 := hid (Below.on Hb2.out hb4)
  have hl : Op.bytesLess t1 t2 = true := Hless.out.trans (by simp)
  have hm : (m : Int) ≤ 4611686018427387904 := by omega
  clear hb4 d1 d2 hn h1 h2 Hto Hsz Hless
  go_wp2
  go_ret
  exact ⟨rfl, Hb4.out⟩

/-- codec.Number's error, and its text -/
def numE (n : Int) : Nat := if n < 0 ∨ 4611686018427387904 < n then 2 else 0
def numR (n : Int) : List UInt8 := if n < 0 ∨ 4611686018427387904 < n then [] else numT n.toNat

theorem number_any (n : Int) (w : World) (ht : TabAt w) :
    Calls Tryd.prog 23 #[.int .i64 n] w fun e w' => e = .returned (.tuple #[.string ⟨(numR n).toArray⟩, .int .i64 (numE n : Int)]) ∧ Below w.heap.size w w' := by
  unfold numR numE
  by_cases h1 : n < 0
  · simp only [h1, true_or, if_true]
    exact (number_low n h1 w).mono fun e w' ⟨he, hw⟩ => ⟨he, hw ▸ Below.refl _ _⟩
  by_cases h2 : 4611686018427387904 < n
  · simp only [h2, or_true, if_true]
    exact (number_high n h2 w).mono fun e w' ⟨he, hw⟩ => ⟨he, hw ▸ Below.refl _ _⟩
  · simp only [h1, h2, or_self, if_false]
    obtain ⟨m, rfl⟩ : ∃ m : Nat, n = m := ⟨n.toNat, by omega⟩
    exact number_nat m (by omega) w ht

theorem refNumber_all (n : Int) (w : World) :
    Calls Tryd.prog 24 #[.int .i64 n] w fun e w' => e = .returned (.tuple #[.string ⟨(numR n).toArray⟩, .int .i64 (numE n : Int)]) ∧ Below w.heap.size w w' := by
  unfold numR numE
  by_cases h1 : n < 0
  · simp only [h1, true_or, if_true]
    exact (refNumber_low n h1 w).mono fun e w' ⟨he, hw⟩ => ⟨he, hw ▸ Below.refl _ _⟩
  by_cases h2 : 4611686018427387904 < n
  · simp only [h2, or_true, if_true]
    exact (refNumber_high n h2 w).mono fun e w' ⟨he, hw⟩ => ⟨he, hw ▸ Below.refl _ _⟩
  · simp only [h1, h2, or_self, if_false]
    obtain ⟨m, rfl⟩ : ∃ m : Nat, n = m := ⟨n.toNat, by omega⟩
    exact refNumber_any m (by omega) w

/-- one of the two numbers has no text -/
theorem counts_bad (a b : Int) (w : World) (ht : TabAt w) (p1 p2 p3 p4 : Bool) (d1 : decide (a < 0) = p1) (d2 : decide (b < 0) = p2) (d3 : decide (4611686018427387904 < a) = p3) (d4 : decide (4611686018427387904 < b) = p4) (hp : (p1 || p2 || p3 || p4) = true) :
    Calls Tryd.prog 7 #[.int .i64 a, .int .i64 b] w fun e w' => e = .returned (.bool true) ∧ Below w.heap.size w w' := by
  have Ht := hid ht
  have ea : numE a = if p1 || p3 then 2 else 0 := by unfold numE; rw [← d1, ← d3]; simp
  have eb : numE b = if p2 || p4 then 2 else 0 := by unfold numE; rw [← d2, ← d4]; simp
  clear ht
  cases p1 <;> cases p2 <;> cases p3 <;> cases p4 <;> first | (simp at hp; done) | skip
  all_goals
    simp only [Bool.or_true, Bool.or_false, if_true, Bool.false_eq_true, if_false] at ea eb
    clear hp
    go_enter Tryd.func7, Tryd.ntmps7
    go_wp2_with fail
    refine (number_any a _ Ht.out).mono ?_
    rintro e w1 ⟨rfl, hb1⟩
    have Hb1 := hid hb1
    clear hb1
    go_wp2_with fail
    refine (number_any b _ (Ht.out.below Hb1.out)).mono ?_
    rintro e w2 ⟨rfl, hb2⟩
    have Hb2 := hid (Below.on Hb1.out hb2)
    clear hb2
    go_wp2_with (go_at_call 16; refine (live_any _ (Ht.out.below Hb2.out)).mono ?_; rintro e w3 ⟨rfl, hb3⟩)
    go_ret
    exact ⟨rfl, Below.on Hb2.out hb3⟩

theorem counts_good (a b : Nat) (ha : a ≤ 4611686018427387904) (hb : b ≤ 4611686018427387904) (w : World) (ht : TabAt w) :
    Calls Tryd.prog 7 #[.int .i64 a, .int .i64 b] w fun e w' => e = .returned (.bool true) ∧ Below w.heap.size w w' := by
  have Ht := hid ht
  have Hless := hid (numT_less a b ha hb)
  clear ht
  go_enter Tryd.func7, Tryd.ntmps7
  go_wp2_with fail
  refine (number_nat a ha _ Ht.out).mono ?_
  rintro e w1 ⟨rfl, hb1⟩
  have Hb1 := hid hb1
  clear hb1
  go_wp2_with fail
  refine (number_nat b hb _ (Ht.out.below Hb1.out)).mono ?_
  rintro e w2 ⟨rfl, hb2⟩
  have Hb2 := hid (Below.on Hb1.out hb2)
  clear hb2
  generalize numT a = t1 at *
  generalize numT b = t2 at *
  clear ha hb
  have hl : Op.bytesLess t1 t2 = decide ((a : Int) < (b : Int)) := Hless.out.trans (by simp)
  go_wp2_with (go_at_call 16; refine (live_any _ (Ht.out.below Hb2.out)).mono ?_; rintro e w3 ⟨rfl, hb3⟩)
  go_ret
  exact ⟨rfl, Below.on Hb2.out hb3⟩

theorem codecCounts_walk (a b : Int) (w : World) (ht : TabAt w) :
    Calls Tryd.prog 7 #[.int .i64 a, .int .i64 b] w fun e w' => e = .returned (.bool true) ∧ Below w.heap.size w w' := by
  by_cases h : (decide (a < 0) || decide (b < 0) || decide (4611686018427387904 < a) || decide (4611686018427387904 < b)) = true
  · exact counts_bad a b w ht _ _ _ _ rfl rfl rfl rfl h
  · simp only [Bool.or_eq_true, decide_eq_true_eq] at h
    obtain ⟨m, rfl⟩ : ∃ m : Nat, a = m := ⟨a.toNat, by omega⟩
    obtain ⟨k, rfl⟩ : ∃ k : Nat, b = k := ⟨b.toNat, by omega⟩
    exact counts_good m k (by omega) (by omega) w ht

theorem numR_back (n : Int) (hn : numE n = 0) : toNum (numR n) = (n.toNat, 0) ∧ (n.toNat : Int) = n := by
  unfold numE at hn
  split at hn
  · cases hn
  · rename_i h
    refine ⟨?_, by omega⟩
    unfold numR
    rw [if_neg h]
    exact toNum_numT _ (by omega)

theorem numR_size (n : Int) : (⟨(numR n).toArray⟩ : ByteArray).size ≤ maxLen := by
  unfold numR
  split
  · decide
  · exact numT_size _ (by omega)

theorem numE_cases (n : Int) : numE n = 0 ∨ numE n = 2 := by unfold numE; split <;> simp

set_option maxHeartbeats 1000000 in
theorem codecNumbers_walk (n : Int) (s : ByteArray) (hs : s.size ≤ maxLen) (w : World) (ht : TabAt w) :
    Calls Tryd.prog 5 #[.int .i64 n, .string s] w fun e w' => e = .returned (.bool true) ∧ Below w.heap.size w w' := by
  have Ht := hid ht
  have Hs := hid hs
  have Hback := hid (numR_back n)
  have Hsz := hid (numR_size n)
  have Hcases := hid (numE_cases n)
  clear ht hs
  go_enter Tryd.func5, Tryd.ntmps5
  go_wp2_with fail
  refine (number_any n _ Ht.out).mono ?_
  rintro e w1 ⟨rfl, hb1⟩
  have Hb1 := hid hb1
  clear hb1
  go_wp2_with fail
  refine (refNumber_all n _).mono ?_
  rintro e w2 ⟨rfl, hb2⟩
  have Hb2 := hid (Below.on Hb1.out hb2)
  clear hb2
  go_wp2_with fail
  refine (toNumber_any s _ Hs.out).mono ?_
  rintro e w3 ⟨rfl, hw⟩
  rw [hw]; clear hw w3
  go_wp2_with fail
  refine (refToNumber_any s _ Hs.out).mono ?_
  rintro e w3 ⟨rfl, hw⟩
  rw [hw]; clear hw w3
  go_wp2_with fail
  refine (toNumber_any _ _ Hsz.out).mono ?_
  rintro e w3 ⟨rfl, hw⟩
  rw [hw]; clear hw w3
  generalize toNum s.data.toList = p at *
  have Hq : Hid (numE n = 0 → toNum (⟨(numR n).toArray⟩ : ByteArray).data.toList = (n.toNat, 0) ∧ (n.toNat : Int) = n) := Hback.out
  generalize toNum (⟨(numR n).toArray⟩ : ByteArray).data.toList = q at *
  generalize numR n = t at *
  generalize numE n = k at *
  go_wp2_with fail
  refine (live_any _ (Ht.out.below Hb2.out)).mono ?_
  rintro e w3 ⟨rfl, hb3⟩
  have Hb3 := hid (Below.on Hb2.out hb3)
  clear hb3
  rcases Hcases.out with hk | hk
  · obtain ⟨hq, hn⟩ := Hq.out hk
    clear Hback Hq Hcases
    generalize n.toNat = m at hq hn
    subst hn
    rw [hk, hq]
    clear hk hq
    go_wp2_with (first | (go_at_call 27; refine (isName_any s _ Hs.out).mono ?_; rintro e w4 ⟨rfl, hw⟩; rw [hw]; clear hw w4) | (go_at_call 28; refine (refIsName_any s _ Hs.out).mono ?_; rintro e w5 ⟨rfl, hw⟩; rw [hw]; clear hw w5))
    go_ret
    exact ⟨rfl, Hb3.out⟩
  · rw [hk]
    clear hk Hback Hq Hcases
    go_wp2_with (first | (go_at_call 27; refine (isName_any s _ Hs.out).mono ?_; rintro e w4 ⟨rfl, hw⟩; rw [hw]; clear hw w4) | (go_at_call 28; refine (refIsName_any s _ Hs.out).mono ?_; rintro e w5 ⟨rfl, hw⟩; rw [hw]; clear hw w5))
    go_ret
    exact ⟨rfl, Hb3.out⟩
end Go.Proofs.YtpdknoldcaaboaaDoor
