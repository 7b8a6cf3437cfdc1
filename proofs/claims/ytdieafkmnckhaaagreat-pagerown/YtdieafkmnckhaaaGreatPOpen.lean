/- open of law 4. -/
import Derived.Test.YtdieafkmnckhaaaGreatPNew
namespace Go.Proofs.YtdieafkmnckhaaaGreat
open Go.RowKit Go.Maps Go.Sort Go.Shelf
set_option linter.unusedVariables false
set_option maxRecDepth 20000
set_option maxHeartbeats 400000 in
theorem refPgNew_ok (w : World) (l mo : Nat) (h1 : 1 ≤ mo) (h2 : mo ≤ 64) :
    Calls Tryz.prog 51 #[.pointer (some ⟨l, 0, none⟩), .int .i64 (mo : Int)] w fun e w' => ∃ q, e = .returned (.tuple #[.pointer (some ⟨q, 0, none⟩), .int .i64 0]) ∧ Below w.heap.size w w' := by
  have g1 : decide ((mo : Int) < 1) = false := decide_eq_false (by omega)
  have g2 : decide ((64 : Int) < (mo : Int)) = false := decide_eq_false (by omega)
  go_enter Tryz.func51, Tryz.ntmps51
  go_wp2
  go_ret2
  exact ⟨_, rfl, (Below.refl _ w).alloc (Nat.le_refl _) _⟩
/-- a new cache over a new disk -/
def Open4 (S mo : Nat) (w : World) (e : Ending) (w' : World) : Prop :=
  ∃ p m q, e = .returned (.tuple #[.pointer (some ⟨p, 0, none⟩), .pointer (some ⟨q, 0, none⟩), .bool true]) ∧ PgMem w' p m (newS S 11 0 0 [] [] mo) ∧ Below w.heap.size w w' ∧ ∀ k, allB p m (newS S 11 0 0 [] [] mo) k → w.heap.size ≤ k
set_option maxHeartbeats 1600000 in
theorem lawOpen04 (w : World) (S mo : Nat) (hS : 2 ≤ S) (h2 : S + 12 ≤ 1024) (hm1 : 1 ≤ mo) (hm2 : mo ≤ 64) :
    Calls Tryz.prog 12 #[.int .i64 (S : Int), .int .i64 (mo : Int)] w (Open4 S mo w) := by
  obtain ⟨n, hn⟩ : ∃ n, n = S + 12 := ⟨_, rfl⟩
  have Hn := hid hn
  have hw : IntKind.i64.wrap ((S : Int) + 12) = (n : Int) := by rw [IntKind.wrap_i64]; omega
  rw [← hn] at h2
  clear hn
  have h1 : 1 ≤ n := by have := Hn.out; omega
  have Hnn : Hid (n = S + 1 + 11) := by show _ = _; have := Hn.out; omega
  go_enter Tryz.func12, Tryz.ntmps12
  go_wp2_with (fail)
  refine (new_ok n w h1 h2).mono ?_
  rintro e w1 ⟨d0, g0, cap0, rfl, hD, hb1⟩
  have HD := hid hD
  have Hb1 := hid hb1
  clear hD hb1
  go_wp2_with (fail)
  refine (refNew_ok n w1 h1 h2).mono ?_
  rintro e w2 ⟨r, F, vs, rfl, hR, hb2⟩
  have HR := hid hR
  have HD2 := hid (HD.out.below hb2)
  have Hb2 := hid (Hb1.out.trans (hb2.mono Hb1.out.size))
  clear hR hb2 HD Hb1
  have Ho := hid (open_ok HD2.out S 0 11 [] (by exact inv_new n S 11 Hnn.out hS (by omega) h2) (by omega) (by simp))
  go_wp2_with (fail)
  refine Ho.out.mono ?_
  rintro e w3 ⟨l, d, g, cap, mb, n0, rfl, hn0, hM, hb3⟩
  obtain rfl : n0 = 0 := by
    have : usedOf [] = 0 := rfl
    omega
  have HM := hid (hM.mono Hb2.out.size)
  have HR3 := hid (HR.out.below hb3)
  have Hb3 := hid (Hb2.out.trans (hb3.mono Hb2.out.size))
  clear hM hb3 HR HD2 Ho Hb2
  go_wp2_with (fail)
  refine (refOpen_zero HR3.out S 11 Hnn.out hS (by omega) h2).mono ?_
  rintro e w4 ⟨m, rfl, hb4⟩
  have HM4 := hid (HM.out.below hb4)
  have Hb4 := hid (Hb3.out.trans (hb4.mono Hb3.out.size))
  clear hb4 HM Hb3 HR3
  have hA : At1 w4 0 S 11 0 l d g cap mb 0 (.slice none 0 0) 0 [] [] := by
    have h0 := HM4.out.mono (B' := 0) (Nat.zero_le _)
    rw [Hnn.out] at h0
    exact ⟨h0, inv_new _ S 11 rfl hS (by omega) (by have := Hn.out; omega), Nat.le_refl _, Nat.zero_le _, Nat.zero_le _⟩
  have HN := hid (pgNew_ok hA (by omega) mo hm1 hm2)
  go_wp2_with (fail)
  refine HN.out.mono ?_
  rintro e w5 ⟨p, pm, rfl, hP, hb5, hfr, hl5⟩
  have HP := hid hP
  have Hb5 := hid (Hb4.out.trans (hb5.mono Hb4.out.size))
  have Hfr := hid hfr
  clear hP hb5 hfr HN
  go_wp2_with (fail)
  refine (refPgNew_ok w5 m mo hm1 hm2).mono ?_
  rintro e w6 ⟨q, rfl, hb6⟩
  have HP6 := hid (HP.out.below hb6)
  have Hb6 := hid (Hb5.out.trans (hb6.mono Hb5.out.size))
  clear hb6
  go_wp2
  go_ret3
  refine ⟨p, pm, q, by simp, HP6.out, Hb6.out, fun k hk => ?_⟩
  rcases Hfr.out k hk with hk | hk
  · exact (HM4.out.lts k hk).1
  · have := Hb4.out.size; omega
end Go.Proofs.YtdieafkmnckhaaaGreat
