/- refuse of package wal, where the first page's number is one, by contracts. -/
import Derived.Test.YtcaifnenejjfaaaWHas
namespace Go.Proofs.Ytcaifnenejjfaaa
open Go.RowKit Go.Maps
set_option linter.unusedVariables false
set_option maxRecDepth 20000

set_option maxHeartbeats 1600000 in
theorem refuse_last {w : World} {B l d g cap mb n : Nat} {v : Value} {S G U : Nat} {pl : Nat → Option Nat} {ps : List (List UInt8)} {ch : List (Nat × List UInt8)} (h : LogMem w B l d g cap mb n v S G U pl ps ch) (P : Nat) (hl : ps.length = S + 1 + P) (hm : ps.length ≤ 1024) (s : List PgV) (gb c j : Nat) (hs : PgsAt w gb 0 s) (hj : s.length = j + 1) (hj2 : j ≤ 99) (m m' : Int) (hm0 : ∀ h : 0 < s.length, s[0].1 = m) (hmj : ∀ h : j < s.length, s[j].1 = m') (hok : 0 ≤ m ∧ m < (P : Int)) (hbad : m' < 0 ∨ (P : Int) ≤ m') :
    Calls Try.prog 34 #[.pointer (some ⟨l, 0, none⟩), .slice (some ⟨gb, 0, none⟩) (j + 1) c] w fun e w' => e = .returned (.int .i64 2) ∧ Below w.heap.size w w' := by
  have c2 := h.c2
  have c3 := h.c3
  have H := hid h
  have k1 : w.cell? ⟨gb, 0, none⟩ = some (.int .i64 m) := by
    have := (hs 0 (by omega)).1
    rw [hm0 (by omega)] at this
    exact this
  have k2 : w.cell? ⟨gb, j * 2, none⟩ = some (.int .i64 m') := by
    have := (hs j (by omega)).1
    rw [hmj (by omega), Nat.zero_add] at this
    exact this
  have Hhas1 := hid (has_true h P hl hm m hok)
  have Hhas2 := hid (has_false h P hl hm m' hbad)
  have g0 : (0 : Int) < (j : Int) + 1 := by omega
  have g1 : (j : Int) < (j : Int) + 1 := by omega
  have g4 : ¬ (j : Int) + 1 ≤ (j : Int) := by omega
  have g5 : ¬ (j : Int) < 0 := by omega
  have g6 : IntKind.i64.wrap ((j : Int) + 1 - 1) = (j : Int) := by rw [IntKind.wrap_i64]; omega
  have g7 : IntKind.i64.wrap (j : Int) = (j : Int) := by rw [IntKind.wrap_i64]; omega
  clear h hs hm0 hbad hok hmj hj
  go_enter Try.func34, Try.ntmps34
  go_wp2
  go_region_held3 (fun w9 => w9.cell? ⟨l, 2, none⟩ = some (.pointer (some ⟨d, 0, none⟩)) ∧ w9.cell? ⟨l, 3, none⟩ = some (.int .i64 (S : Int)) ∧ w9.cell? ⟨gb, 0, none⟩ = some (.int .i64 m) ∧ w9.cell? ⟨gb, j * 2, none⟩ = some (.int .i64 m')) (first | exact ⟨c2, c3, k1, k2⟩ | exact q2.out | exact q.out)
    (first
      | ((go_at_call 25; refine (Hhas1.out _ ?_).mono ?_; exact (Below.refl _ w).drew; rintro e w1 ⟨rfl, hb1'⟩; have hb1 := undrew1 hb1'; have Hb1 := hid hb1; have H1 := hid (H.out.below hb1); have q := hid (And.intro H1.out.c2 (And.intro H1.out.c3 (And.intro ((hb1.cell (World.block_lt_of_cell? _ _ k1)).trans k1) ((hb1.cell (World.block_lt_of_cell? _ _ k2)).trans k2)))); clear hb1 hb1' Hhas1))
      | ((go_at_call 25; refine (Hhas2.out _ ?_).mono ?_; exact Hb1.out; rintro e w2 ⟨rfl, hb2⟩; have Hb2 := hid hb2; have H2 := hid (H1.out.below hb2); have q2 := hid (And.intro H2.out.c2 (And.intro H2.out.c3 (And.intro ((hb2.cell (World.block_lt_of_cell? _ _ q.out.2.2.1)).trans q.out.2.2.1) ((hb2.cell (World.block_lt_of_cell? _ _ q.out.2.2.2)).trans q.out.2.2.2)))); clear hb2)))
  clear c2 c3 k1 k2 q q2
  go_wp2
  go_ret
  exact ⟨rfl, Hb1.out.trans (Hb2.out.mono Hb1.out.size)⟩

/-- a page of a sorted group that is not such as it must be -/
def BadPg (s : List PgV) (k : Nat) : Prop := ∃ h : k < s.length, (∃ i, ∃ hi : k = i + 1, s[k].1 = (s[i]'(by omega)).1) ∨ s[k].2.2.1 ≠ 256
/-- what refuse tells of a sorted group whose numbers are pages -/
def RefPost (S U : Nat) (s : List PgV) (w : World) (e : Ending) (w' : World) : Prop :=
  ((e = .returned (.int .i64 3) ∧ ∃ k, BadPg s k) ∨ ((∀ k, ¬ BadPg s k) ∧ e = .returned (.int .i64 (if (S : Int) - (U : Int) < (s.length : Int) + 1 then 7 else 0)))) ∧ Below w.heap.size w w'

set_option maxHeartbeats 1600000 in
theorem refuse_rest {w : World} {B l d g cap mb n : Nat} {v : Value} {S G U : Nat} {pl : Nat → Option Nat} {ps : List (List UInt8)} {ch : List (Nat × List UInt8)} (h : LogMem w B l d g cap mb n v S G U pl ps ch) (P : Nat) (hl : ps.length = S + 1 + P) (hm : ps.length ≤ 1024) (hU : U ≤ S) (s : List PgV) (gb c j : Nat) (hs : PgsAt w gb 0 s) (hj : s.length = j + 1) (hj2 : j ≤ 99) (m m' : Int) (hm0 : ∀ h : 0 < s.length, s[0].1 = m) (hmj : ∀ h : j < s.length, s[j].1 = m') (hok : 0 ≤ m ∧ m < (P : Int)) (hok' : 0 ≤ m' ∧ m' < (P : Int)) :
    Calls Try.prog 34 #[.pointer (some ⟨l, 0, none⟩), .slice (some ⟨gb, 0, none⟩) (j + 1) c] w (RefPost S U s w) := by
  have c2 := h.c2
  have c3 := h.c3
  have H := hid h
  have k1 : w.cell? ⟨gb, 0, none⟩ = some (.int .i64 m) := by
    have := (hs 0 (by omega)).1
    rw [hm0 (by omega)] at this
    exact this
  have k2 : w.cell? ⟨gb, j * 2, none⟩ = some (.int .i64 m') := by
    have := (hs j (by omega)).1
    rw [hmj (by omega), Nat.zero_add] at this
    exact this
  have Hhas1 := hid (has_true h P hl hm m hok)
  have Hhas2 := hid (has_true h P hl hm m' hok')
  have g0 : (0 : Int) < (j : Int) + 1 := by omega
  have g1 : (j : Int) < (j : Int) + 1 := by omega
  have g4 : ¬ (j : Int) + 1 ≤ (j : Int) := by omega
  have g5 : ¬ (j : Int) < 0 := by omega
  have g6 : IntKind.i64.wrap ((j : Int) + 1 - 1) = (j : Int) := by rw [IntKind.wrap_i64]; omega
  have g7 : IntKind.i64.wrap (j : Int) = (j : Int) := by rw [IntKind.wrap_i64]; omega
  have Hs := hid hs
  have Hj := hid hj
  have Hl := hid hl
  clear h hs hm0 hok' hok hmj hj hl
  go_enter Try.func34, Try.ntmps34
  go_wp2
  go_region_held3 (fun w9 => w9.cell? ⟨l, 2, none⟩ = some (.pointer (some ⟨d, 0, none⟩)) ∧ w9.cell? ⟨l, 3, none⟩ = some (.int .i64 (S : Int)) ∧ w9.cell? ⟨gb, 0, none⟩ = some (.int .i64 m) ∧ w9.cell? ⟨gb, j * 2, none⟩ = some (.int .i64 m')) (first | exact ⟨c2, c3, k1, k2⟩ | exact q2.out | exact q.out)
    (first
      | ((go_at_call 25; refine (Hhas1.out _ ?_).mono ?_; exact (Below.refl _ w).drew; rintro e w1 ⟨rfl, hb1'⟩; have hb1 := undrew1 hb1'; have Hb1 := hid hb1; have H1 := hid (H.out.below hb1); have q := hid (And.intro H1.out.c2 (And.intro H1.out.c3 (And.intro ((hb1.cell (World.block_lt_of_cell? _ _ k1)).trans k1) ((hb1.cell (World.block_lt_of_cell? _ _ k2)).trans k2)))); clear hb1 hb1' Hhas1))
      | ((go_at_call 25; refine (Hhas2.out _ ?_).mono ?_; exact Hb1.out; rintro e w2 ⟨rfl, hb2⟩; have Hb2 := hid hb2; have H2 := hid (H1.out.below hb2); have q2 := hid (And.intro H2.out.c2 (And.intro H2.out.c3 (And.intro ((hb2.cell (World.block_lt_of_cell? _ _ q.out.2.2.1)).trans q.out.2.2.1) ((hb2.cell (World.block_lt_of_cell? _ _ q.out.2.2.2)).trans q.out.2.2.2)))); clear hb2)))
  have HbA := hid (Hb1.out.trans (Hb2.out.mono Hb1.out.size))
  clear c2 c3 k1 k2 q q2 Hb1 Hb2 H1 H2 Hhas2
  go_wp2
  go_loopw [34] (fun i wr => ∃ k : Nat, k ≤ j + 1 ∧ i = .int .i64 k ∧ (∀ q, q < k → ¬ BadPg s q) ∧ Below w.heap.size w wr) (fun i _ => j + 1 - (intOf i).toNat)
  case atStart => exact ⟨0, Nat.zero_le _, rfl, fun q hq => absurd hq (Nat.not_lt_zero _), HbA.out⟩
  case round =>
    obtain ⟨k, hk, rfl, hpre, hbel⟩ := hrel
    have Hpre := hid hpre
    have Hbel := hid hbel
    clear hpre hbel HbA
    by_cases hlt : k < j + 1
    · have hks : k < s.length := by rw [Hj.out]; exact hlt
      have hgb : gb < w.heap.size := World.block_lt_of_cell? _ _ (Hs.out k hks).1
      have HsR := hid (Hs.out.keep (Hbel.out.block gb hgb))
      have e0 := (HsR.out k hks).1
      have e1 := (HsR.out k hks).2
      rw [Nat.zero_add] at e0 e1
      have Hdup : Hid (∀ i, k = i + 1 → ∃ y, wr.cell? ⟨gb, i * 2, none⟩ = some (.int .i64 y) ∧ (s[k].1 = y → BadPg s k) ∧ (s[k].1 ≠ y → s[k].2.2.1 = 256 → ¬ BadPg s k)) := fun i hi => by
        have his : i < s.length := by omega
        have := (HsR.out i his).1
        rw [Nat.zero_add] at this
        refine ⟨_, this, fun e => ⟨hks, .inl ⟨i, hi, e⟩⟩, fun hne h256 => ?_⟩
        rintro ⟨_, ⟨i', hi', e'⟩ | h'⟩
        · obtain rfl : i' = i := by omega
          exact hne e'
        · exact h' h256
      have Hlen : Hid (s[k].2.2.1 ≠ 256 → BadPg s k) := fun h => ⟨hks, .inr h⟩
      have Hzero : Hid (k = 0 → s[k].2.2.1 = 256 → ¬ BadPg s k) := fun h0 h256 => by
        rintro ⟨_, ⟨i', hi', e'⟩ | h'⟩
        · omega
        · exact h' h256
      have Hnext : Hid (¬ BadPg s k → ∀ q, q < k + 1 → ¬ BadPg s q) := fun h q hq => by
        rcases Nat.lt_or_ge q k with h1 | h1
        · exact Hpre.out q h1
        · obtain rfl : q = k := by omega
          exact h
      generalize s[k].1 = x at *
      generalize s[k].2.1 = a at *
      generalize s[k].2.2.1 = L at *
      generalize s[k].2.2.2 = cc at *
      have d0 : (0 : Int) ≤ (k : Int) := by omega
      have d1 : (k : Int) < (j : Int) + 1 := by omega
      go_wp2
      have Hb3 := hid (Hbel.out.alloc Hbel.out.size (.cells #[.int .i64 x, .slice a L cc] 48))
      have Hy := hid (heap_alloc_new wr (.cells #[.int .i64 x, .slice a L cc] 48))
      have Hold : Hid (∀ i y, wr.cell? ⟨gb, i * 2, none⟩ = some (.int .i64 y) → (wr.alloc (.cells #[.int .i64 x, .slice a L cc] 48)).cell? ⟨gb, i * 2, none⟩ = some (.int .i64 y)) := fun i y h => (World.cell?_alloc_some _ _ _ (by rw [h]; rfl)).trans h
      generalize wr.alloc (.cells #[.int .i64 x, .slice a L cc] 48) = W at *
      generalize wr.heap.size = Y at *
      have y0 := cell_of_row _ _ 0 _ _ _ Hy.out
      have y1 := cell_of_row _ _ 1 _ _ _ Hy.out
      clear e0 e1
      by_cases h256 : L = 256
      · have b1 : ((L : Int) != 256) = false := by rw [bne_eq_false_iff_eq]; omega
        have H256 := hid h256
        clear h256
        by_cases hk0 : k = 0
        · have d6 : ¬ 0 < k := by omega
          have d3 : decide ((0 : Int) < (k : Int)) = false := decide_eq_false (by omega)
          have Hn := hid (Hnext.out (Hzero.out hk0 H256.out))
          clear hk0
          go_quiet (fail)
          go_wp2
          go_roundw
          case rel => exact ⟨k + 1, by omega, by go_num, Hn.out, Hb3.out.trans (below_drewN _ _ _)⟩
          case measure => simp [intOf]; omega
        · obtain ⟨i, hi⟩ : ∃ i, k = i + 1 := ⟨k - 1, by omega⟩
          obtain ⟨y, hy, hyb, hyg⟩ := Hdup.out i hi
          have d5 : 0 < k := by omega
          have d3 : decide ((0 : Int) < (k : Int)) = true := decide_eq_true (by omega)
          have p0 : (0 : Int) ≤ (k : Int) - 1 := by omega
          have p1 : (k : Int) - 1 < (j : Int) + 1 := by omega
          have p2 : IntKind.i64.wrap ((k : Int) - 1) = (k : Int) - 1 := by rw [IntKind.wrap_i64]; omega
          have hy' : W.cell? ⟨gb, (k - 1) * 2, none⟩ = some (.int .i64 y) := by rw [show k - 1 = i by omega]; exact Hold.out i y hy
          have Hyb := hid hyb
          have Hyg := hid hyg
          clear hy hyb hyg hi hk0
          by_cases hxy : x = y
          · have b2 : (x == y) = true := by rw [beq_iff_eq]; exact hxy
            have Hbad := hid (Hyb.out hxy)
            clear hxy
            go_quiet (fail)
            go_wp2
            go_ret
            exact ⟨.inl ⟨rfl, _, Hbad.out⟩, Hb3.out.trans (below_drewN _ _ _)⟩
          · have b2 : (x == y) = false := by rw [beq_eq_false_iff_ne]; exact hxy
            have Hn := hid (Hnext.out (Hyg.out hxy H256.out))
            clear hxy
            go_quiet (fail)
            go_wp2
            go_roundw
            case rel => exact ⟨k + 1, by omega, by go_num, Hn.out, Hb3.out.trans (below_drewN _ _ _)⟩
            case measure => simp [intOf]; omega
      · have b1 : ((L : Int) != 256) = true := by rw [bne_iff_ne]; omega
        have Hbad := hid (Hlen.out h256)
        clear h256
        by_cases hk0 : k = 0
        · have d6 : ¬ 0 < k := by omega
          have d3 : decide ((0 : Int) < (k : Int)) = false := decide_eq_false (by omega)
          clear hk0
          go_quiet (fail)
          go_wp2
          go_ret
          exact ⟨.inl ⟨rfl, _, Hbad.out⟩, Hb3.out.trans (below_drewN _ _ _)⟩
        · obtain ⟨i, hi⟩ : ∃ i, k = i + 1 := ⟨k - 1, by omega⟩
          obtain ⟨y, hy, hyb, hyg⟩ := Hdup.out i hi
          have d5 : 0 < k := by omega
          have d3 : decide ((0 : Int) < (k : Int)) = true := decide_eq_true (by omega)
          have p0 : (0 : Int) ≤ (k : Int) - 1 := by omega
          have p1 : (k : Int) - 1 < (j : Int) + 1 := by omega
          have p2 : IntKind.i64.wrap ((k : Int) - 1) = (k : Int) - 1 := by rw [IntKind.wrap_i64]; omega
          have hy' : W.cell? ⟨gb, (k - 1) * 2, none⟩ = some (.int .i64 y) := by rw [show k - 1 = i by omega]; exact Hold.out i y hy
          clear hy hyb hyg hi hk0
          by_cases hxy : x = y
          · have b2 : (x == y) = true := by rw [beq_iff_eq]; exact hxy
            clear hxy
            go_quiet (fail)
            go_wp2
            go_ret
            exact ⟨.inl ⟨rfl, _, Hbad.out⟩, Hb3.out.trans (below_drewN _ _ _)⟩
          · have b2 : (x == y) = false := by rw [beq_eq_false_iff_ne]; exact hxy
            clear hxy
            go_quiet (fail)
            go_wp2
            go_ret
            exact ⟨.inl ⟨rfl, _, Hbad.out⟩, Hb3.out.trans (below_drewN _ _ _)⟩
    · have e : k = j + 1 := by omega
      have Hall : Hid (∀ q, ¬ BadPg s q) := fun q hq => by
        obtain ⟨hq', _⟩ := id hq
        exact Hpre.out q (by rw [Hj.out] at hq'; omega) hq
      have HM := hid (H.out.below Hbel.out)
      have Hfr := hid (free_any HM.out hU (by have := Hl.out; omega))
      have Hne : Hid (needOf ((j : Int) + 1) = (j : Int) + 2) := by show _ = _; unfold needOf; rw [if_neg (by omega)]; omega
      have Hsl : Hid ((s.length : Int) + 1 = (j : Int) + 2) := by show _ = _; rw [Hj.out]; omega
      clear e
      by_cases hfull : (S : Int) - (U : Int) < (j : Int) + 2
      · go_wp2_with (first | (go_at_call 12; refine Hfr.out.mono ?_; rintro e w5 ⟨rfl, m5, rfl⟩) | (go_at_call 16; refine (need_any _ _).mono ?_; rw [Hne.out]; rintro e w6 ⟨rfl, rfl⟩))
        go_ret
        exact ⟨.inr ⟨Hall.out, by rw [Hsl.out, if_pos (by omega)]; rfl⟩, Hbel.out.trans (below_drewN _ _ _)⟩
      · go_wp2_with (first | (go_at_call 12; refine Hfr.out.mono ?_; rintro e w5 ⟨rfl, m5, rfl⟩) | (go_at_call 16; refine (need_any _ _).mono ?_; rw [Hne.out]; rintro e w6 ⟨rfl, rfl⟩))
        go_ret
        exact ⟨.inr ⟨Hall.out, by rw [Hsl.out, if_neg (by omega)]; rfl⟩, Hbel.out.trans (below_drewN _ _ _)⟩
end Go.Proofs.Ytcaifnenejjfaaa
