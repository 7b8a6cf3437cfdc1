/- YthdcjepkehifoaaGreatWHas + YthdcjepkehifoaaGreatWRefuse2 + YthdcjepkehifoaaGreatWWrite + YthdcjepkehifoaaGreatWGroup + YthdcjepkehifoaaGreatWCommit + YthdcjepkehifoaaGreatWRefuse + YthdcjepkehifoaaGreatWCommit2 -/
import Derived.Test.YthdcjepkehifoaaGreatWSort
/- Whether a log's disk has a page, as refuse asks it. -/
namespace Go.Proofs.YthdcjepkehifoaaGreat
open Go.RowKit Go.Maps
set_option linter.unusedVariables false
set_option maxRecDepth 20000

theorem has_false {w : World} {B l d g cap mb n : Nat} {v : Value} {S G U : Nat} {pl : Nat → Option Nat} {ps : List (List UInt8)} {ch : List (Nat × List UInt8)} (H : LogMem w B l d g cap mb n v S G U pl ps ch) (P : Nat) (hl : ps.length = S + 1 + P) (hm : ps.length ≤ 1024) (m : Int) (hbad : m < 0 ∨ (P : Int) ≤ m) :
    ∀ u, Below w.heap.size w u → Calls Tryz.prog 81 #[.agg #[.pointer (some ⟨d, 0, none⟩), .int .i64 (S : Int)], .int .i64 m] u fun e w' => e = .returned (.bool false) ∧ Below u.heap.size u w' := fun u hu => by
  have h := has_any (H.below hu).disk S P hl hm m
  rw [decide_eq_false (show ¬ ((0 : Int) ≤ m ∧ m < (P : Int)) by omega)] at h
  exact h
theorem has_true {w : World} {B l d g cap mb n : Nat} {v : Value} {S G U : Nat} {pl : Nat → Option Nat} {ps : List (List UInt8)} {ch : List (Nat × List UInt8)} (H : LogMem w B l d g cap mb n v S G U pl ps ch) (P : Nat) (hl : ps.length = S + 1 + P) (hm : ps.length ≤ 1024) (m : Int) (hok : 0 ≤ m ∧ m < (P : Int)) :
    ∀ u, Below w.heap.size w u → Calls Tryz.prog 81 #[.agg #[.pointer (some ⟨d, 0, none⟩), .int .i64 (S : Int)], .int .i64 m] u fun e w' => e = .returned (.bool true) ∧ Below u.heap.size u w' := fun u hu => by
  have h := has_any (H.below hu).disk S P hl hm m
  rw [decide_eq_true hok] at h
  exact h
end Go.Proofs.YthdcjepkehifoaaGreat

/- refuse of package wal, where the first page's number is one, by contracts. -/
namespace Go.Proofs.YthdcjepkehifoaaGreat
open Go.RowKit Go.Maps
set_option linter.unusedVariables false
set_option maxRecDepth 20000

set_option maxHeartbeats 1600000 in
theorem refuse_last {w : World} {B l d g cap mb n : Nat} {v : Value} {S G U : Nat} {pl : Nat → Option Nat} {ps : List (List UInt8)} {ch : List (Nat × List UInt8)} (h : LogMem w B l d g cap mb n v S G U pl ps ch) (P : Nat) (hl : ps.length = S + 1 + P) (hm : ps.length ≤ 1024) (s : List PgV) (gb c j : Nat) (hs : PgsAt w gb 0 s) (hj : s.length = j + 1) (hj2 : j ≤ 99) (m m' : Int) (hm0 : ∀ h : 0 < s.length, s[0].1 = m) (hmj : ∀ h : j < s.length, s[j].1 = m') (hok : 0 ≤ m ∧ m < (P : Int)) (hbad : m' < 0 ∨ (P : Int) ≤ m') :
    Calls Tryz.prog 101 #[.pointer (some ⟨l, 0, none⟩), .slice (some ⟨gb, 0, none⟩) (j + 1) c] w fun e w' => e = .returned (.int .i64 2) ∧ Below w.heap.size w w' := by
  have c2 := h.c2
  have c3 := h.c3
  have H := hid h
  have k1 : w.cell? ⟨gb, 0, none⟩ = some (.int .i64 m) := by
    have := (hs 0 (by omega)).1
    rw [hm0 (by omega)] at this
    exact this
  have k2 : w.cell? ⟨gb, j * 2, none⟩ = some (.int .i64 m') := by
    have := (hs j (by omega)).1
    rw [hmj (by omega), Nat.zero_add] at this
    exact this
  have Hhas1 := hid (has_true h P hl hm m hok)
  have Hhas2 := hid (has_false h P hl hm m' hbad)
  have g0 : (0 : Int) < (j : Int) + 1 := by omega
  have g1 : (j : Int) < (j : Int) + 1 := by omega
  have g4 : ¬ (j : Int) + 1 ≤ (j : Int) := by omega
  have g5 : ¬ (j : Int) < 0 := by omega
  have g6 : IntKind.i64.wrap ((j : Int) + 1 - 1) = (j : Int) := by rw [IntKind.wrap_i64]; omega
  have g7 : IntKind.i64.wrap (j : Int) = (j : Int) := by rw [IntKind.wrap_i64]; omega
  clear h hs hm0 hbad hok hmj hj
  go_enter Tryz.func101, Tryz.ntmps101
  go_wp2
  go_region_held3 (fun w9 => w9.cell? ⟨l, 2, none⟩ = some (.pointer (some ⟨d, 0, none⟩)) ∧ w9.cell? ⟨l, 3, none⟩ = some (.int .i64 (S : Int)) ∧ w9.cell? ⟨gb, 0, none⟩ = some (.int .i64 m) ∧ w9.cell? ⟨gb, j * 2, none⟩ = some (.int .i64 m')) (first | exact ⟨c2, c3, k1, k2⟩ | exact q2.out | exact q.out)
    (first
      | ((go_at_call 81; refine (Hhas1.out _ ?_).mono ?_; exact (Below.refl _ w).drew; rintro e w1 ⟨rfl, hb1'⟩; have hb1 := undrew1 hb1'; have Hb1 := hid hb1; have H1 := hid (H.out.below hb1); have q := hid (And.intro H1.out.c2 (And.intro H1.out.c3 (And.intro ((hb1.cell (World.block_lt_of_cell? _ _ k1)).trans k1) ((hb1.cell (World.block_lt_of_cell? _ _ k2)).trans k2)))); clear hb1 hb1' Hhas1))
      | ((go_at_call 81; refine (Hhas2.out _ ?_).mono ?_; exact Hb1.out; rintro e w2 ⟨rfl, hb2⟩; have Hb2 := hid hb2; have H2 := hid (H1.out.below hb2); have q2 := hid (And.intro H2.out.c2 (And.intro H2.out.c3 (And.intro ((hb2.cell (World.block_lt_of_cell? _ _ q.out.2.2.1)).trans q.out.2.2.1) ((hb2.cell (World.block_lt_of_cell? _ _ q.out.2.2.2)).trans q.out.2.2.2)))); clear hb2)))
  clear c2 c3 k1 k2 q q2
  go_wp2
  go_ret
  exact ⟨rfl, Hb1.out.trans (Hb2.out.mono Hb1.out.size)⟩

/-- a page of a sorted group that is not such as it must be -/
def BadPg (s : List PgV) (k : Nat) : Prop := ∃ h : k < s.length, (∃ i, ∃ hi : k = i + 1, s[k].1 = (s[i]'(by omega)).1) ∨ s[k].2.2.1 ≠ 256
/-- what refuse tells of a sorted group whose numbers are pages -/
def RefPost (S U : Nat) (s : List PgV) (w : World) (e : Ending) (w' : World) : Prop :=
  ((e = .returned (.int .i64 3) ∧ ∃ k, BadPg s k) ∨ ((∀ k, ¬ BadPg s k) ∧ e = .returned (.int .i64 (if (S : Int) - (U : Int) < (s.length : Int) + 1 then 7 else 0)))) ∧ Below w.heap.size w w'

set_option maxHeartbeats 1600000 in
theorem refuse_rest {w : World} {B l d g cap mb n : Nat} {v : Value} {S G U : Nat} {pl : Nat → Option Nat} {ps : List (List UInt8)} {ch : List (Nat × List UInt8)} (h : LogMem w B l d g cap mb n v S G U pl ps ch) (P : Nat) (hl : ps.length = S + 1 + P) (hm : ps.length ≤ 1024) (hU : U ≤ S) (s : List PgV) (gb c j : Nat) (hs : PgsAt w gb 0 s) (hj : s.length = j + 1) (hj2 : j ≤ 99) (m m' : Int) (hm0 : ∀ h : 0 < s.length, s[0].1 = m) (hmj : ∀ h : j < s.length, s[j].1 = m') (hok : 0 ≤ m ∧ m < (P : Int)) (hok' : 0 ≤ m' ∧ m' < (P : Int)) :
    Calls Tryz.prog 101 #[.pointer (some ⟨l, 0, none⟩), .slice (some ⟨gb, 0, none⟩) (j + 1) c] w (RefPost S U s w) := by
  have c2 := h.c2
  have c3 := h.c3
  have H := hid h
  have k1 : w.cell? ⟨gb, 0, none⟩ = some (.int .i64 m) := by
    have := (hs 0 (by omega)).1
    rw [hm0 (by omega)] at this
    exact this
  have k2 : w.cell? ⟨gb, j * 2, none⟩ = some (.int .i64 m') := by
    have := (hs j (by omega)).1
    rw [hmj (by omega), Nat.zero_add] at this
    exact this
  have Hhas1 := hid (has_true h P hl hm m hok)
  have Hhas2 := hid (has_true h P hl hm m' hok')
  have g0 : (0 : Int) < (j : Int) + 1 := by omega
  have g1 : (j : Int) < (j : Int) + 1 := by omega
  have g4 : ¬ (j : Int) + 1 ≤ (j : Int) := by omega
  have g5 : ¬ (j : Int) < 0 := by omega
  have g6 : IntKind.i64.wrap ((j : Int) + 1 - 1) = (j : Int) := by rw [IntKind.wrap_i64]; omega
  have g7 : IntKind.i64.wrap (j : Int) = (j : Int) := by rw [IntKind.wrap_i64]; omega
  have Hs := hid hs
  have Hj := hid hj
  have Hl := hid hl
  clear h hs hm0 hok' hok hmj hj hl
  go_enter Tryz.func101, Tryz.ntmps101
  go_wp2
  go_region_held3 (fun w9 => w9.cell? ⟨l, 2, none⟩ = some (.pointer (some ⟨d, 0, none⟩)) ∧ w9.cell? ⟨l, 3, none⟩ = some (.int .i64 (S : Int)) ∧ w9.cell? ⟨gb, 0, none⟩ = some (.int .i64 m) ∧ w9.cell? ⟨gb, j * 2, none⟩ = some (.int .i64 m')) (first | exact ⟨c2, c3, k1, k2⟩ | exact q2.out | exact q.out)
    (first
      | ((go_at_call 81; refine (Hhas1.out _ ?_).mono ?_; exact (Below.refl _ w).drew; rintro e w1 ⟨rfl, hb1'⟩; have hb1 := undrew1 hb1'; have Hb1 := hid hb1; have H1 := hid (H.out.below hb1); have q := hid (And.intro H1.out.c2 (And.intro H1.out.c3 (And.intro ((hb1.cell (World.block_lt_of_cell? _ _ k1)).trans k1) ((hb1.cell (World.block_lt_of_cell? _ _ k2)).trans k2)))); clear hb1 hb1' Hhas1))
      | ((go_at_call 81; refine (Hhas2.out _ ?_).mono ?_; exact Hb1.out; rintro e w2 ⟨rfl, hb2⟩; have Hb2 := hid hb2; have H2 := hid (H1.out.below hb2); have q2 := hid (And.intro H2.out.c2 (And.intro H2.out.c3 (And.intro ((hb2.cell (World.block_lt_of_cell? _ _ q.out.2.2.1)).trans q.out.2.2.1) ((hb2.cell (World.block_lt_of_cell? _ _ q.out.2.2.2)).trans q.out.2.2.2)))); clear hb2)))
  have HbA := hid (Hb1.out.trans (Hb2.out.mono Hb1.out.size))
  clear c2 c3 k1 k2 q q2 Hb1 Hb2 H1 H2 Hhas2
  go_wp2
  go_loopw [34] (fun i wr => ∃ k : Nat, k ≤ j + 1 ∧ i = .int .i64 k ∧ (∀ q, q < k → ¬ BadPg s q) ∧ Below w.heap.size w wr) (fun i _ => j + 1 - (intOf i).toNat)
  case atStart => exact ⟨0, Nat.zero_le _, rfl, fun q hq => absurd hq (Nat.not_lt_zero _), HbA.out⟩
  case round =>
    obtain ⟨k, hk, rfl, hpre, hbel⟩ := hrel
    have Hpre := hid hpre
    have Hbel := hid hbel
    clear hpre hbel HbA
    by_cases hlt : k < j + 1
    · have hks : k < s.length := by rw [Hj.out]; exact hlt
      have hgb : gb < w.heap.size := World.block_lt_of_cell? _ _ (Hs.out k hks).1
      have HsR := hid (Hs.out.keep (Hbel.out.block gb hgb))
      have e0 := (HsR.out k hks).1
      have e1 := (HsR.out k hks).2
      rw [Nat.zero_add] at e0 e1
      have Hdup : Hid (∀ i, k = i + 1 → ∃ y, wr.cell? ⟨gb, i * 2, none⟩ = some (.int .i64 y) ∧ (s[k].1 = y → BadPg s k) ∧ (s[k].1 ≠ y → s[k].2.2.1 = 256 → ¬ BadPg s k)) := fun i hi => by
        have his : i < s.length := by omega
        have := (HsR.out i his).1
        rw [Nat.zero_add] at this
        refine ⟨_, this, fun e => ⟨hks, .inl ⟨i, hi, e⟩⟩, fun hne h256 => ?_⟩
        rintro ⟨_, ⟨i', hi', e'⟩ | h'⟩
        · obtain rfl : i' = i := by omega
          exact hne e'
        · exact h' h256
      have Hlen : Hid (s[k].2.2.1 ≠ 256 → BadPg s k) := fun h => ⟨hks, .inr h⟩
      have Hzero : Hid (k = 0 → s[k].2.2.1 = 256 → ¬ BadPg s k) := fun h0 h256 => by
        rintro ⟨_, ⟨i', hi', e'⟩ | h'⟩
        · omega
        · exact h' h256
      have Hnext : Hid (¬ BadPg s k → ∀ q, q < k + 1 → ¬ BadPg s q) := fun h q hq => by
        rcases Nat.lt_or_ge q k with h1 | h1
        · exact Hpre.out q h1
        · obtain rfl : q = k := by omega
          exact h
      generalize s[k].1 = x at *
      generalize s[k].2.1 = a at *
      generalize s[k].2.2.1 = L at *
      generalize s[k].2.2.2 = cc at *
      have d0 : (0 : Int) ≤ (k : Int) := by omega
      have d1 : (k : Int) < (j : Int) + 1 := by omega
      go_wp2
      have Hb3 := hid (Hbel.out.alloc Hbel.out.size (.cells #[.int .i64 x, .slice a L cc] 94))
      have Hy := hid (heap_alloc_new wr (.cells #[.int .i64 x, .slice a L cc] 94))
      have Hold : Hid (∀ i y, wr.cell? ⟨gb, i * 2, none⟩ = some (.int .i64 y) → (wr.alloc (.cells #[.int .i64 x, .slice a L cc] 94)).cell? ⟨gb, i * 2, none⟩ = some (.int .i64 y)) := fun i y h => (World.cell?_alloc_some _ _ _ (by rw [h]; rfl)).trans h
      generalize wr.alloc (.cells #[.int .i64 x, .slice a L cc] 94) = W at *
      generalize wr.heap.size = Y at *
      have y0 := cell_of_row _ _ 0 _ _ _ Hy.out
      have y1 := cell_of_row _ _ 1 _ _ _ Hy.out
      clear e0 e1
      by_cases h256 : L = 256
      · have b1 : ((L : Int) != 256) = false := by rw [bne_eq_false_iff_eq]; omega
        have H256 := hid h256
        clear h256
        by_cases hk0 : k = 0
        · have d6 : ¬ 0 < k := by omega
          have d3 : decide ((0 : Int) < (k : Int)) = false := decide_eq_false (by omega)
          have Hn := hid (Hnext.out (Hzero.out hk0 H256.out))
          clear hk0
          go_quiet (fail)
          go_wp2
          go_roundw
          case rel => exact ⟨k + 1, by omega, by go_num, Hn.out, Hb3.out.trans (below_drewN _ _ _)⟩
          case measure => simp [intOf]; omega
        · obtain ⟨i, hi⟩ : ∃ i, k = i + 1 := ⟨k - 1, by omega⟩
          obtain ⟨y, hy, hyb, hyg⟩ := Hdup.out i hi
          have d5 : 0 < k := by omega
          have d3 : decide ((0 : Int) < (k : Int)) = true := decide_eq_true (by omega)
          have p0 : (0 : Int) ≤ (k : Int) - 1 := by omega
          have p1 : (k : Int) - 1 < (j : Int) + 1 := by omega
          have p2 : IntKind.i64.wrap ((k : Int) - 1) = (k : Int) - 1 := by rw [IntKind.wrap_i64]; omega
          have hy' : W.cell? ⟨gb, (k - 1) * 2, none⟩ = some (.int .i64 y) := by rw [show k - 1 = i by omega]; exact Hold.out i y hy
          have Hyb := hid hyb
          have Hyg := hid hyg
          clear hy hyb hyg hi hk0
          by_cases hxy : x = y
          · have b2 : (x == y) = true := by rw [beq_iff_eq]; exact hxy
            have Hbad := hid (Hyb.out hxy)
            clear hxy
            go_quiet (fail)
            go_wp2
            go_ret
            exact ⟨.inl ⟨rfl, _, Hbad.out⟩, Hb3.out.trans (below_drewN _ _ _)⟩
          · have b2 : (x == y) = false := by rw [beq_eq_false_iff_ne]; exact hxy
            have Hn := hid (Hnext.out (Hyg.out hxy H256.out))
            clear hxy
            go_quiet (fail)
            go_wp2
            go_roundw
            case rel => exact ⟨k + 1, by omega, by go_num, Hn.out, Hb3.out.trans (below_drewN _ _ _)⟩
            case measure => simp [intOf]; omega
      · have b1 : ((L : Int) != 256) = true := by rw [bne_iff_ne]; omega
        have Hbad := hid (Hlen.out h256)
        clear h256
        by_cases hk0 : k = 0
        · have d6 : ¬ 0 < k := by omega
          have d3 : decide ((0 : Int) < (k : Int)) = false := decide_eq_false (by omega)
          clear hk0
          go_quiet (fail)
          go_wp2
          go_ret
          exact ⟨.inl ⟨rfl, _, Hbad.out⟩, Hb3.out.trans (below_drewN _ _ _)⟩
        · obtain ⟨i, hi⟩ : ∃ i, k = i + 1 := ⟨k - 1, by omega⟩
          obtain ⟨y, hy, hyb, hyg⟩ := Hdup.out i hi
          have d5 : 0 < k := by omega
          have d3 : decide ((0 : Int) < (k : Int)) = true := decide_eq_true (by omega)
          have p0 : (0 : Int) ≤ (k : Int) - 1 := by omega
          have p1 : (k : Int) - 1 < (j : Int) + 1 := by omega
          have p2 : IntKind.i64.wrap ((k : Int) - 1) = (k : Int) - 1 := by rw [IntKind.wrap_i64]; omega
          have hy' : W.cell? ⟨gb, (k - 1) * 2, none⟩ = some (.int .i64 y) := by rw [show k - 1 = i by omega]; exact Hold.out i y hy
          clear hy hyb hyg hi hk0
          by_cases hxy : x = y
          · have b2 : (x == y) = true := by rw [beq_iff_eq]; exact hxy
            clear hxy
            go_quiet (fail)
            go_wp2
            go_ret
            exact ⟨.inl ⟨rfl, _, Hbad.out⟩, Hb3.out.trans (below_drewN _ _ _)⟩
          · have b2 : (x == y) = false := by rw [beq_eq_false_iff_ne]; exact hxy
            clear hxy
            go_quiet (fail)
            go_wp2
            go_ret
            exact ⟨.inl ⟨rfl, _, Hbad.out⟩, Hb3.out.trans (below_drewN _ _ _)⟩
    · have e : k = j + 1 := by omega
      have Hall : Hid (∀ q, ¬ BadPg s q) := fun q hq => by
        obtain ⟨hq', _⟩ := id hq
        exact Hpre.out q (by rw [Hj.out] at hq'; omega) hq
      have HM := hid (H.out.below Hbel.out)
      have Hfr := hid (free_any HM.out hU (by have := Hl.out; omega))
      have Hne : Hid (needOf ((j : Int) + 1) = (j : Int) + 2) := by show _ = _; unfold needOf; rw [if_neg (by omega)]; omega
      have Hsl : Hid ((s.length : Int) + 1 = (j : Int) + 2) := by show _ = _; rw [Hj.out]; omega
      clear e
      by_cases hfull : (S : Int) - (U : Int) < (j : Int) + 2
      · go_wp2_with (first | (go_at_call 21; refine Hfr.out.mono ?_; rintro e w5 ⟨rfl, m5, rfl⟩) | (go_at_call 49; refine (need_any _ _).mono ?_; rw [Hne.out]; rintro e w6 ⟨rfl, rfl⟩))
        go_ret
        exact ⟨.inr ⟨Hall.out, by rw [Hsl.out, if_pos (by omega)]; rfl⟩, Hbel.out.trans (below_drewN _ _ _)⟩
      · go_wp2_with (first | (go_at_call 21; refine Hfr.out.mono ?_; rintro e w5 ⟨rfl, m5, rfl⟩) | (go_at_call 49; refine (need_any _ _).mono ?_; rw [Hne.out]; rintro e w6 ⟨rfl, rfl⟩))
        go_ret
        exact ⟨.inr ⟨Hall.out, by rw [Hsl.out, if_neg (by omega)]; rfl⟩, Hbel.out.trans (below_drewN _ _ _)⟩
end Go.Proofs.YthdcjepkehifoaaGreat

/- A write to a log's disk; writeHead; write of package wal, by contracts. -/
namespace Go.Proofs.YthdcjepkehifoaaGreat
open Go.RowKit Go.Maps
set_option linter.unusedVariables false
set_option maxRecDepth 20000

/-- what becomes of the changes' row -/
def NewV (w : World) (v v' : Value) : Prop := ∀ k, v'.ownBlock = some k → v.ownBlock = some k ∨ w.heap.size ≤ k
theorem NewV.refl (w : World) (v : Value) : NewV w v v := fun k h => .inl h
theorem NewV.trans {w w' : World} {v v' v'' : Value} (h : NewV w v v') (h' : NewV w' v' v'') (hs : w.heap.size ≤ w'.heap.size) : NewV w v v'' := fun k hk => by
  rcases h' k hk with h1 | h1
  · exact h k h1
  · exact .inr (by omega)
theorem NewV.block {w : World} {v v' : Value} {l d g mb k : Nat} (h : NewV w v v') (hk : logBlock l d g mb v' k) : logBlock l d g mb v k ∨ w.heap.size ≤ k := by
  rcases hk with e | e | e | e | e
  · exact .inl (.inl e)
  · exact .inl (.inr (.inl e))
  · exact .inl (.inr (.inr (.inl e)))
  · exact .inl (.inr (.inr (.inr (.inl e))))
  · rcases h k e with h1 | h1
    · exact .inl (.inr (.inr (.inr (.inr h1))))
    · exact .inr h1

theorem logWrite {w : World} {B l d g cap mb n : Nat} {v : Value} {S G U : Nat} {pl : Nat → Option Nat} {fs : List (List UInt8)} {ls : List (Nat × List UInt8)} (h : LogMem w B l d g cap mb n v S G U pl (psOf fs ls) (chOf fs ls)) (m : Nat) (hm : m < fs.length) (x : List UInt8) (hx : x.length = 256) (b o cx : Nat) (hB : Bytes w (some ⟨b, o, none⟩) x) (hap : ¬ logBlock l d g mb v b) (hls : ls.length ≤ 1000000) (hbase : B ≤ w.heap.size) (mI : Int) (hmI : mI = (m : Int)) :
    Calls Tryz.prog 103 #[.pointer (some ⟨d, 0, none⟩), .int .i64 mI, .slice (some ⟨b, o, none⟩) 256 cx] w fun e w' => e = .returned (.int .i64 0) ∧ ∃ v', LogMem w' B l d g cap mb n v' S G U pl (psOf fs (ls ++ [(m, x)])) (chOf fs (ls ++ [(m, x)])) ∧ NewV w v v' ∧ Out (logBlock l d g mb v) w w' := by
  subst hmI
  refine (write_ok h.disk m (by rw [psOf_length]; exact hm) x hx b o cx hB ⟨fun e => hap (.inr (.inl e)), fun e => hap (.inr (.inr (.inl e))), fun e => hap (.inr (.inr (.inr (.inr e.symm))))⟩ (by rw [chOf_length]; exact hls) hbase).mono ?_
  rintro e w' ⟨rfl, v', hD, hv, ho⟩
  have hml := h.mne
  have hlt := fun k hk => (h.lts k hk).2
  refine ⟨rfl, v', ⟨?_, ?_, ?_, h.bl, h.bm, h.ld, h.lg, ?_⟩, ?_, ⟨ho.os, ho.tape, ho.output, ho.size, fun k hk hp => ho.block k hk (fun e => hp (.inr (.inl e))) (fun e => hp (.inr (.inr (.inl e)))) (fun e => hp (.inr (.inr (.inr (.inr e.symm)))))⟩⟩
  · rw [ho.block l (hlt l (.inl rfl)) h.ld h.lg (fun e => h.lv e.symm)]
    exact h.obj
  · rw [psOf_snoc, chOf_snoc]
    have e : (psOf fs ls).getD m [] = (psOf fs ls)[m]'(by rw [psOf_length]; exact hm) := by
      unfold List.getD
      rw [List.getElem?_eq_getElem (by rw [psOf_length]; exact hm)]
      rfl
    rw [e]
    exact hD
  · exact h.map.keep (ho.block mb h.map.lt hml.2.1 hml.2.2.1 (fun e => hml.2.2.2 e.symm))
  · rcases hv with hv | hv
    · rw [hv]; exact h.lv
    · rw [hv]
      intro e
      cases e
      have := hlt _ (.inl rfl)
      omega
  · intro k hk
    rcases hv with hv | hv
    · exact .inl (by rw [← hv]; exact hk)
    · rw [hv] at hk
      cases hk
      exact .inr (by omega)

set_option maxHeartbeats 800000 in
theorem writeHead_any {w : World} {B l d g cap mb n : Nat} {v : Value} {S G U : Nat} {pl : Nat → Option Nat} {fs : List (List UInt8)} {ls : List (Nat × List UInt8)} (h : LogMem w B l d g cap mb n v S G U pl (psOf fs ls) (chOf fs ls)) (hG : G < 9223372036854775808) (hU : U < 65536) (hfs : 0 < fs.length) (hls : ls.length ≤ 1000000) (hbase : B ≤ w.heap.size) :
    Calls Tryz.prog 105 #[.pointer (some ⟨l, 0, none⟩)] w fun e w' => e = .returned (.tuple #[]) ∧ ∃ v', LogMem w' B l d g cap mb n v' S G U pl (psOf fs (ls ++ [(0, headB G U)])) (chOf fs (ls ++ [(0, headB G U)])) ∧ NewV w v v' ∧ Out (logBlock l d g mb v) w w' := by
  have c0 := h.c0
  have c1 := h.c1
  have c2 := h.c2
  have H := hid h
  clear h
  go_enter Tryz.func105, Tryz.ntmps105
  go_wp2
  go_region_held3 (fun w9 => w9.cell? ⟨l, 0, none⟩ = some (.int .i64 (G : Int)) ∧ w9.cell? ⟨l, 1, none⟩ = some (.int .i64 (U : Int)) ∧ w9.cell? ⟨l, 2, none⟩ = some (.pointer (some ⟨d, 0, none⟩))) (first | exact ⟨c0, c1, c2⟩ | exact q2.out | exact q.out)
    (first
      | ((go_at_call 149; refine (headBytes_any G U _ hG hU).mono ?_; rintro e w1 ⟨g1, c1', rfl, ho1, hb1'⟩; have hb1 := undrew1 hb1'; have Hb1 := hid hb1; have H1 := hid (H.out.below hb1); have q := hid (And.intro H1.out.c0 (And.intro H1.out.c1 H1.out.c2)); have Hw := hid (logWrite H1.out 0 hfs (headB G U) (headB_length G U) g1 0 c1' (bytes_of_row ho1 (headB_length G U)) (fun hh => by have h1 := (H.out.lts _ hh).2; have h2 := (ho1.lt g1 rfl).1; have h3 : w.drew.heap.size = w.heap.size := rfl; omega) hls (Nat.le_trans hbase hb1.size) 0 rfl); clear hb1 hb1' ho1))
      | ((go_at_call 103; refine Hw.out.mono ?_; rintro e w2 ⟨rfl, v', hM2, hn2, ho2⟩; have H2 := hid hM2; have q2 := hid (And.intro hM2.c0 (And.intro hM2.c1 hM2.c2)); have Hn2 := hid hn2; have Ho2 := hid ho2; clear hM2 hn2 ho2)))
  clear c0 c1 c2 q q2 Hw
  go_wp2
  go_end0
  refine ⟨rfl, v', H2.out, fun k hk => (Hn2.out k hk).imp id (fun h => Nat.le_trans Hb1.out.size h), (Out.of_below Hb1.out).trans Ho2.out (fun _ _ e => e)⟩
end Go.Proofs.YthdcjepkehifoaaGreat

/- write of package wal: a group's blocks, by a contract. -/
namespace Go.Proofs.YthdcjepkehifoaaGreat
open Go.RowKit Go.Maps
set_option linter.unusedVariables false
set_option maxRecDepth 20000

/-- the bytes that a page leads to -/
def bytesAt (w : World) (p : PgV) : List UInt8 := (List.range p.2.2.1).map fun i => match p.2.1 with
  | some ⟨b, o, _⟩ => (match w.cell? ⟨b, o + i, none⟩ with | some (.int _ x) => UInt8.ofNat x.toNat | _ => 0)
  | none => 0
theorem bytesAt_length (w : World) (p : PgV) : (bytesAt w p).length = p.2.2.1 := by simp [bytesAt]
theorem bytesAt_eq {w : World} {m : Int} {b o c : Nat} {x : List UInt8} (h : Bytes w (some ⟨b, o, none⟩) x) : bytesAt w (m, some ⟨b, o, none⟩, x.length, c) = x := by
  apply List.ext_getElem (by rw [bytesAt_length])
  intro i h1 h2
  obtain ⟨b', o', e, hc⟩ := h i h2
  cases e
  simp [bytesAt, hc]
theorem bytesAt_keep {w w' : World} {p : PgV} (h : ∀ b o t, p.2.1 = some ⟨b, o, t⟩ → w'.heap[b]? = w.heap[b]?) : bytesAt w' p = bytesAt w p := by
  unfold bytesAt
  apply List.map_congr_left
  intro i _
  cases hp : p.2.1 with
  | none => rfl
  | some a =>
    obtain ⟨b, o, t⟩ := a
    dsimp only
    rw [World.cell?_of_block (a := ⟨b, o + i, none⟩) (h b o t hp)]

/-- a page whose bytes lie outside of some blocks -/
def PgOk (w : World) (F : Nat → Prop) (p : PgV) : Prop := ∃ b o, p.2.1 = some ⟨b, o, none⟩ ∧ p.2.2.1 = 256 ∧ Bytes w (some ⟨b, o, none⟩) (bytesAt w p) ∧ ¬ F b ∧ b < w.heap.size
theorem PgOk.keep {w w' : World} {F F' : Nat → Prop} {p : PgV} (h : PgOk w F p) (ho : Out F w w') (hF : ∀ k, k < w.heap.size → F' k → F k) : PgOk w' F' p ∧ bytesAt w' p = bytesAt w p := by
  obtain ⟨b, o, h1, h2, h3, h4, h5⟩ := h
  have hb : w'.heap[b]? = w.heap[b]? := ho.block b h5 h4
  have e : bytesAt w' p = bytesAt w p := bytesAt_keep fun b' o' t e => by
    rw [h1] at e
    cases e
    exact hb
  exact ⟨⟨b, o, h1, h2, by rw [e]; exact h3.keep hb, fun h => h4 (hF b h5 h), Nat.lt_of_lt_of_le h5 ho.size⟩, e⟩

/-- a group's numbers -/
def numsP (s : List PgV) : List Nat := s.map fun p => p.1.toNat
theorem numsP_length (s : List PgV) : (numsP s).length = s.length := by simp [numsP]
theorem numsP_get (s : List PgV) (i : Nat) (h : i < (numsP s).length) : (numsP s)[i] = (s[i]'(by rw [numsP_length] at h; exact h)).1.toNat := by simp [numsP]

theorem LogMem.setG {w : World} {B l d g cap mb n : Nat} {v : Value} {S G U : Nat} {pl : Nat → Option Nat} {ps : List (List UInt8)} {ch : List (Nat × List UInt8)} (h : LogMem w B l d g cap mb n v S G U pl ps ch) (G' : Nat) :
    LogMem (w.setCell ⟨l, 0, none⟩ (.int .i64 (G' : Int))) B l d g cap mb n v S G' U pl ps ch ∧ Out (fun k => k = l) w (w.setCell ⟨l, 0, none⟩ (.int .i64 (G' : Int))) := by
  have o : ∀ k, k ≠ l → (w.setCell ⟨l, 0, none⟩ (.int .i64 (G' : Int))).heap[k]? = w.heap[k]? := fun k hk => heap_setCell_other _ _ _ _ hk
  have s : (w.setCell ⟨l, 0, none⟩ (.int .i64 (G' : Int))).heap.size = w.heap.size := by simp [World.setCell]
  refine ⟨⟨?_, h.disk.keep (o d (Ne.symm h.ld)) (o g (Ne.symm h.lg)) (fun k e => o k (fun e' => h.lv (by rw [e, e']))), h.map.keep (o mb h.mne.1), h.bl, h.bm, h.ld, h.lg, h.lv⟩, ⟨rfl, rfl, rfl, Nat.le_of_eq s.symm, fun k hk hp => o k hp⟩⟩
  rw [heap_setCell_same w l 0 _ _ (.int .i64 (G' : Int)) h.obj]
  simp

set_option maxHeartbeats 3200000 in
theorem write_any' {w : World} {B l d g cap mb n : Nat} {v : Value} {S G U : Nat} {pl : Nat → Option Nat} {fs : List (List UInt8)} {ls : List (Nat × List UInt8)} (h : LogMem w B l d g cap mb n v S G U pl (psOf fs ls) (chOf fs ls)) (P : Nat) (hl : fs.length = S + 1 + P) (hm : fs.length ≤ 1024) (s : List PgV) (gb c j : Nat) (hs : PgsAt w gb 0 s) (hj : s.length = j + 1) (hj2 : j ≤ 99) (hgb : ¬ logBlock l d g mb v gb) (hok : ∀ p ∈ s, PgOk w (logBlock l d g mb v) p) (hr : ∀ p ∈ s, 0 ≤ p.1 ∧ p.1 < (P : Int)) (hup : s.Pairwise (fun a b => a.1 < b.1)) (hU : U + j + 2 ≤ S) (hG : G + 1 < 9223372036854775808) (hls : ls.length ≤ 900000) (hn : n ≤ 1000000) (hbase : B ≤ w.heap.size) :
    Calls Tryz.prog 102 #[.pointer (some ⟨l, 0, none⟩), .slice (some ⟨gb, 0, none⟩) (j + 1) c] w fun e w' => e = .returned (.tuple #[]) ∧ ∃ v', LogMem w' B l d g cap mb (n + s.length) v' S (G + 1) (U + s.length + 1) (noted pl (U + 2) (numsP s)) (psOf fs (ls ++ commitWs U G (numsP s) (s.map (bytesAt w)))) (chOf fs (ls ++ commitWs U G (numsP s) (s.map (bytesAt w)))) ∧ NewV w v v' ∧ Out (logBlock l d g mb v) w w' := by
  obtain ⟨i0, hi, hz0, hz1, hz2⟩ := info_parts Tryz.info3
  have H := hid h
  have Hs := hid hs
  have Hj := hid hj
  have Hgb := hid hgb
  have Hok := hid hok
  have Hr := hid hr
  have Hup := hid hup
  have Hl := hid hl
  have hgw : gb < w.heap.size := World.block_lt_of_cell? _ _ (hs 0 (by omega)).1
  obtain ⟨N, hN⟩ : ∃ N, N = numsP s := ⟨_, rfl⟩
  have HN := hid hN
  have Hnl : Hid (N.length = j + 1) := by show _ = _; rw [hN, numsP_length, hj]
  clear h hs hj hgb hok hr hup hl hN
  go_enter Tryz.func102, Tryz.ntmps102
  go_wp2_with (at_make; refine wpList_make_full _ rfl _ _ 30 rfl w.heap.size 3 i0 (.int .i64 0) 1 Tryz.underlying30 hi hz0 hz1 .i64 .i64 _ _ (j + 1) rfl rfl (by omega) (by omega) (by rw [hz2]; omega) (by unfold maxLen; omega) (by simp) ?_; intro w0 hown0 hgrow0; have Hown0 := hid hown0; have Hb0 := hid ((Below.refl _ w).grown hgrow0 (Nat.le_refl _) (by simp)); clear hown0 hgrow0)
  have Hst : Hid (w0.ownsRow w.heap.size 3 1 (.slice (some ⟨w.heap.size, 0, none⟩) (j + 1) (j + 1)) (j + 1) (nums (filled N 0))) := by
    have h := Hown0.out
    rw [made_nums] at h
    have e : filled N 0 = List.replicate (j + 1) 0 := by unfold filled; rw [Hnl.out]; rfl
    rw [e]; exact h
  clear Hown0
  go_loopw [14] (fun i wr => ∃ k : Nat, k ≤ j + 1 ∧ i = .int .i64 k ∧ wr.ownsRow w.heap.size 3 1 (.slice (some ⟨w.heap.size, 0, none⟩) (j + 1) (j + 1)) (j + 1) (nums (filled N k)) ∧ Below w.heap.size w wr) (fun i _ => j + 1 - (intOf i).toNat)
  case atStart => exact ⟨0, Nat.zero_le _, rfl, Hst.out, Hb0.out⟩
  case round =>
    obtain ⟨k, hk, rfl, hown, hbel⟩ := hrel
    have Hown := hid hown
    have Hbel := hid hbel
    clear hown hbel Hst Hb0
    by_cases hlt : k < j + 1
    · have hks : k < s.length := by rw [Hj.out]; exact hlt
      have hkn : k < N.length := by rw [Hnl.out]; exact hlt
      have HsR := hid (Hs.out.keep (Hbel.out.block gb hgw))
      have e0 := (HsR.out k hks).1
      have e1 := (HsR.out k hks).2
      rw [Nat.zero_add] at e0 e1
      have hlen : Hid ((filled N k).length = j + 1) := by show _ = _; rw [filled_length _ _ (by omega), Hnl.out]
      have ex : s[k].1 = (N[k] : Int) := by
        have h1 := Hr.out _ (List.getElem_mem hks)
        have h2 : N[k] = (s[k]).1.toNat := by
          have := HN.out
          subst this
          exact numsP_get s k hkn
        omega
      rw [ex] at e0
      have Hfs := hid (filled_set N k hkn)
      have Hn6 : N[k] < 65536 := by have := Hr.out _ (List.getElem_mem hks); have := Hl.out; omega
      generalize N[k] = x at *
      generalize s[k].2.1 = a at *
      generalize s[k].2.2.1 = L at *
      generalize s[k].2.2.2 = cc at *
      have HownA := hid (Hown.out.alloc (.cells #[.int .i64 (x : Int), .slice a L cc] 94))
      have c1 := (HownA.out.cellAt k (by omega)).trans (nums_get _ k (by rw [hlen.out]; exact hlt))
      have z1 := HownA.out.frozenAt k
      have Hsd := hid (HownA.out.stored k (.int .i64 (x : Int)))
      rw [nums_set, Hfs.out] at Hsd
      have HbA := hid (Hbel.out.alloc Hbel.out.size (.cells #[.int .i64 (x : Int), .slice a L cc] 94))
      generalize ((filled N k)[k]'(by rw [hlen.out]; exact hlt)) = c0 at c1
      have d0 : (0 : Int) ≤ (k : Int) := by omega
      have d1 : (k : Int) < (j : Int) + 1 := by omega
      clear ex hks hkn
      go_wp2
      go_roundw
      case rel => exact ⟨k + 1, by omega, by go_num, Hsd.out.1, HbA.out.grown Hsd.out.2 HbA.out.size (by simp)⟩
      case measure => simp [intOf]; omega
    · have Ho1 : Hid (wr.ownsRow w.heap.size 3 1 (.slice (some ⟨w.heap.size, 0, none⟩) (j + 1) (j + 1)) (j + 1) (nums N)) := by
        have h := Hown.out
        rw [show k = N.length by rw [Hnl.out]; omega, filled_all] at h
        exact h
      have H1 := hid (H.out.below Hbel.out)
      have c2 := H1.out.c2
      clear Hown
      have Hnums1 : Hid (Nums wr (some ⟨w.heap.size, 0, none⟩) N) := fun i hi => by
        refine ⟨w.heap.size, 0, rfl, ?_⟩
        rw [Nat.zero_add, Ho1.out.cellAt i (by rw [Hnl.out] at hi; omega), nums_get N i hi]
      have Hnlt : Hid (∀ x ∈ N, x < 65536) := fun x hx => by
        obtain ⟨i, hi, rfl⟩ := List.getElem_of_mem hx
        have e := HN.out
        have h2 : N[i] = (s[i]'(by rw [Hj.out]; rw [Hnl.out] at hi; exact hi)).1.toNat := by subst e; exact numsP_get s i hi
        have := Hr.out _ (List.getElem_mem (show i < s.length by rw [Hj.out]; rw [Hnl.out] at hi; exact hi))
        have := Hl.out
        omega
      have hXw : w.heap.size < wr.heap.size := (Ho1.out.lt _ rfl).2
      have Hnx := hid (next_any (H1.out.keep (w' := wr.drew) (fun _ _ => rfl)) (by have := Hl.out; omega))
      have Hix : Hid (Calls Tryz.prog 146 #[.slice (some ⟨w.heap.size, 0, none⟩) (j + 1) (j + 1)] wr.drew fun e w' => ∃ g c, e = .returned (.slice (some ⟨g, 0, none⟩) 256 c) ∧ w'.ownsRow wr.heap.size 5 1 (.slice (some ⟨g, 0, none⟩) 256 c) 256 (cellsOf (indexB N)) ∧ Below wr.heap.size wr w') := by
        have h := indexBytes_any N (some ⟨w.heap.size, 0, none⟩) (j + 1) wr.drew (fun i hi => Hnums1.out i hi) (by rw [Hnl.out]; omega) Hnlt.out
        rw [Hnl.out] at h
        exact h.mono fun e w' hh => by obtain ⟨g, c, h1, h2, h3⟩ := hh; exact ⟨g, c, h1, h2, undrew1 h3⟩
      have Hl256 := hid (indexB_length N (by rw [Hnl.out]; omega))
      go_wp2
      go_region_held3 (fun w9 => w9.cell? ⟨l, 2, none⟩ = some (.pointer (some ⟨d, 0, none⟩))) (first | exact c2 | exact q2.out | exact q.out)
        (first
          | ((go_at_call 139; refine Hnx.out.mono ?_; rintro e w3 ⟨rfl, rfl⟩))
          | ((go_at_call 146; refine Hix.out.mono ?_; rintro e w4 ⟨g4, c4, rfl, ho4, hb4⟩; have H4 := hid (H1.out.below hb4); have q := hid H4.out.c2; have Hb4 := hid hb4; have Hw4 := hid (fun mI hmI => logWrite H4.out (U + 1) (by have := Hl.out; omega) (indexB N) Hl256.out g4 0 c4 (bytes_of_row ho4 Hl256.out) (fun hh => by have h1 := (H1.out.lts _ hh).2; have h2 := (ho4.lt g4 rfl).1; omega) (by omega) (Nat.le_trans hbase (Nat.le_trans Hbel.out.size hb4.size)) mI hmI); clear ho4 hb4))
          | ((go_at_call 103; refine (Hw4.out _ (by omega)).mono ?_; rintro e w5 ⟨rfl, v5, hM5, hn5, ho5⟩; have H5 := hid hM5; have q2 := hid hM5.c2; have Hn5 := hid hn5; have Ho5 := hid ho5; clear hM5 hn5 ho5)))
      clear c2 q q2 Hnx Hix Hw4
      have HX5 : Hid (w5.ownsRow w.heap.size 3 1 (.slice (some ⟨w.heap.size, 0, none⟩) (j + 1) (j + 1)) (j + 1) (nums N)) := by
        refine own_keep (own_below Ho1.out Hb4.out) fun k hk => ?_
        cases hk
        exact Ho5.out.block _ (Nat.lt_of_lt_of_le hXw Hb4.out.size) (fun hh => Nat.lt_irrefl _ (H.out.lts _ hh).2)
      have Hall5 : Hid (NewV w v v5 ∧ v5.ownBlock ≠ some w.heap.size ∧ Out (logBlock l d g mb v) w w5 ∧ w.heap.size < w5.heap.size) := by
        refine ⟨fun k hk => (Hn5.out k hk).imp id (fun h => Nat.le_trans (Nat.le_trans Hbel.out.size Hb4.out.size) h), fun e => ?_, ((Out.of_below Hbel.out).trans (Out.of_below (P := fun _ => False) Hb4.out) (fun _ _ e => e.elim)).trans Ho5.out (fun _ _ e => e), Nat.lt_of_lt_of_le hXw (Nat.le_trans Hb4.out.size Ho5.out.size)⟩
        rcases Hn5.out _ e with h | h
        · have := (H.out.lts _ (.inr (.inr (.inr (.inr h))))).2; omega
        · have := Hb4.out.size; omega
      have Hxs : Hid ((s.map (bytesAt w)).length = j + 1) := by show _ = _; rw [List.length_map, Hj.out]
      clear Hbel H1 Ho1 Hnums1 Hb4 H4 Hn5 Ho5
      go_wp2
      go_loopw [37] (fun i wr => ∃ k : Nat, k ≤ j + 1 ∧ i = .int .i64 k ∧ ∃ vk, LogMem wr B l d g cap mb n vk S G U pl (psOf fs (ls ++ ((U + 1, indexB N) :: putAt (U + 2) ((s.map (bytesAt w)).take k)))) (chOf fs (ls ++ ((U + 1, indexB N) :: putAt (U + 2) ((s.map (bytesAt w)).take k)))) ∧ wr.ownsRow w.heap.size 3 1 (.slice (some ⟨w.heap.size, 0, none⟩) (j + 1) (j + 1)) (j + 1) (nums N) ∧ (NewV w v vk ∧ vk.ownBlock ≠ some w.heap.size ∧ Out (logBlock l d g mb v) w wr ∧ w.heap.size < wr.heap.size)) (fun i _ => j + 1 - (intOf i).toNat)
      case atStart => exact ⟨0, Nat.zero_le _, rfl, v5, H5.out, HX5.out, Hall5.out⟩
      case round =>
        obtain ⟨k2, hk2, rfl, vk, hM, hX, hA⟩ := hrel
        have HM := hid hM
        have HX := hid hX
        have HA := hid hA
        clear hM hX hA H5 HX5 Hall5
        by_cases hlt2 : k2 < j + 1
        · have hks : k2 < s.length := by rw [Hj.out]; exact hlt2
          have hkx : k2 < (s.map (bytesAt w)).length := by rw [Hxs.out]; exact hlt2
          have HsR := hid (Hs.out.keep (HA.out.2.2.1.block gb hgw Hgb.out))
          have e0 := (HsR.out k2 hks).1
          have e1 := (HsR.out k2 hks).2
          rw [Nat.zero_add] at e0 e1
          have hpk := (Hok.out _ (List.getElem_mem hks)).keep HA.out.2.2.1 (F' := logBlock l d g mb vk) (fun k hk hb => (HA.out.1.block hb).resolve_right (by omega))
          obtain ⟨⟨pb, po, hp1, hp2, hp3, hp4, hp5⟩, hpe⟩ := hpk
          have Hx : Hid ((s.map (bytesAt w)).take (k2 + 1) = (s.map (bytesAt w)).take k2 ++ [bytesAt w s[k2]]) := by
            show _ = _
            rw [List.take_succ_eq_append_getElem hkx, List.getElem_map]
          have hl256 : (bytesAt w s[k2]).length = 256 := by rw [bytesAt_length]; exact hp2
          rw [hpe] at hp3
          rw [hp1, hp2] at e1
          have Hp3 := hid hp3
          have Hp4 := hid hp4
          have Hl2 := hid hl256
          generalize s[k2].1 = x at *
          generalize s[k2].2.2.2 = cc at *
          generalize bytesAt w s[k2] = xb at *
          clear hp1 hp2 hp3 hp4 hpe hks hkx hl256
          have d0 : (0 : Int) ≤ (k2 : Int) := by omega
          have d1 : (k2 : Int) < (j : Int) + 1 := by omega
          go_wp2
          have HbA := hid ((Below.refl _ wr).alloc (Nat.le_refl _) (.cells #[.int .i64 x, .slice (some ⟨pb, po, none⟩) 256 cc] 94))
          have Hy := hid (heap_alloc_new wr (.cells #[.int .i64 x, .slice (some ⟨pb, po, none⟩) 256 cc] 94))
          generalize wr.alloc (.cells #[.int .i64 x, .slice (some ⟨pb, po, none⟩) 256 cc] 94) = W at *
          have HMW := hid (HM.out.below HbA.out)
          have y1 := cell_of_row _ _ 1 _ _ _ Hy.out
          have l2 := HMW.out.c2
          have Hnx := hid (next_any (HMW.out.keep (w' := W.drew) (fun _ _ => rfl)) (by have := Hl.out; omega))
          have HpW : Hid (Bytes W.drew (some ⟨pb, po, none⟩) xb) := fun i hi => Hp3.out.below HbA.out i hi
          have Hwr := hid (fun mI hmI => logWrite (HMW.out.keep (w' := W.drew) (fun _ _ => rfl)) (U + 2 + k2) (by have := Hl.out; omega) xb Hl2.out pb po cc HpW.out Hp4.out (by rw [List.length_append, List.length_cons, putAt_length, List.length_take]; omega) (Nat.le_trans hbase (Nat.le_trans HA.out.2.2.1.size HbA.out.size)) mI hmI)
          generalize hY : wr.heap.size = Y at *
          have Hsz := hid hY
          clear hY
          have f1 : IntKind.i64.wrap (1 + (U : Int) + 1) = 1 + (U : Int) + 1 := by rw [IntKind.wrap_i64]; have := Hl.out; omega
          have f2 : IntKind.i64.wrap (1 + (U : Int) + 1 + (k2 : Int)) = 1 + (U : Int) + 1 + (k2 : Int) := by rw [IntKind.wrap_i64]; have := Hl.out; omega
          clear e0 e1
          go_region_held3 (fun w9 => w9.cell? ⟨l, 2, none⟩ = some (.pointer (some ⟨d, 0, none⟩)) ∧ w9.cell? ⟨Y, 1, none⟩ = some (.slice (some ⟨pb, po, none⟩) 256 cc)) (first | exact ⟨l2, y1⟩ | exact q2.out)
            (first
              | ((go_at_call 139; refine Hnx.out.mono ?_; rintro e w3 ⟨rfl, rfl⟩))
              | ((go_at_call 103; refine (Hwr.out _ (by omega)).mono ?_; rintro e w6 ⟨rfl, v6, hM6, hn6, ho6'⟩; have ho6 := ho6'.undrew; have hyl : Y < W.heap.size := World.block_lt_of_cell? _ _ y1; have hyn : ¬ logBlock l d g mb vk Y := (fun hh => by have := (HM.out.lts _ hh).2; have := Hsz.out; omega); have q2 := hid (And.intro hM6.c2 ((World.cell?_of_block (a := ⟨Y, 1, none⟩) (ho6.block Y hyl hyn)).trans y1)); have H6 := hid hM6; have Hn6 := hid hn6; have Ho6 := hid ho6; clear hM6 hn6 ho6 ho6' hyl hyn)))
          clear l2 y1 q2 Hnx Hwr
          go_wp2
          go_roundw
          case rel =>
            obtain rfl := Hsz.out
            have hWs : w.heap.size < W.heap.size := Nat.lt_of_lt_of_le HA.out.2.2.2 HbA.out.size
            have hneX : ¬ logBlock l d g mb vk w.heap.size := by
              have a1 := (H.out.lts l (.inl rfl)).2
              have a2 := (H.out.lts d (.inr (.inl rfl))).2
              have a3 := (H.out.lts g (.inr (.inr (.inl rfl)))).2
              have a4 := (H.out.lts mb (.inr (.inr (.inr (.inl rfl))))).2
              rintro (e | e | e | e | e)
              · omega
              · omega
              · omega
              · omega
              · exact HA.out.2.1 e
            refine ⟨k2 + 1, by omega, by go_num, v6, ?_, ?_, ?_, ?_, ?_, ?_⟩
            · have e : ls ++ ((U + 1, indexB N) :: putAt (U + 2) ((s.map (bytesAt w)).take (k2 + 1))) = ls ++ ((U + 1, indexB N) :: putAt (U + 2) ((s.map (bytesAt w)).take k2)) ++ [(U + 2 + k2, xb)] := by
                rw [Hx.out, putAt_snoc, List.length_take, Hxs.out, show min k2 (j + 1) = k2 by omega]
                simp
              rw [e]
              exact H6.out
            · refine own_keep (own_below HX.out HbA.out) fun k hk => ?_
              cases hk
              exact Ho6.out.block _ hWs hneX
            · exact HA.out.1.trans (w' := W) Hn6.out (by omega)
            · intro e
              rcases Hn6.out _ e with h | h
              · exact HA.out.2.1 h
              · have : W.drew.heap.size = W.heap.size := rfl
                omega
            · exact (HA.out.2.2.1.trans (Out.of_below (P := fun _ => False) HbA.out) (fun _ _ e => e.elim)).trans Ho6.out (fun k hk hb => (HA.out.1.block hb).resolve_right (by omega))
            · exact Nat.lt_of_lt_of_le hWs Ho6.out.size
          case measure => simp [intOf]; omega
        · have e2 : k2 = j + 1 := by omega
          have HM2 : Hid (LogMem wr B l d g cap mb n vk S G U pl (psOf fs (ls ++ ((U + 1, indexB N) :: putAt (U + 2) (s.map (bytesAt w))))) (chOf fs (ls ++ ((U + 1, indexB N) :: putAt (U + 2) (s.map (bytesAt w)))))) := by
            have h := HM.out
            rw [List.take_of_length_le (by rw [Hxs.out]; omega)] at h
            exact h
          have Hnums2 : Hid (Nums wr (some ⟨w.heap.size, 0, none⟩) N) := fun i hi => by
            refine ⟨w.heap.size, 0, rfl, ?_⟩
            rw [Nat.zero_add, HX.out.cellAt i (by rw [Hnl.out] at hi; omega), nums_get N i hi]
          have Hnd : Hid (N.Nodup) := by
            have h1 := HN.out
            subst h1
            unfold numsP
            refine List.Pairwise.map (R := fun a b : PgV => a.1 < b.1 ∧ 0 ≤ a.1) _ (fun a b h => by omega) ?_
            refine List.Pairwise.imp_of_mem (fun ha _ h => ⟨h, (Hr.out _ ha).1⟩) Hup.out
          have hXl : w.heap.size ≠ l ∧ w.heap.size ≠ mb := ⟨fun e => absurd (H.out.lts l (.inl rfl)).2 (by omega), fun e => absurd (H.out.lts mb (.inr (.inr (.inr (.inl rfl))))).2 (by omega)⟩
          have Hnt := hid (note_any HM2.out N w.heap.size 0 (j + 1) Hnums2.out Hnd.out (by rw [Hnl.out]; omega) Hnlt.out hXl (by have := Hl.out; omega) hn)
          rw [Hnl.out] at Hnt
          clear HM e2 hXl
          go_wp2_with (go_at_call 141; refine Hnt.out.mono ?_; rintro e w7 ⟨rfl, hM7, ho7⟩; have HM7 := hid hM7; have Ho7 := hid ho7; have g0 := hM7.c0; have z0 := hM7.z 0; have fg : IntKind.i64.wrap ((G : Int) + 1) = (G : Int) + 1 := (by rw [IntKind.wrap_i64]; omega); have hsg := hM7.setG (G + 1); rw [show ((G + 1 : Nat) : Int) = (G : Int) + 1 by omega] at hsg; have Hsg := hid hsg; clear hM7 ho7 hsg)
          have hsz7 : w.heap.size ≤ w7.heap.size := Nat.le_trans HA.out.2.2.1.size Ho7.out.size
          refine (writeHead_any Hsg.out.1 (by omega) (by have := Hl.out; omega) (by have := Hl.out; omega) (by rw [List.length_append, List.length_cons, putAt_length, Hxs.out]; omega) (Nat.le_trans hbase (Nat.le_trans hsz7 Hsg.out.2.size))).mono ?_
          rintro e w9 ⟨rfl, v9, hM9, hn9, ho9⟩
          have HM9 := hid hM9
          have Hn9 := hid hn9
          have Ho9 := hid ho9
          clear hM9 hn9 ho9 g0 z0
          go_wp2
          go_end0
          have e : ls ++ commitWs U G (numsP s) (s.map (bytesAt w)) = ls ++ ((U + 1, indexB N) :: putAt (U + 2) (s.map (bytesAt w))) ++ [(0, headB (G + 1) (U + (j + 1) + 1))] := by
            unfold commitWs
            rw [← HN.out, Hnl.out]
            simp
          refine ⟨rfl, v9, ?_, ?_, ?_⟩
          · rw [e, Hj.out, ← HN.out]
            exact HM9.out
          · exact HA.out.1.trans (w' := w7.setCell ⟨l, 0, none⟩ (.int .i64 ((G : Int) + 1))) Hn9.out (Nat.le_trans hsz7 Hsg.out.2.size)
          · refine ((HA.out.2.2.1.trans Ho7.out (fun k _ h => h.elim (fun e => .inl e) (fun e => .inr (.inr (.inr (.inl e)))))).trans Hsg.out.2 (fun k _ e => .inl e)).trans Ho9.out (fun k hk hb => (HA.out.1.block hb).resolve_right (by omega))
end Go.Proofs.YthdcjepkehifoaaGreat

/- Commit of package wal, by contracts. -/
namespace Go.Proofs.YthdcjepkehifoaaGreat
open Go.RowKit Go.Maps
set_option linter.unusedVariables false
set_option maxRecDepth 20000

theorem Tryz.info94 : (Tryz.prog.info? 94).map (fun i => (i.zero, i.size, i.bytes)) = some (some (.agg #[.int .i64 0, .slice none 0 0]), 2, 32) := by kernel_rfl
/-- pages as cells -/
def pgCells (l : List PgV) : List Value := l.flatMap encPg
theorem pgCells_length (l : List PgV) : (pgCells l).length = l.length * 2 := by
  induction l with
  | nil => rfl
  | cons p l ih => unfold pgCells at *; rw [List.flatMap_cons, List.length_append, ih, List.length_cons]; simp [encPg]; omega
theorem pgCells_get (l : List PgV) (i : Nat) (h : i < l.length) (q : Nat) (hq : q < 2) : (pgCells l)[i * 2 + q]? = (encPg l[i])[q]? := by
  induction l generalizing i with
  | nil => simp at h
  | cons p l ih =>
    unfold pgCells
    rw [List.flatMap_cons]
    have he : (encPg p).length = 2 := rfl
    cases i with
    | zero => rw [List.getElem?_append_left (by rw [he]; omega)]; simp
    | succ i =>
      rw [List.getElem?_append_right (by rw [he]; omega), he, show (i + 1) * 2 + q - 2 = i * 2 + q by omega]
      exact ih i (by simpa using h)
theorem pgCells_one (l : List PgV) : ∀ u ∈ pgCells l, u.oneCell' = true := fun u hu => by
  obtain ⟨p, _, hp⟩ := List.mem_flatMap.1 hu
  exact encPg_one p u hp

set_option maxHeartbeats 800000 in
set_option maxRecDepth 20000 in
theorem clonePg (l : List PgV) (b o cap : Nat) (w : World) (hB : PgsAt w b o l) (h0 : 0 < l.length) (hlen : l.length ≤ 100000) :
    Calls Tryz.prog 97 #[.slice (some ⟨b, o, none⟩) l.length cap] w fun e w' => ∃ g c, e = .returned (.slice (some ⟨g, 0, none⟩) l.length c) ∧ w'.ownsRow w.heap.size 94 2 (.slice (some ⟨g, 0, none⟩) l.length c) l.length (pgCells l) ∧ Below w.heap.size w w' := by
  obtain ⟨i0, hi, hz0, hz1, hz2⟩ := info_parts Tryz.info94
  have q22 : ∀ (w : World) (a : Option Addr) (n c n' c' : Nat), (binOp .eql 67 (.slice a n c) (.slice none n' c')).run Tryz.prog w = .ok (.bool a.isNone) w := fun w a n c n' c' => Lib.run_eql_slice_nil w _ _ a n c n' c' Tryz.underlying67
  have HB := hid hB
  clear hB
  go_enter Tryz.func97, Tryz.ntmps97
  go_wp2_with (at_builtin; refine wpList_append_own _ rfl _ _ 67 rfl w.heap.size 94 i0 _ 2 32 Tryz.underlying67 hi hz0 hz1 hz2 rfl (by decide) _ _ _ rfl (World.ownsRow_made w #[] 0 (Nat.le_refl _) (Nat.zero_le _) rfl) ⟨b, o, none⟩ l.length cap (pgCells l) rfl ?qc1 ?qc2 ?qc3 ?qc4 ?qc5 ?qc6 ?_)
  case qc1 => exact pgCells_length l
  case qc2 =>
    intro j u hj
    have hjn : j < l.length * 2 := by
      have := (List.getElem?_eq_some_iff.1 hj).1
      rw [pgCells_length] at this
      exact this
    have hi2 : j / 2 < l.length := by omega
    have ej : j = j / 2 * 2 + j % 2 := by omega
    rw [ej, pgCells_get l (j / 2) hi2 (j % 2) (by omega)] at hj
    have hc : w.cell? ⟨b, o + j, none⟩ = some u := by
      rcases (show j % 2 = 0 ∨ j % 2 = 1 by omega) with h | h
      · rw [h] at hj
        have := (HB.out (j / 2) hi2).1
        rw [show o + j = o + j / 2 * 2 by omega, this, ← hj]
        rfl
      · rw [h] at hj
        have := (HB.out (j / 2) hi2).2
        rw [show o + j = o + j / 2 * 2 + 1 by omega, this, ← hj]
        rfl
    rw [addr_add]
    exact (World.cell?_alloc_some _ _ _ (by rw [hc]; rfl)).trans hc
  case qc3 => exact pgCells_one l
  case qc4 => unfold maxLen; omega
  case qc5 => omega
  case qc6 => simp
  intro v' w1 hown hgrow hnil
  go_wp2
  go_ret
  have hown' : w1.ownsRow w.heap.size 94 2 v' l.length (pgCells l) := by simpa using hown
  obtain ⟨g', cap', rfl, _, _⟩ := hown'.form h0
  exact ⟨g', cap', rfl, hown', ((Below.refl _ w).alloc (Nat.le_refl _) _).grown hgrow (by simp) (by intro k hk; simp [Value.ownBlock] at hk; omega)⟩

theorem holds_of_row {w : World} {B g c : Nat} {l : List PgV} (h : w.ownsRow B 94 2 (.slice (some ⟨g, 0, none⟩) l.length c) l.length (pgCells l)) : Sort.HoldsK encPg 2 w g 0 l.toArray := by
  intro t ht
  rw [Sort.size_flatK] at ht
  have ht' : t < l.length * 2 := by simpa using ht
  refine ⟨?_, h.frozenAt _⟩
  have e : t = t / 2 * 2 + t % 2 := by omega
  have hi : t / 2 < l.length := by omega
  rw [Nat.zero_add, h.cellAt t (by omega), Sort.get_flatK _ _ _ _ (by simpa using ht)]
  conv => lhs; rw [e]
  rw [pgCells_get l (t / 2) hi (t % 2) (by omega), getElem!_pos l.toArray (t / 2) (by simpa using hi)]
  simp only [List.getElem_toArray, id]
  rcases (show t % 2 = 0 ∨ t % 2 = 1 by omega) with h | h <;> rw [h] <;> rfl

/-- what Commit tells of pages: the error's number -/
def BadRange (P : Nat) (l : List PgV) : Prop := ∃ p ∈ l, p.1 < 0 ∨ (P : Int) ≤ p.1
def BadForm (l : List PgV) : Prop := ¬ (l.map (·.1)).Nodup ∨ ∃ p ∈ l, p.2.2.1 ≠ 256

set_option maxHeartbeats 400000 in
theorem commit_nil (a : Option Addr) (n c : Nat) (w : World) : Calls Tryz.prog 48 #[.pointer none, .slice a n c] w fun e w' => e = .returned (.int .i64 1) ∧ w' = w := by
  go_enter Tryz.func48, Tryz.ntmps48
  go_wp2
  go_ret
  exact ⟨rfl, rfl⟩
set_option maxHeartbeats 400000 in
theorem commit_none (l : Nat) (a : Option Addr) (c : Nat) (w : World) : Calls Tryz.prog 48 #[.pointer (some ⟨l, 0, none⟩), .slice a 0 c] w fun e w' => e = .returned (.int .i64 0) ∧ w' = w := by
  go_enter Tryz.func48, Tryz.ntmps48
  go_wp2
  go_ret
  exact ⟨rfl, rfl⟩
set_option maxHeartbeats 400000 in
theorem commit_long (l : Nat) (a : Option Addr) (n c : Nat) (w : World) (hn : 100 < n) : Calls Tryz.prog 48 #[.pointer (some ⟨l, 0, none⟩), .slice a n c] w fun e w' => e = .returned (.int .i64 6) ∧ w' = w := by
  have d1 : ((n : Int) == 0) = false := by rw [beq_eq_false_iff_ne]; omega
  have d2 : (100 : Int) < (n : Int) := by omega
  go_enter Tryz.func48, Tryz.ntmps48
  go_wp2
  go_ret
  exact ⟨rfl, rfl⟩
end Go.Proofs.YthdcjepkehifoaaGreat

/- refuse of package wal, where the first page's number is none, by a contract. -/
namespace Go.Proofs.YthdcjepkehifoaaGreat
open Go.RowKit Go.Maps
set_option linter.unusedVariables false
set_option maxRecDepth 20000
set_option linter.unusedSimpArgs false

/-- a region that is entered: what is told of a panic does not hang on the frame -/
theorem enterQ {P : Program} {ops : Array Oper} {Q : Exit → Act → World → Prop} {S : World → Prop} {id : Nat} {a : Act} {w : World} (hm : P.follows .mixedOrders = true) (hS : S w.drew) (hQ : ∀ (d : Option Tmp) (v : Value) c a w, Q (.panic c) (Act.put a d v) w → Q (.panic c) a w)
    (h : (∀ (d : Option Tmp) (v : Value) c a w, Q (.panic c) (Act.put a d v) w → Q (.panic c) a w) → S w.drew → wpAnyH P .any ops Q S ops.size (Array.replicate ops.size false) a w.drew) : (Code.region id ops true).wp P Q a w :=
  wp_region_held_drew hm hS (h hQ)
/-- an operation that yields a value -/
theorem takeH {P : Program} {ops : Array Oper} {Q : Exit → Act → World → Prop} {md : Region.Mode} {S : World → Prop} {fuel : Nat} {listed : Array Bool} {a : Act} {w : World} (hQ : ∀ (d : Option Tmp) (v : Value) c a w, Q (.panic c) (Act.put a d v) w → Q (.panic c) a w) (i : Nat) (d : Option Tmp) (v : Value) (oi : Oper) (hi : ops[i]? = some oi) (hd : oi.dst = d)
    (hs : Region.noSelect ops = true) (hf : Region.free md ops listed i = true) (hr : (Region.ready md ops listed).contains i = true) (hw : Region.wanted oi (yielded ops a.tmps) = true) (hy : ∀ w, S w → (execOp a.eval oi).run P w = .ok (.value v) w) (hS : S w)
    (h : wpAnyH P md ops Q S fuel (listed.setIfInBounds i true) (a.put d v) w) : wpAnyH P md ops Q S (fuel + 1) listed a w := by
  subst hd
  exact wpAnyH_take hi hs hf hr (fun c a w => hQ _ _ c a w) (Or.inl ⟨hw, hy⟩) hS h
/-- an operation that the guard passes over -/
theorem skipH {P : Program} {ops : Array Oper} {Q : Exit → Act → World → Prop} {md : Region.Mode} {S : World → Prop} {fuel : Nat} {listed : Array Bool} {a : Act} {w : World} (hQ : ∀ (d : Option Tmp) (v : Value) c a w, Q (.panic c) (Act.put a d v) w → Q (.panic c) a w) (i : Nat) (d : Option Tmp) (oi : Oper) (hi : ops[i]? = some oi) (hd : oi.dst = d)
    (hs : Region.noSelect ops = true) (hf : Region.free md ops listed i = true) (hr : (Region.ready md ops listed).contains i = true) (hw : Region.wanted oi (yielded ops a.tmps) = false) (hS : S w)
    (h : wpAnyH P md ops Q S fuel (listed.setIfInBounds i true) (a.put d undef) w) : wpAnyH P md ops Q S (fuel + 1) listed a w := by
  subst hd
  exact wpAnyH_take hi hs hf hr (fun c a w => hQ _ _ c a w) (Or.inr ⟨hw, rfl⟩) hS h

set_option maxHeartbeats 16000000 in
theorem refuse_first {w : World} {B l d g cap mb n : Nat} {v : Value} {S G U : Nat} {pl : Nat → Option Nat} {ps : List (List UInt8)} {ch : List (Nat × List UInt8)} (h : LogMem w B l d g cap mb n v S G U pl ps ch) (P : Nat) (hl : ps.length = S + 1 + P) (hm : ps.length ≤ 1024) (s : List PgV) (gb c j : Nat) (hs : PgsAt w gb 0 s) (hj : s.length = j + 1) (hj2 : j ≤ 99) (m : Int) (hm0 : ∀ h : 0 < s.length, s[0].1 = m) (hbad : m < 0 ∨ (P : Int) ≤ m) :
    Calls Tryz.prog 101 #[.pointer (some ⟨l, 0, none⟩), .slice (some ⟨gb, 0, none⟩) (j + 1) c] w fun e w' => e = .returned (.int .i64 2) ∧ Below w.heap.size w w' := by
  have c2 := h.c2
  have c3 := h.c3
  have H := hid h
  have k1 : w.cell? ⟨gb, 0, none⟩ = some (.int .i64 m) := by
    have := (hs 0 (by omega)).1
    rw [hm0 (by omega)] at this
    exact this
  have Hhas := hid (has_false h P hl hm m hbad)
  have g0 : (0 : Int) < (j : Int) + 1 := by omega
  clear h hs hm0 hbad hj
  go_enter Tryz.func101, Tryz.ntmps101
  go_wp2
  refine enterQ (S := fun w9 => w9.cell? ⟨l, 2, none⟩ = some (.pointer (some ⟨d, 0, none⟩)) ∧ w9.cell? ⟨l, 3, none⟩ = some (.int .i64 (S : Int)) ∧ w9.cell? ⟨gb, 0, none⟩ = some (.int .i64 m)) (by kernel_rfl) ⟨c2, c3, k1⟩ (fun d v c a w h => by cases d <;> exact h) (fun hQ hS => ?_)
  have HQ := hid hQ
  clear hQ
  refine takeH HQ.out 0 (some 7) (.pointer (some ⟨l, 0, none⟩)) _ rfl rfl (by kernel_rfl) (by kernel_rfl) (by kernel_rfl) (by kernel_rfl) (fun w0 ⟨s1, s2, s3⟩ => by go_simp) hS ?_
  simp only [Act.put, List.setIfInBounds_toArray, List.set_cons_zero, List.set_cons_succ]
  refine takeH HQ.out 1 (some 8) (.pointer (some ⟨l, 0, none⟩)) _ rfl rfl (by kernel_rfl) (by kernel_rfl) (by kernel_rfl) (by kernel_rfl) (fun w0 ⟨s1, s2, s3⟩ => by go_simp) hS ?_
  simp only [Act.put, List.setIfInBounds_toArray, List.set_cons_zero, List.set_cons_succ]
  refine takeH HQ.out 2 (some 9) (.pointer (some ⟨l, 2, none⟩)) _ rfl rfl (by kernel_rfl) (by kernel_rfl) (by kernel_rfl) (by kernel_rfl) (fun w0 ⟨s1, s2, s3⟩ => by go_simp) hS ?_
  simp only [Act.put, List.setIfInBounds_toArray, List.set_cons_zero, List.set_cons_succ]
  refine takeH HQ.out 3 (some 10) (.agg #[.pointer (some ⟨d, 0, none⟩), .int .i64 (S : Int)]) _ rfl rfl (by kernel_rfl) (by kernel_rfl) (by kernel_rfl) (by kernel_rfl) (fun w0 ⟨s1, s2, s3⟩ => by go_simp) hS ?_
  simp only [Act.put, List.setIfInBounds_toArray, List.set_cons_zero, List.set_cons_succ]
  refine takeH HQ.out 4 (some 11) (.slice (some ⟨gb, 0, none⟩) (j + 1) c) _ rfl rfl (by kernel_rfl) (by kernel_rfl) (by kernel_rfl) (by kernel_rfl) (fun w0 ⟨s1, s2, s3⟩ => by go_simp) hS ?_
  simp only [Act.put, List.setIfInBounds_toArray, List.set_cons_zero, List.set_cons_succ]
  refine takeH HQ.out 5 (some 12) (.pointer (some ⟨gb, 0, none⟩)) _ rfl rfl (by kernel_rfl) (by kernel_rfl) (by kernel_rfl) (by kernel_rfl) (fun w0 ⟨s1, s2, s3⟩ => by go_simp) hS ?_
  simp only [Act.put, List.setIfInBounds_toArray, List.set_cons_zero, List.set_cons_succ]
  refine takeH HQ.out 6 (some 13) (.pointer (some ⟨gb, 0, none⟩)) _ rfl rfl (by kernel_rfl) (by kernel_rfl) (by kernel_rfl) (by kernel_rfl) (fun w0 ⟨s1, s2, s3⟩ => by go_simp) hS ?_
  simp only [Act.put, List.setIfInBounds_toArray, List.set_cons_zero, List.set_cons_succ]
  refine takeH HQ.out 7 (some 14) (.int .i64 m) _ rfl rfl (by kernel_rfl) (by kernel_rfl) (by kernel_rfl) (by kernel_rfl) (fun w0 ⟨s1, s2, s3⟩ => by go_simp) hS ?_
  simp only [Act.put, List.setIfInBounds_toArray, List.set_cons_zero, List.set_cons_succ]
  refine wpAnyH_ready (rs := [8]) (by kernel_rfl) (by simp) ?_
  refine AllReadyH.cons rfl (fun K hK => ?_) AllReadyH.nil
  go_simp
  refine (Hhas.out _ (Below.refl _ w).drew).mono ?_
  rintro e w1 ⟨rfl, hb1'⟩
  have hb1 := undrew1 hb1'
  have Hb1 := hid hb1
  have H1 := hid (H.out.below hb1)
  have q3 := (hb1.cell (World.block_lt_of_cell? _ _ k1)).trans k1
  clear hb1 hb1' hS
  dsimp only
  refine hK.out _ _ ⟨H1.out.c2, H1.out.c3, q3⟩ (fun hS => ?_)
  clear hK K
  refine takeH HQ.out 9 (some 16) (.bool true) _ rfl rfl (by kernel_rfl) (by kernel_rfl) (by kernel_rfl) (by kernel_rfl) (fun w0 ⟨s1, s2, s3⟩ => by go_simp) hS ?_
  simp only [Act.put, List.setIfInBounds_toArray, List.set_cons_zero, List.set_cons_succ]
  refine takeH HQ.out 10 (some 17) (.bool true) _ rfl rfl (by kernel_rfl) (by kernel_rfl) (by kernel_rfl) (by kernel_rfl) (fun w0 ⟨s1, s2, s3⟩ => by go_simp) hS ?_
  simp only [Act.put, List.setIfInBounds_toArray, List.set_cons_zero, List.set_cons_succ]
  refine skipH HQ.out 11 (some 18) _ rfl rfl (by kernel_rfl) (by kernel_rfl) (by kernel_rfl) (by kernel_rfl) hS ?_
  simp only [Act.put, List.setIfInBounds_toArray, List.set_cons_zero, List.set_cons_succ]
  refine skipH HQ.out 12 (some 19) _ rfl rfl (by kernel_rfl) (by kernel_rfl) (by kernel_rfl) (by kernel_rfl) hS ?_
  simp only [Act.put, List.setIfInBounds_toArray, List.set_cons_zero, List.set_cons_succ]
  refine skipH HQ.out 13 (some 20) _ rfl rfl (by kernel_rfl) (by kernel_rfl) (by kernel_rfl) (by kernel_rfl) hS ?_
  simp only [Act.put, List.setIfInBounds_toArray, List.set_cons_zero, List.set_cons_succ]
  refine skipH HQ.out 14 (some 21) _ rfl rfl (by kernel_rfl) (by kernel_rfl) (by kernel_rfl) (by kernel_rfl) hS ?_
  simp only [Act.put, List.setIfInBounds_toArray, List.set_cons_zero, List.set_cons_succ]
  refine skipH HQ.out 15 (some 22) _ rfl rfl (by kernel_rfl) (by kernel_rfl) (by kernel_rfl) (by kernel_rfl) hS ?_
  simp only [Act.put, List.setIfInBounds_toArray, List.set_cons_zero, List.set_cons_succ]
  refine skipH HQ.out 16 (some 23) _ rfl rfl (by kernel_rfl) (by kernel_rfl) (by kernel_rfl) (by kernel_rfl) hS ?_
  simp only [Act.put, List.setIfInBounds_toArray, List.set_cons_zero, List.set_cons_succ]
  refine skipH HQ.out 17 (some 24) _ rfl rfl (by kernel_rfl) (by kernel_rfl) (by kernel_rfl) (by kernel_rfl) hS ?_
  simp only [Act.put, List.setIfInBounds_toArray, List.set_cons_zero, List.set_cons_succ]
  refine skipH HQ.out 18 (some 25) _ rfl rfl (by kernel_rfl) (by kernel_rfl) (by kernel_rfl) (by kernel_rfl) hS ?_
  simp only [Act.put, List.setIfInBounds_toArray, List.set_cons_zero, List.set_cons_succ]
  refine skipH HQ.out 19 (some 26) _ rfl rfl (by kernel_rfl) (by kernel_rfl) (by kernel_rfl) (by kernel_rfl) hS ?_
  simp only [Act.put, List.setIfInBounds_toArray, List.set_cons_zero, List.set_cons_succ]
  refine skipH HQ.out 20 (some 27) _ rfl rfl (by kernel_rfl) (by kernel_rfl) (by kernel_rfl) (by kernel_rfl) hS ?_
  simp only [Act.put, List.setIfInBounds_toArray, List.set_cons_zero, List.set_cons_succ]
  refine skipH HQ.out 21 (some 28) _ rfl rfl (by kernel_rfl) (by kernel_rfl) (by kernel_rfl) (by kernel_rfl) hS ?_
  simp only [Act.put, List.setIfInBounds_toArray, List.set_cons_zero, List.set_cons_succ]
  refine skipH HQ.out 22 (some 29) _ rfl rfl (by kernel_rfl) (by kernel_rfl) (by kernel_rfl) (by kernel_rfl) hS ?_
  simp only [Act.put, List.setIfInBounds_toArray, List.set_cons_zero, List.set_cons_succ]
  refine skipH HQ.out 23 (some 30) _ rfl rfl (by kernel_rfl) (by kernel_rfl) (by kernel_rfl) (by kernel_rfl) hS ?_
  simp only [Act.put, List.setIfInBounds_toArray, List.set_cons_zero, List.set_cons_succ]
  refine takeH HQ.out 24 (some 31) (.bool true) _ rfl rfl (by kernel_rfl) (by kernel_rfl) (by kernel_rfl) (by kernel_rfl) (fun w0 ⟨s1, s2, s3⟩ => by go_simp) hS ?_
  simp only [Act.put, List.setIfInBounds_toArray, List.set_cons_zero, List.set_cons_succ]
  refine wpAnyH_done (by kernel_rfl) ?_ _
  clear hS q3 c2 c3 k1
  go_wp2
  go_ret
  exact ⟨rfl, Hb1.out⟩
end Go.Proofs.YthdcjepkehifoaaGreat

/- Commit of package wal, of one page or more, by a contract. -/

namespace Go.Proofs.YthdcjepkehifoaaGreat
open Go.RowKit Go.Maps
set_option linter.unusedVariables false
set_option maxRecDepth 20000

theorem badPg_form {s : List PgV} {k : Nat} (h : BadPg s k) : BadForm s := by
  obtain ⟨hk, ⟨i, hi, e⟩ | h⟩ := h
  · left
    intro hn
    rw [List.nodup_iff_pairwise_ne, List.pairwise_map, List.pairwise_iff_getElem] at hn
    exact hn i k (by omega) hk (by omega) e.symm
  · exact .inr ⟨_, List.getElem_mem hk, h⟩
theorem noBad_sorted {s : List PgV} (hs : s.Pairwise (fun a b => a.1 ≤ b.1)) (h : ∀ k, ¬ BadPg s k) : s.Pairwise (fun a b => a.1 < b.1) ∧ ∀ p ∈ s, p.2.2.1 = 256 := by
  refine ⟨?_, fun p hp => ?_⟩
  · rw [List.pairwise_iff_getElem] at hs ⊢
    intro i j hi hj hij
    obtain ⟨q, rfl⟩ : ∃ q, j = q + 1 := ⟨j - 1, by omega⟩
    have h1 : s[q].1 < s[q + 1].1 := by
      have h2 := hs q (q + 1) (by omega) hj (by omega)
      have h3 : s[q + 1].1 ≠ s[q].1 := fun e => h (q + 1) ⟨hj, .inl ⟨q, rfl, e⟩⟩
      omega
    rcases Nat.lt_or_ge i q with h4 | h4
    · have := hs i q hi (by omega) h4
      omega
    · obtain rfl : i = q := by omega
      exact h1
  · obtain ⟨i, hi, rfl⟩ := List.getElem_of_mem hp
    exact Classical.byContradiction fun h' => h i ⟨hi, .inr h'⟩
theorem up_form {s : List PgV} (hs : s.Pairwise (fun a b => a.1 < b.1)) (h : ∀ p ∈ s, p.2.2.1 = 256) : ¬ BadForm s := by
  rintro (h1 | ⟨p, hp, h2⟩)
  · apply h1
    rw [List.nodup_iff_pairwise_ne, List.pairwise_map]
    exact hs.imp fun h => by omega
  · exact h2 (h p hp)
theorem badForm_perm {s l : List PgV} (h : s.Perm l) : BadForm s ↔ BadForm l := by
  unfold BadForm
  rw [(h.map _).nodup_iff]
  exact or_congr Iff.rfl ⟨fun ⟨p, hp, e⟩ => ⟨p, h.mem_iff.1 hp, e⟩, fun ⟨p, hp, e⟩ => ⟨p, h.mem_iff.2 hp, e⟩⟩
theorem badRange_perm {P : Nat} {s l : List PgV} (h : s.Perm l) : BadRange P s ↔ BadRange P l :=
  ⟨fun ⟨p, hp, e⟩ => ⟨p, h.mem_iff.1 hp, e⟩, fun ⟨p, hp, e⟩ => ⟨p, h.mem_iff.2 hp, e⟩⟩

/-- what refuse tells of a sorted group -/
def RefAll (S U P : Nat) (s : List PgV) (w : World) (e : Ending) (w' : World) : Prop :=
  (BadRange P s ∧ e = .returned (.int .i64 2) ∧ Below w.heap.size w w') ∨ (¬ BadRange P s ∧ RefPost S U s w e w')
theorem refuse_any {w : World} {B l d g cap mb n : Nat} {v : Value} {S G U : Nat} {pl : Nat → Option Nat} {ps : List (List UInt8)} {ch : List (Nat × List UInt8)} (h : LogMem w B l d g cap mb n v S G U pl ps ch) (P : Nat) (hl : ps.length = S + 1 + P) (hm : ps.length ≤ 1024) (hU : U ≤ S) (s : List PgV) (gb c : Nat) (hs : PgsAt w gb 0 s) (h1 : 1 ≤ s.length) (h2 : s.length ≤ 100) (hup : s.Pairwise (fun a b => a.1 ≤ b.1)) :
    Calls Tryz.prog 101 #[.pointer (some ⟨l, 0, none⟩), .slice (some ⟨gb, 0, none⟩) s.length c] w (RefAll S U P s w) := by
  obtain ⟨j, hj⟩ : ∃ j, s.length = j + 1 := ⟨s.length - 1, by omega⟩
  have h0 : 0 < s.length := by omega
  have hjl : j < s.length := by omega
  rw [hj]
  by_cases hb1 : s[0].1 < 0 ∨ (P : Int) ≤ s[0].1
  · refine (refuse_first h P hl hm s gb c j hs hj (by omega) s[0].1 (fun _ => rfl) hb1).mono ?_
    rintro e w' ⟨rfl, hb⟩
    exact .inl ⟨⟨_, List.getElem_mem h0, hb1⟩, rfl, hb⟩
  · by_cases hb2 : s[j].1 < 0 ∨ (P : Int) ≤ s[j].1
    · refine (refuse_last h P hl hm s gb c j hs hj (by omega) s[0].1 s[j].1 (fun _ => rfl) (fun _ => rfl) (by omega) hb2).mono ?_
      rintro e w' ⟨rfl, hb⟩
      exact .inl ⟨⟨_, List.getElem_mem hjl, hb2⟩, rfl, hb⟩
    · refine (refuse_rest h P hl hm hU s gb c j hs hj (by omega) s[0].1 s[j].1 (fun _ => rfl) (fun _ => rfl) (by omega) (by omega)).mono ?_
      intro e w' hp
      refine .inr ⟨?_, hp⟩
      rintro ⟨p, hp, hbad⟩
      obtain ⟨i, hi, rfl⟩ := List.getElem_of_mem hp
      rw [List.pairwise_iff_getElem] at hup
      have a1 : s[0].1 ≤ s[i].1 := by
        rcases Nat.eq_zero_or_pos i with e | e
        · subst e; omega
        · exact hup 0 i h0 hi e
      have a2 : s[i].1 ≤ s[j].1 := by
        rcases Nat.lt_or_ge i j with e | e
        · exact hup i j hi hjl e
        · obtain rfl : i = j := by omega
          omega
      omega

/-- what Commit tells, and leaves, of one page or more -/
def CommitPost (w : World) (B l d g cap mb n : Nat) (v : Value) (S G U P : Nat) (pl : Nat → Option Nat) (fs : List (List UInt8)) (ls : List (Nat × List UInt8)) (ps : List PgV) (e : Ending) (w' : World) : Prop :=
  (∃ c : Int, e = .returned (.int .i64 c) ∧ ((c = 2 ∧ BadRange P ps) ∨ (c = 3 ∧ ¬ BadRange P ps ∧ BadForm ps) ∨ (c = 7 ∧ ¬ BadRange P ps ∧ ¬ BadForm ps ∧ S < U + ps.length + 1)) ∧ Below w.heap.size w w') ∨
  (e = .returned (.int .i64 0) ∧ ¬ BadRange P ps ∧ ¬ BadForm ps ∧ U + ps.length + 1 ≤ S ∧ ∃ s v', s.Perm ps ∧ s.Pairwise (fun a b => a.1 < b.1) ∧ LogMem w' B l d g cap mb (n + ps.length) v' S (G + 1) (U + ps.length + 1) (noted pl (U + 2) (numsP s)) (psOf fs (ls ++ commitWs U G (numsP s) (s.map (bytesAt w)))) (chOf fs (ls ++ commitWs U G (numsP s) (s.map (bytesAt w)))) ∧ NewV w v v' ∧ Out (logBlock l d g mb v) w w')

set_option maxHeartbeats 1600000 in
theorem commit_any {w : World} {B l d g cap mb n : Nat} {v : Value} {S G U : Nat} {pl : Nat → Option Nat} {fs : List (List UInt8)} {ls : List (Nat × List UInt8)} (h : LogMem w B l d g cap mb n v S G U pl (psOf fs ls) (chOf fs ls)) (P : Nat) (hl : fs.length = S + 1 + P) (hm : fs.length ≤ 1024) (hU : U ≤ S) (ps : List PgV) (b o c : Nat) (hs : PgsAt w b o ps) (h1 : 1 ≤ ps.length) (h2 : ps.length ≤ 100) (hok : ∀ p ∈ ps, p.2.2.1 = 256 → PgOk w (logBlock l d g mb v) p) (hG : G + 1 < 9223372036854775808) (hls : ls.length ≤ 900000) (hn : n ≤ 1000000) (hbase : B ≤ w.heap.size) :
    Calls Tryz.prog 48 #[.pointer (some ⟨l, 0, none⟩), .slice (some ⟨b, o, none⟩) ps.length c] w (CommitPost w B l d g cap mb n v S G U P pl fs ls ps) := by
  have H := hid h
  have Hok := hid hok
  have Hl := hid hl
  have Hcl := hid (clonePg ps b o c w hs (by omega) (by omega))
  have d1 : ((ps.length : Int) == 0) = false := by rw [beq_eq_false_iff_ne]; omega
  have d2 : ¬ (100 : Int) < (ps.length : Int) := by omega
  clear h hok hs hl
  go_enter Tryz.func48, Tryz.ntmps48
  go_wp2_with (fail)
  refine Hcl.out.mono ?_
  rintro e w1 ⟨gc, cc, rfl, ho1, hb1⟩
  have hg1 := ho1.lt gc rfl
  have Hso := hid (sort_any ps gc cc w1 (holds_of_row ho1) hg1.2 (by omega))
  have Hb1 := hid hb1
  clear ho1 hb1 Hcl
  go_wp2_with (fail)
  refine Hso.out.mono ?_
  rintro e w2 ⟨rfl, s, hperm, hup, hpg, ho2⟩
  have hlen : s.length = ps.length := hperm.length_eq
  have Hb2 : Hid (Below w.heap.size w w2) := Hb1.out.trans (ho2.below (Hb1.out.size) (fun k hk => by rw [hk]; exact hg1.1))
  have H2 := hid (H.out.below Hb2.out)
  have Hrf := hid (refuse_any H2.out P (by rw [psOf_length]; exact Hl.out) (by rw [psOf_length]; exact hm) hU s gc cc hpg (by omega) (by omega) hup)
  rw [hlen] at Hrf
  have Hperm := hid hperm
  have Hup := hid hup
  have Hpg := hid hpg
  have Hlen := hid hlen
  have Hg2 := hid (show gc < w2.heap.size from Nat.lt_of_lt_of_le hg1.2 ho2.size)
  clear hperm hup hpg ho2 hlen Hso
  go_wp2_with (fail)
  refine Hrf.out.mono ?_
  rintro e w3 (⟨hbad, rfl, hb3⟩ | ⟨hgood, (⟨rfl, k, hbad⟩ | ⟨hno, rfl⟩), hb3⟩)
  · have Hbad := hid ((badRange_perm Hperm.out).1 hbad)
    have Hb3 := hid (Hb2.out.trans (hb3.mono Hb2.out.size))
    clear hbad hb3 Hrf
    go_wp2
    go_ret
    exact .inl ⟨2, rfl, .inl ⟨rfl, Hbad.out⟩, Hb3.out⟩
  · have Hgd := hid (fun hh => hgood ((badRange_perm Hperm.out).2 hh))
    have Hbad := hid ((badForm_perm Hperm.out).1 (badPg_form hbad))
    have Hb3 := hid (Hb2.out.trans (hb3.mono Hb2.out.size))
    clear hgood hbad hb3 Hrf
    go_wp2
    go_ret
    exact .inl ⟨3, rfl, .inr (.inl ⟨rfl, Hgd.out, Hbad.out⟩), Hb3.out⟩
  · have Hgd := hid (fun hh => hgood ((badRange_perm Hperm.out).2 hh))
    have hst := noBad_sorted Hup.out hno
    have Hst := hid hst
    have Hnf := hid (fun hh => up_form hst.1 hst.2 ((badForm_perm Hperm.out).2 hh))
    have HB3 := hid hb3
    have Hb3 := hid (Hb2.out.trans (hb3.mono Hb2.out.size))
    clear hno hb3 Hrf hst
    by_cases hfull : S < U + ps.length + 1
    · rw [if_pos (by rw [Hlen.out]; omega)]
      clear hgood
      go_wp2
      go_ret
      exact .inl ⟨7, rfl, .inr (.inr ⟨rfl, Hgd.out, Hnf.out, hfull⟩), Hb3.out⟩
    · rw [if_neg (by rw [Hlen.out]; omega)]
      obtain ⟨j, hj⟩ : ∃ j, s.length = j + 1 := ⟨s.length - 1, by have := Hlen.out; omega⟩
      have hF : Out (logBlock l d g mb v) w w3 := Out.of_below Hb3.out
      have hkeep : ∀ p ∈ s, PgOk w3 (logBlock l d g mb v) p ∧ bytesAt w3 p = bytesAt w p := fun p hp => (Hok.out p (Hperm.out.mem_iff.1 hp) (Hst.out.2 p hp)).keep hF (fun _ _ h => h)
      have hgl : ¬ logBlock l d g mb v gc := fun hh => by have := (H.out.lts _ hh).2; omega
      have Hwr := hid (write_any' (H.out.below Hb3.out) P Hl.out hm s gc cc j (Hpg.out.keep (HB3.out.block gc Hg2.out)) hj (by have := Hlen.out; omega) hgl (fun p hp => (hkeep p hp).1) (fun p hp => by
        have : ¬ (p.1 < 0 ∨ (P : Int) ≤ p.1) := fun h' => hgood ⟨p, hp, h'⟩
        omega) Hst.out.1 (by have := Hlen.out; omega) hG hls hn (Nat.le_trans hbase Hb3.out.size))
      have Hxs : Hid (s.map (bytesAt w3) = s.map (bytesAt w)) := List.map_congr_left fun p hp => (hkeep p hp).2
      rw [Hxs.out] at Hwr
      rw [← hj, Hlen.out] at Hwr
      clear hgood hkeep hgl hF hj
      go_wp2_with (fail)
      refine Hwr.out.mono ?_
      rintro e w4 ⟨rfl, v4, hM4, hn4, ho4⟩
      have HM4 := hid hM4
      have Hn4 := hid hn4
      have Ho4 := hid ho4
      clear hM4 hn4 ho4 Hwr
      go_wp2
      go_ret
      exact .inr ⟨rfl, Hgd.out, Hnf.out, by omega, s, v4, Hperm.out, Hst.out.1, HM4.out, fun k hk => (Hn4.out k hk).imp id (fun h => Nat.le_trans Hb3.out.size h), (Out.of_below Hb3.out).trans Ho4.out (fun _ _ h => h)⟩
end Go.Proofs.YthdcjepkehifoaaGreat
