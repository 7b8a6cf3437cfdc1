/- The disk of a log: pages, home, has, at of package wal's store; Need; each by a contract. -/
import Derived.Test.YtdieafkmnckhaaaGreatWParseIx
namespace Go.Proofs.YtdieafkmnckhaaaGreat
open Go.RowKit
set_option linter.unusedVariables false
set_option maxRecDepth 20000

theorem row_form {w : World} {B n : Nat} {v : Value} {l : List UInt8} (h : w.ownsRow B 5 1 v n (cellsOf l)) (hn : 0 < n) : ∃ g c, v = .slice (some ⟨g, 0, none⟩) n c ∧ n ≤ c ∧ B ≤ g ∧ g < w.heap.size := by
  obtain ⟨g, c, rfl, hg, hc⟩ := h.form hn
  have hlt := (h.lt g rfl).2
  refine ⟨g, c, rfl, ?_, hg, hlt⟩
  rcases h.2 with ⟨e, _⟩ | ⟨g', c', cur, e, _, _, h1, _⟩
  · cases e
  · cases e; exact h1

set_option maxHeartbeats 400000 in
theorem pages_any {w : World} {B d g cap : Nat} {v : Value} {ps : List (List UInt8)} {ch : List (Nat × List UInt8)} (h : DiskAt w B d g cap v ps ch) (S : Int) (h0 : 0 ≤ S) (h1 : S ≤ 9223372036854775807) (hl : ps.length ≤ 1024) :
    Calls Tryz.prog 78 #[.agg #[.pointer (some ⟨d, 0, none⟩), .int .i64 S]] w fun e w' => e = .returned (.int .i64 ((ps.length : Int) - S - 1)) ∧ Below w.heap.size w w' := by
  have H := hid h
  clear h
  have f1 : IntKind.i64.wrap ((ps.length : Int) - S) = (ps.length : Int) - S := by rw [IntKind.wrap_i64]; omega
  have f2 : IntKind.i64.wrap ((ps.length : Int) - S - 1) = (ps.length : Int) - S - 1 := by rw [IntKind.wrap_i64]; omega
  go_enter Tryz.func78, Tryz.ntmps78
  go_wp2
  have Hb := hid ((Below.refl _ w).alloc (Nat.le_refl _) (.cells #[.pointer (some ⟨d, 0, none⟩), .int .i64 S] 101))
  have Hx := hid (heap_alloc_new w (.cells #[.pointer (some ⟨d, 0, none⟩), .int .i64 S] 101))
  generalize w.alloc (.cells #[.pointer (some ⟨d, 0, none⟩), .int .i64 S] 101) = W at *
  have c0 := cell_of_row _ _ 0 _ _ _ Hx.out
  have c1 := cell_of_row _ _ 1 _ _ _ Hx.out
  go_quiet ((go_at_call 121; refine Calls.quiet_of_same (blocks_any ((H.out.below Hb.out).below (below_drewN _ _ _)))))
  go_wp2
  go_ret
  exact ⟨rfl, Hb.out.trans (below_drewN _ _ _)⟩

set_option maxHeartbeats 400000 in
theorem home_any (a : Value) (S p : Nat) (w : World) (hS : S ≤ 1024) (hp : p ≤ 1024) (ha : a.oneCell' = true) :
    Calls Tryz.prog 119 #[.agg #[a, .int .i64 (S : Int)], .int .i64 (p : Int)] w fun e w' => e = .returned (.int .i64 ((S + 1 + p : Nat) : Int)) ∧ Below w.heap.size w w' := by
  have f1 : IntKind.i64.wrap ((S : Int) + 1) = (S : Int) + 1 := by rw [IntKind.wrap_i64]; omega
  have f2 : IntKind.i64.wrap ((S : Int) + 1 + (p : Int)) = (S : Int) + 1 + (p : Int) := by rw [IntKind.wrap_i64]; omega
  go_enter Tryz.func119, Tryz.ntmps119
  go_wp2
  go_ret
  exact ⟨ret_int (by omega), (Below.refl _ w).alloc (Nat.le_refl _) _⟩

set_option maxHeartbeats 400000 in
theorem has_any {w : World} {B d g cap : Nat} {v : Value} {ps : List (List UInt8)} {ch : List (Nat × List UInt8)} (h : DiskAt w B d g cap v ps ch) (S P : Nat) (hl : ps.length = S + 1 + P) (hm : ps.length ≤ 1024) (n : Int) :
    Calls Tryz.prog 84 #[.agg #[.pointer (some ⟨d, 0, none⟩), .int .i64 (S : Int)], .int .i64 n] w fun e w' => e = .returned (.bool (decide (0 ≤ n ∧ n < (P : Int)))) ∧ Below w.heap.size w w' := by
  have H := hid h
  clear h
  have Hb := hid ((Below.refl _ w).alloc (Nat.le_refl _) (.cells #[.pointer (some ⟨d, 0, none⟩), .int .i64 (S : Int)] 101))
  have Hp := hid (pages_any (H.out.below Hb.out) S (by omega) (by omega) hm)
  rw [show (ps.length : Int) - (S : Int) - 1 = (P : Int) by omega] at Hp
  by_cases h0 : 0 ≤ n
  · go_enter Tryz.func84, Tryz.ntmps84
    go_wp2_with (go_at_call 78; refine Hp.out.mono ?_; rintro e w1 ⟨rfl, hb1⟩)
    go_ret
    refine ⟨ret_bool ?_, Hb.out.trans (hb1.mono Hb.out.size)⟩
    simp [h0]
  · go_enter Tryz.func84, Tryz.ntmps84
    go_wp2
    go_ret
    refine ⟨ret_bool ?_, Hb.out⟩
    simp
    omega

/-- a page that was read -/
def GotPage (x : List UInt8) (w : World) (e : Ending) (w' : World) : Prop := ∃ g c, e = .returned (.slice (some ⟨g, 0, none⟩) 256 c) ∧ w'.ownsRow w.heap.size 5 1 (.slice (some ⟨g, 0, none⟩) 256 c) 256 (cellsOf x) ∧ 256 ≤ c ∧ Below w.heap.size w w'

set_option maxHeartbeats 400000 in
theorem at_any {w : World} {B d g cap : Nat} {v : Value} {ps : List (List UInt8)} {ch : List (Nat × List UInt8)} (h : DiskAt w B d g cap v ps ch) (S : Nat) (n : Nat) (hn : n < ps.length) :
    Calls Tryz.prog 123 #[.agg #[.pointer (some ⟨d, 0, none⟩), .int .i64 (S : Int)], .int .i64 (n : Int)] w (GotPage ps[n] w) := by
  have h256 : (ps[n]).length = 256 := h.full _ (List.getElem_mem _)
  have Hb := hid ((Below.refl _ w).alloc (Nat.le_refl _) (.cells #[.pointer (some ⟨d, 0, none⟩), .int .i64 (S : Int)] 101))
  have Hr := hid (read_ok (h.below Hb.out) n hn)
  rw [h256] at Hr
  clear h h256
  generalize ps[n] = x at *
  go_enter Tryz.func123, Tryz.ntmps123
  go_wp2_with (go_at_call 153; refine Hr.out.mono ?_; rintro e w1 ⟨v', rfl, ho, hb1, _⟩; obtain ⟨g1, c1, rfl, hc1, hg1, _⟩ := row_form ho (by omega); have Ho := hid ho; have Hb1 := hid hb1; clear ho hb1)
  go_ret
  exact ⟨g1, c1, rfl, Ho.out.mono Hb.out.size, hc1, Hb.out.trans (Hb1.out.mono Hb.out.size)⟩

/-- how many blocks of the log a group needs -/
def needOf (n : Int) : Int := if n < 1 ∨ 100 < n then 0 else n + 1
set_option maxHeartbeats 400000 in
theorem need_any (n : Int) (w : World) : Calls Tryz.prog 145 #[.int .i64 n] w fun e w' => e = .returned (.int .i64 (needOf n)) ∧ w' = w := by
  rcases (show n < 1 ∨ (¬ n < 1 ∧ 100 < n) ∨ (¬ n < 1 ∧ ¬ 100 < n) by omega) with h | ⟨h1, h2⟩ | ⟨h1, h2⟩
  · go_enter Tryz.func145, Tryz.ntmps145
    go_wp2
    go_ret
    exact ⟨ret_int (by unfold needOf; rw [if_pos (.inl h)]), rfl⟩
  · go_enter Tryz.func145, Tryz.ntmps145
    go_wp2
    go_ret
    exact ⟨ret_int (by unfold needOf; rw [if_pos (.inr h2)]), rfl⟩
  · have f1 : IntKind.i64.wrap (n + 1) = n + 1 := by rw [IntKind.wrap_i64]; omega
    go_enter Tryz.func145, Tryz.ntmps145
    go_wp2
    go_ret
    exact ⟨ret_int (by unfold needOf; rw [if_neg (by omega)]), rfl⟩
end Go.Proofs.YtdieafkmnckhaaaGreat
