/- fits of package wal, where a page is none, by a contract. -/
import Derived.Test.YthdcjepkehifoaaGreatWOpen
namespace Go.Proofs.YthdcjepkehifoaaGreat
open Go.RowKit Go.Maps
set_option linter.unusedVariables false
set_option maxRecDepth 20000

set_option maxHeartbeats 800000 in
theorem fits_bad {w : World} {B l d g cap mb n : Nat} {v : Value} {S G U : Nat} {pl : Nat → Option Nat} {ps : List (List UInt8)} {ch : List (Nat × List UInt8)} (h : LogMem w B l d g cap mb n v S G U pl ps ch) (P : Nat) (hl : ps.length = S + 1 + P) (hm : ps.length ≤ 1024) (ns : List Nat) (nb no c m : Nat) (hns : Nums w (some ⟨nb, no, none⟩) ns) (hlen : 1 ≤ ns.length ∧ ns.length ≤ 100) (hlast : ns[ns.length - 1]? = some m) (hmP : P ≤ m) (room : Int) :
    Calls Tryz.prog 140 #[.pointer (some ⟨l, 0, none⟩), .slice (some ⟨nb, no, none⟩) ns.length c, .int .i64 room] w fun e w' => e = .returned (.bool false) ∧ Below w.heap.size w w' := by
  have c2 := h.c2
  have c3 := h.c3
  have H := hid h
  have k1 : w.cell? ⟨nb, no + (ns.length - 1), none⟩ = some (.int .i64 (m : Int)) := by
    obtain ⟨b', o', e', hc⟩ := hns (ns.length - 1) (by omega)
    cases e'
    rw [hc]
    have := (List.getElem?_eq_some_iff.1 hlast).2
    rw [this]
  obtain ⟨j, hj⟩ : ∃ j, ns.length = j + 1 := ⟨ns.length - 1, by omega⟩
  rw [hj] at k1 hlen ⊢
  rw [show j + 1 - 1 = j by omega] at k1
  have g0 : (0 : Int) ≤ (j : Int) := by omega
  have g1 : (j : Int) < (j : Int) + 1 := by omega
  have g4 : ¬ (j : Int) + 1 ≤ (j : Int) := by omega
  have g5 : ¬ (j : Int) < 0 := by omega
  have g6 : IntKind.i64.wrap ((j : Int) + 1 - 1) = (j : Int) := by rw [IntKind.wrap_i64]; omega
  have g7 : IntKind.i64.wrap (j : Int) = (j : Int) := by rw [IntKind.wrap_i64]; omega
  have g3 : j ≤ 99 := by omega
  clear h hns hlast hj hlen
  have Hhas : Hid (∀ u, Below w.heap.size w u → Calls Tryz.prog 81 #[.agg #[.pointer (some ⟨d, 0, none⟩), .int .i64 (S : Int)], .int .i64 (m : Int)] u fun e w' => e = .returned (.bool false) ∧ Below u.heap.size u w') := fun u hu => by
    have h := has_any (H.out.below hu).disk S P hl hm (m : Int)
    rw [decide_eq_false (show ¬ ((0 : Int) ≤ (m : Int) ∧ (m : Int) < (P : Int)) by omega)] at h
    exact h
  go_enter Tryz.func140, Tryz.ntmps140
  go_wp2
  first
    | go_region_with (first | ((go_at_call 81; refine (Hhas.out _ ?_).mono ?_; exact (Below.refl _ w).drew; rintro e w1 ⟨rfl, hb1'⟩; have Hb1 := hid (undrew1 hb1'); clear hb1')))
    | fail
  all_goals
    clear c2 c3 k1
    go_wp2
    go_ret
    exact ⟨rfl, Hb1.out⟩
end Go.Proofs.YthdcjepkehifoaaGreat
