/- now, Read, Disk, note, fits of package wal, each by a contract. -/
import Derived.Test.YthdcjepkehifoaaGreatWLog
namespace Go.Proofs.YthdcjepkehifoaaGreat
open Go.RowKit Go.Maps
set_option linter.unusedVariables false
set_option maxRecDepth 20000

theorem lit_ne {x y : Int} (h : x ≠ y) : (Lit.int .i64 x) ≠ (Lit.int .i64 y) := fun e => h (by injection e)
theorem PlAt.put {w w' : World} {mb n : Nat} {pl : Nat → Option Nat} (h : PlAt w mb n pl) (p q : Nat) {D : DataW Unit} (h1 : ∀ x : Int, Maps.has D (.int .i64 x) = (decide (0 ≤ x) && (pl x.toNat).isSome)) (h2 : ∀ k q, pl k = some q → D.atKey (.int .i64 (k : Int)) (.lit (.int .i64 0)) = .lit (.int .i64 (q : Int)))
    (hD : IsMap D) (hw : (Lit.int .i64 (p : Int)).wf = true) (hown : w'.ownsMap Tryz.prog 3 (plainElem Tryz.prog 3) mb (n + 1) (D.put (.int .i64 (p : Int)) (.lit (.int .i64 (q : Int))))) : PlAt w' mb (n + 1) (fun k => if k = p then some q else pl k) := by
  have hkl : WideAt.IsKeyLit (.int .i64 (p : Int)) := by simp [WideAt.IsKeyLit]
  refine ⟨_, hown, fun x => ?_, fun k q' hk => ?_⟩
  · by_cases e : x = (p : Int)
    · subst e
      rw [has_put_same hD hkl]
      simp
    · rw [has_put_other (lit_ne e), h1 x]
      dsimp only
      by_cases h0 : 0 ≤ x
      · rw [if_neg (by omega)]
      · simp [h0]
  · dsimp only at hk
    by_cases e : k = p
    · subst e
      rw [if_pos rfl] at hk
      cases hk
      exact atKey_put_same hD hkl _ _
    · rw [if_neg e] at hk
      rw [atKey_put_other (lit_ne (by omega))]
      exact h2 k q' hk

theorem at_some {w : World} {B d g cap : Nat} {v : Value} {ps : List (List UInt8)} {ch : List (Nat × List UInt8)} (h : DiskAt w B d g cap v ps ch) (S : Nat) (n : Nat) (x : List UInt8) (hx : ps[n]? = some x) :
    Calls Tryz.prog 133 #[.agg #[.pointer (some ⟨d, 0, none⟩), .int .i64 (S : Int)], .int .i64 (n : Int)] w (GotPage x w) := by
  obtain ⟨hn, rfl⟩ := List.getElem?_eq_some_iff.1 hx
  exact at_any h S n hn

set_option maxHeartbeats 800000 in
theorem now_any {w : World} {B l d g cap mb n : Nat} {v : Value} {S G U : Nat} {pl : Nat → Option Nat} {ps : List (List UInt8)} {ch : List (Nat × List UInt8)} (h : LogMem w B l d g cap mb n v S G U pl ps ch) (p : Nat) (hp : p ≤ 1024) (hS : S ≤ 1024) (x : List UInt8) (hx : ps[(pl p).getD (S + 1 + p)]? = some x) (hm : ps.length ≤ 1024) :
    Calls Tryz.prog 82 #[.pointer (some ⟨l, 0, none⟩), .int .i64 (p : Int)] w (GotPage x w) := by
  have c2 := h.c2
  have c3 := h.c3
  have c4 := h.c4
  obtain ⟨D, hown, hh, ha⟩ := h.map
  have H := hid h
  have hkey := keyOf_int_mk (P := Tryz.prog) Tryz.underlying3 (a := (p : Int)) (WalkArith.wf_i64 (by omega))
  have Hh := hid (hh (p : Int))
  rw [Int.toNat_natCast, decide_eq_true (show (0 : Int) ≤ (p : Int) by omega), Bool.true_and] at Hh
  cases hpl : pl p with
  | some q =>
    rw [hpl] at hx
    have Ha := hid (ha p q hpl)
    rw [hpl] at Hh
    have Hat := hid (at_some h.disk S q x hx)
    clear h hh ha hpl hx
    go_enter Tryz.func82, Tryz.ntmps82
    go_wp2_with (first | (at_lookup; refine wpList_lookup_own_ok_int _ rfl _ _ 99 rfl 3 3 .i64 intKeyed Tryz.underlying99 Tryz.underlying3 (intZero _) mb n D rfl hown _ _ rfl hkey ?_; rw [Hh.out]; intro c hat hwc; rw [Ha.out] at hat; obtain rfl : c = (q : Int) := (by injection hat with e1; injection e1 with e2 e3; exact e3.symm)) | (go_at_call 133; refine Hat.out.mono ?_; rintro e w1 ⟨g1, c1, rfl, ho, hc, hb⟩; have Ho := hid ho; clear ho))
    go_ret
    exact ⟨g1, c1, rfl, Ho.out, hc, hb⟩
  | none =>
    rw [hpl] at hx
    have Hx : Hid (ps[S + 1 + p]? = some x) := hx
    rw [hpl] at Hh
    have Hhm := hid (home_any (.pointer (some ⟨d, 0, none⟩)) S p w hS hp rfl)
    clear h hh ha hpl hx
    go_enter Tryz.func82, Tryz.ntmps82
    go_wp2_with (first | (at_lookup; refine wpList_lookup_own_ok_int _ rfl _ _ 99 rfl 3 3 .i64 intKeyed Tryz.underlying99 Tryz.underlying3 (intZero _) mb n D rfl hown _ _ rfl hkey ?_; rw [Hh.out]; intro c hat hwc; clear hat hwc))
    go_region_held3 (fun w9 => w9.cell? ⟨l, 2, none⟩ = some (.pointer (some ⟨d, 0, none⟩)) ∧ w9.cell? ⟨l, 3, none⟩ = some (.int .i64 (S : Int))) (first | exact ⟨c2, c3⟩ | exact q2.out | exact q.out)
      (first
        | ((go_at_call 104; refine (home_any (.pointer (some ⟨d, 0, none⟩)) S p _ hS hp rfl).mono ?_; rintro e w1 ⟨rfl, hb1'⟩; have hb1 := undrew1 hb1'; have Hb1 := hid hb1; have H1 := hid (H.out.below hb1); have q := hid (And.intro H1.out.c2 H1.out.c3); clear hb1 hb1'))
        | ((go_at_call 133; refine (at_some H1.out.disk S (S + 1 + p) x Hx.out).mono ?_; rintro e w2 ⟨g1, c1, rfl, ho, hc, hb2⟩; have H2 := hid (H1.out.below hb2); have q2 := hid (And.intro H2.out.c2 H2.out.c3); have Ho := hid ho; have Hb2 := hid hb2; clear ho hb2)))
    clear c2 c3 q q2
    go_wp2
    go_ret
    exact ⟨g1, c1, rfl, Ho.out.mono Hb1.out.size, hc, Hb1.out.trans (Hb2.out.mono Hb1.out.size)⟩

set_option maxHeartbeats 400000 in
theorem logRead_nil (n : Int) (w : World) : Calls Tryz.prog 28 #[.pointer none, .int .i64 n] w fun e w' => e = .returned (.tuple #[.slice none 0 0, .int .i64 1]) ∧ w' = w := by
  go_enter Tryz.func28, Tryz.ntmps28
  go_wp2
  go_ret2
  exact ⟨rfl, rfl⟩
set_option maxHeartbeats 800000 in
theorem logRead_far {w : World} {B l d g cap mb n : Nat} {v : Value} {S G U : Nat} {pl : Nat → Option Nat} {ps : List (List UInt8)} {ch : List (Nat × List UInt8)} (h : LogMem w B l d g cap mb n v S G U pl ps ch) (P : Nat) (hl : ps.length = S + 1 + P) (hm : ps.length ≤ 1024) (p : Int) (hp : p < 0 ∨ (P : Int) ≤ p) :
    Calls Tryz.prog 28 #[.pointer (some ⟨l, 0, none⟩), .int .i64 p] w fun e w' => e = .returned (.tuple #[.slice none 0 0, .int .i64 2]) ∧ Below w.heap.size w w' := by
  have c2 := h.c2
  have c3 := h.c3
  have Hh := hid (has_any h.disk S P hl hm p)
  rw [decide_eq_false (show ¬ (0 ≤ p ∧ p < (P : Int)) by omega)] at Hh
  clear h
  go_enter Tryz.func28, Tryz.ntmps28
  go_wp2_with (go_at_call 81; refine Hh.out.mono ?_; rintro e w1 ⟨rfl, hb1⟩)
  go_ret2
  exact ⟨rfl, hb1⟩
set_option maxHeartbeats 800000 in
theorem logRead_ok {w : World} {B l d g cap mb n : Nat} {v : Value} {S G U : Nat} {pl : Nat → Option Nat} {ps : List (List UInt8)} {ch : List (Nat × List UInt8)} (h : LogMem w B l d g cap mb n v S G U pl ps ch) (P : Nat) (hl : ps.length = S + 1 + P) (hm : ps.length ≤ 1024) (p : Nat) (hp : p < P) (x : List UInt8) (hx : ps[(pl p).getD (S + 1 + p)]? = some x) :
    Calls Tryz.prog 28 #[.pointer (some ⟨l, 0, none⟩), .int .i64 (p : Int)] w fun e w' => ∃ g c, e = .returned (.tuple #[.slice (some ⟨g, 0, none⟩) 256 c, .int .i64 0]) ∧ w'.ownsRow w.heap.size 5 1 (.slice (some ⟨g, 0, none⟩) 256 c) 256 (cellsOf x) ∧ 256 ≤ c ∧ Below w.heap.size w w' := by
  have c2 := h.c2
  have c3 := h.c3
  have H := hid h
  have Hx := hid hx
  have Hh := hid (has_any h.disk S P hl hm p)
  rw [decide_eq_true (show (0 : Int) ≤ (p : Int) ∧ (p : Int) < (P : Int) by omega)] at Hh
  clear h hx
  go_enter Tryz.func28, Tryz.ntmps28
  go_wp2_with (first | (go_at_call 81; refine Hh.out.mono ?_; rintro e w1 ⟨rfl, hb1⟩; have Hn := hid (now_any (H.out.below hb1) p (by omega) (by omega) x Hx.out hm); have Hb1 := hid hb1; clear hb1) | (go_at_call 82; refine Hn.out.mono ?_; rintro e w2 ⟨g1, c1, rfl, ho, hc, hb2⟩; have Ho := hid ho; have Hb2 := hid hb2; clear ho hb2))
  go_ret2
  exact ⟨g1, c1, rfl, Ho.out.mono Hb1.out.size, hc, Hb1.out.trans (Hb2.out.mono Hb1.out.size)⟩

set_option maxHeartbeats 400000 in
theorem logDisk_nil (w : World) : Calls Tryz.prog 31 #[.pointer none] w fun e w' => e = .returned (.pointer none) ∧ w' = w := by
  go_enter Tryz.func31, Tryz.ntmps31
  go_wp2
  go_ret
  exact ⟨rfl, rfl⟩
set_option maxHeartbeats 800000 in
theorem logDisk_ok {w : World} {B l d g cap mb n : Nat} {v : Value} {S G U : Nat} {pl : Nat → Option Nat} {ps : List (List UInt8)} {ch : List (Nat × List UInt8)} (h : LogMem w B l d g cap mb n v S G U pl ps ch) (h1 : 1 ≤ ps.length) (hm : ps.length ≤ 1024) (hch : ch.length ≤ 1000000) :
    Calls Tryz.prog 31 #[.pointer (some ⟨l, 0, none⟩)] w fun e w' => ∃ d' g' cap' v', e = .returned (.pointer (some ⟨d', 0, none⟩)) ∧ DiskAt w' w.heap.size d' g' cap' v' ps ch ∧ Below w.heap.size w w' := by
  have c2 := h.c2
  have Hf := hid (fork_ok h.disk h1 hm hch)
  clear h
  go_enter Tryz.func31, Tryz.ntmps31
  go_wp2_with (go_at_call 46; refine Hf.out.mono ?_; rintro e w1 ⟨d', g', cap', v', rfl, hD, hb⟩; have HD := hid hD; have Hb := hid hb; clear hD hb)
  go_ret
  exact ⟨_, _, _, _, rfl, HD.out, Hb.out⟩
end Go.Proofs.YthdcjepkehifoaaGreat
