/- Small questions to both logs, to nil ones too. -/
import Derived.Test.YthdcjepkehifoaaGreatWLaw
namespace Go.Proofs.YthdcjepkehifoaaGreat
open Go.RowKit Go.Maps
set_option linter.unusedVariables false
set_option maxRecDepth 20000

theorem touchedNil' (w : World) : Calls Tryz.prog 26 #[.pointer none] w fun e w' => e = .returned (.slice none 0 0) ∧ w' = w := by
  go_enter Tryz.func26, Tryz.ntmps26
  go_wp2
  go_ret
  exact ⟨rfl, rfl⟩
theorem checkNil' (w : World) : Calls Tryz.prog 50 #[.pointer none] w fun e w' => e = .returned (.int .i64 1) ∧ w' = w := by
  go_enter Tryz.func50, Tryz.ntmps50
  go_wp2
  go_ret
  exact ⟨rfl, rfl⟩
theorem rpages_nil (w : World) : Calls Tryz.prog 18 #[.pointer none] w fun e w' => e = .returned (.int .i64 0) ∧ w' = w := by
  go_enter Tryz.func18, Tryz.ntmps18
  go_wp2
  go_ret
  exact ⟨rfl, rfl⟩
theorem rused_nil (w : World) : Calls Tryz.prog 20 #[.pointer none] w fun e w' => e = .returned (.int .i64 0) ∧ w' = w := by
  go_enter Tryz.func20, Tryz.ntmps20
  go_wp2
  go_ret
  exact ⟨rfl, rfl⟩
theorem rfree_nil (w : World) : Calls Tryz.prog 22 #[.pointer none] w fun e w' => e = .returned (.int .i64 0) ∧ w' = w := by
  go_enter Tryz.func22, Tryz.ntmps22
  go_wp2
  go_ret
  exact ⟨rfl, rfl⟩
theorem rgroups_nil (w : World) : Calls Tryz.prog 24 #[.pointer none] w fun e w' => e = .returned (.int .i64 0) ∧ w' = w := by
  go_enter Tryz.func24, Tryz.ntmps24
  go_wp2
  go_ret
  exact ⟨rfl, rfl⟩
theorem rdisk_nil (w : World) : Calls Tryz.prog 33 #[.pointer none] w fun e w' => e = .returned (.pointer none) ∧ w' = w := by
  go_enter Tryz.func33, Tryz.ntmps33
  go_wp2
  go_ret
  exact ⟨rfl, rfl⟩
theorem rread_nil (n : Int) (w : World) : Calls Tryz.prog 29 #[.pointer none, .int .i64 n] w fun e w' => e = .returned (.tuple #[.slice none 0 0, .int .i64 1]) ∧ w' = w := by
  go_enter Tryz.func29, Tryz.ntmps29
  go_wp2
  go_ret2
  exact ⟨rfl, rfl⟩
theorem rcommit_nil (a : Option Addr) (n c : Nat) (w : World) : Calls Tryz.prog 75 #[.pointer none, .slice a n c] w fun e w' => e = .returned (.int .i64 1) ∧ w' = w := by
  go_enter Tryz.func75, Tryz.ntmps75
  go_wp2
  go_ret
  exact ⟨rfl, rfl⟩
theorem rcheck_nil (w : World) : Calls Tryz.prog 74 #[.pointer none] w fun e w' => e = .returned (.int .i64 1) ∧ w' = w := by
  go_enter Tryz.func74, Tryz.ntmps74
  go_wp2
  go_ret
  exact ⟨rfl, rfl⟩
theorem refOpen_nil (S : Int) (w : World) : Calls Tryz.prog 44 #[.pointer none, .int .i64 S] w fun e w' => e = .returned (.tuple #[.pointer none, .int .i64 1]) ∧ w' = w := by
  go_enter Tryz.func44, Tryz.ntmps44
  go_wp2
  go_ret2
  exact ⟨rfl, rfl⟩
theorem rtouched_nil (w : World) : Calls Tryz.prog 27 #[.pointer none] w fun e w' => e = .returned (.slice none 0 0) ∧ w' = w := by
  go_enter Tryz.func27, Tryz.ntmps27
  go_wp2
  go_loopw [3, 4] (fun v i wr => v = .slice none 0 0 ∧ i = .int .i64 0 ∧ wr = w) (fun _ _ _ => 0)
  case atStart => exact ⟨rfl, rfl, rfl⟩
  case round =>
    obtain ⟨rfl, rfl, rfl⟩ := hrel
    go_wp2_with (fail)
    refine (rpages_nil _).mono ?_
    rintro e u ⟨rfl, hu⟩
    subst u
    go_wp2
    go_ret
    exact ⟨rfl, rfl⟩
set_option maxHeartbeats 400000 in
theorem rfree_any {w : World} {B m r : Nat} {F L : Value} {vs us : List Value} {S G U : Nat} {fs : List (List UInt8)} {ls : List (Nat × List UInt8)} (h : RefLog w B m r F L vs us S G U fs ls) (hS : S ≤ 65536) (hU : U ≤ S) :
    Calls Tryz.prog 22 #[.pointer (some ⟨m, 0, none⟩)] w fun e w' => e = .returned (.int .i64 ((S : Int) - (U : Int))) ∧ Below w.heap.size w w' := by
  have c1 := h.c1
  have c3 := h.c3
  have g1 : IntKind.i64.wrap ((S : Int) - (U : Int)) = (S : Int) - (U : Int) := by rw [IntKind.wrap_i64]; omega
  clear h
  go_enter Tryz.func22, Tryz.ntmps22
  go_wp2
  go_quiet (fail)
  go_wp2
  go_ret
  exact ⟨rfl, below_drewN _ _ _⟩
set_option maxHeartbeats 400000 in
theorem rread_far {w : World} {B m r : Nat} {F L : Value} {vs us : List Value} {S G U : Nat} {fs : List (List UInt8)} {ls : List (Nat × List UInt8)} (h : RefLog w B m r F L vs us S G U fs ls) (P : Nat) (hl : fs.length = S + 1 + P) (hm : fs.length ≤ 1024) (p : Int) (hp : p < 0 ∨ (P : Int) ≤ p) :
    Calls Tryz.prog 29 #[.pointer (some ⟨m, 0, none⟩), .int .i64 p] w fun e w' => e = .returned (.tuple #[.slice none 0 0, .int .i64 2]) ∧ Below w.heap.size w w' := by
  have Hpg := hid (rpages_any h P hl hm)
  clear h
  rcases (show p < 0 ∨ (¬ p < 0 ∧ (P : Int) ≤ p) by omega) with h1 | ⟨h1, h2⟩
  · clear hp
    go_enter Tryz.func29, Tryz.ntmps29
    go_wp2
    go_ret2
    exact ⟨rfl, Below.refl _ _⟩
  · clear hp
    go_enter Tryz.func29, Tryz.ntmps29
    go_wp2_with (fail)
    refine Hpg.out.mono ?_
    rintro e w1 ⟨rfl, hb1⟩
    have HB := hid hb1
    clear hb1
    go_wp2
    go_ret2
    exact ⟨rfl, HB.out⟩
set_option maxHeartbeats 400000 in
theorem refFork_ok {w : World} {B r : Nat} {F L : Value} {vs us : List Value} {fs : List (List UInt8)} {ls : List (Nat × List UInt8)} (h : RefAt w B r F L vs us fs ls) (hB : B ≤ w.heap.size) :
    Calls Tryz.prog 84 #[.pointer (some ⟨r, 0, none⟩)] w fun e w' => ∃ f, e = .returned (.pointer (some ⟨f, 0, none⟩)) ∧ RefAt w' B f F L vs us fs ls ∧ Below w.heap.size w w' := by
  have H := hid h
  have c0 := cell_of_row _ _ 0 _ _ _ h.obj
  have c1 := cell_of_row _ _ 1 _ _ _ h.obj
  simp only [List.getElem?_toArray, List.getElem?_cons_zero, List.getElem?_cons_succ] at c0 c1
  obtain ⟨fa, fn, fc, rfl⟩ : ∃ fa fn fc, F = .slice fa fn fc := by
    rcases h.first.2 with ⟨hv, h0⟩ | ⟨g, cap, cur, hv, _⟩
    · exact ⟨none, 0, 0, hv⟩
    · exact ⟨_, _, _, hv⟩
  obtain ⟨la, ln, lc, rfl⟩ : ∃ la ln lc, L = .slice la ln lc := by
    rcases h.log.2 with ⟨hv, h0⟩ | ⟨g, cap, cur, hv, _⟩
    · exact ⟨none, 0, 0, hv⟩
    · exact ⟨_, _, _, hv⟩
  clear h
  go_enter Tryz.func84, Tryz.ntmps84
  go_wp2
  go_region
  all_goals
    go_wp2
    go_ret
    refine ⟨_, rfl, ?_, ?_⟩
    · have hlt := H.out.lts
      have hb : Below w.heap.size w (w.alloc (.cells #[.slice fa fn fc, .slice la ln lc] 125)).drew := ((Below.refl _ w).alloc (Nat.le_refl _) _).trans (below_drewN _ _ 1)
      have h1 := H.out.below hb
      exact ⟨heap_alloc_new w _, h1.first, h1.vlen, h1.rows, h1.log, h1.ulen, h1.lrows, h1.lnil, hB, fun k hk => by have := (hlt.2 k hk).2; omega⟩
    · exact ((Below.refl _ w).alloc (Nat.le_refl _) _).trans (below_drewN _ _ 1)
set_option maxHeartbeats 400000 in
theorem rdisk_any {w : World} {B m r : Nat} {F L : Value} {vs us : List Value} {S G U : Nat} {fs : List (List UInt8)} {ls : List (Nat × List UInt8)} (h : RefLog w B m r F L vs us S G U fs ls) (hB : B ≤ w.heap.size) :
    Calls Tryz.prog 33 #[.pointer (some ⟨m, 0, none⟩)] w fun e w' => ∃ f, e = .returned (.pointer (some ⟨f, 0, none⟩)) ∧ RefAt w' B f F L vs us fs ls ∧ Below w.heap.size w w' := by
  have Hf := hid (refFork_ok h.disk hB)
  have c0 := h.c0
  clear h
  go_enter Tryz.func33, Tryz.ntmps33
  go_wp2_with (fail)
  refine Hf.out.mono ?_
  rintro e w1 ⟨f, rfl, hR, hb⟩
  have HR := hid hR
  have HB := hid hb
  clear hR hb
  go_wp2
  go_ret
  exact ⟨f, rfl, HR.out, HB.out⟩
set_option maxHeartbeats 800000 in
theorem refOpen_range {w : World} {B r : Nat} {F L : Value} {vs us : List Value} {fs : List (List UInt8)} {ls : List (Nat × List UInt8)} (h : RefAt w B r F L vs us fs ls) (hm : fs.length ≤ 1024) (S : Int) (hS : S < 2 ∨ (fs.length : Int) - 2 < S) :
    Calls Tryz.prog 44 #[.pointer (some ⟨r, 0, none⟩), .int .i64 S] w fun e w' => e = .returned (.tuple #[.pointer none, .int .i64 2]) ∧ Below w.heap.size w w' := by
  have Hbl := hid (refBlocks_any h)
  have f1 : IntKind.i64.wrap ((fs.length : Int) - 2) = (fs.length : Int) - 2 := by rw [IntKind.wrap_i64]; omega
  generalize fs.length = n at *
  clear h
  rcases (show S < 2 ∨ (¬ S < 2 ∧ (n : Int) - 2 < S) by omega) with h1 | ⟨h1, h2⟩
  · clear hS
    go_enter Tryz.func44, Tryz.ntmps44
    go_wp2
    go_ret2
    exact ⟨rfl, Below.refl _ _⟩
  · clear hS
    go_enter Tryz.func44, Tryz.ntmps44
    go_wp2_with (fail)
    refine Hbl.out.mono ?_
    rintro e w1 ⟨rfl, hu⟩
    subst w1
    go_wp2
    go_ret2
    exact ⟨rfl, Below.refl _ _⟩
end Go.Proofs.YthdcjepkehifoaaGreat
