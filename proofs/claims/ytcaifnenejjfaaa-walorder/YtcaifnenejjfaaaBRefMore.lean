/- Writes, Read, Blocks, Count of the reference's disks, and SameInts, by contracts. -/
import Derived.Test.YtcaifnenejjfaaaBWrites
namespace Go.Proofs.Ytcaifnenejjfaaa
open Go.RowKit
set_option linter.unusedVariables false
set_option maxRecDepth 20000

theorem RefAt.forms {w : World} {B r : Nat} {F L : Value} {vs us : List Value} {fs : List (List UInt8)} {ls : List (Nat × List UInt8)} (h : RefAt w B r F L vs us fs ls) : (∃ fa fc, F = .slice fa fs.length fc) ∧ ∃ la lc, L = .slice la ls.length lc := by
  refine ⟨?_, ?_⟩
  · rcases h.first.2 with ⟨hv, h0⟩ | ⟨g, cap, cur, hv, _⟩
    · exact ⟨none, 0, by rw [hv, h0]⟩
    · exact ⟨_, _, hv⟩
  · rcases h.log.2 with ⟨hv, h0⟩ | ⟨g', cap', cur', hv, _⟩
    · exact ⟨none, 0, by rw [hv, h0]⟩
    · exact ⟨_, _, hv⟩
theorem RefAt.c0 {w : World} {B r : Nat} {F L : Value} {vs us : List Value} {fs : List (List UInt8)} {ls : List (Nat × List UInt8)} (h : RefAt w B r F L vs us fs ls) : w.cell? ⟨r, 0, none⟩ = some F := cell_of_row _ _ 0 _ _ _ h.obj
theorem RefAt.c1 {w : World} {B r : Nat} {F L : Value} {vs us : List Value} {fs : List (List UInt8)} {ls : List (Nat × List UInt8)} (h : RefAt w B r F L vs us fs ls) : w.cell? ⟨r, 1, none⟩ = some L := cell_of_row _ _ 1 _ _ _ h.obj

set_option maxHeartbeats 800000 in
theorem refBlocks_nil (w : World) : Calls Try.prog 66 #[.pointer none] w fun e w' => e = .returned (.int .i64 0) ∧ w' = w := by
  go_enter Try.func66, Try.ntmps66
  go_wp2
  go_ret
  exact ⟨rfl, rfl⟩
set_option maxHeartbeats 800000 in
theorem refBlocks_any {w : World} {B r : Nat} {F L : Value} {vs us : List Value} {fs : List (List UInt8)} {ls : List (Nat × List UInt8)} (h : RefAt w B r F L vs us fs ls) : Calls Try.prog 66 #[.pointer (some ⟨r, 0, none⟩)] w fun e w' => e = .returned (.int .i64 (fs.length : Int)) ∧ w' = w := by
  obtain ⟨⟨fa, fc, rfl⟩, _⟩ := h.forms
  have c0 := h.c0
  clear h
  go_enter Try.func66, Try.ntmps66
  go_wp2
  go_ret
  exact ⟨rfl, rfl⟩
set_option maxHeartbeats 1600000 in
set_option maxRecDepth 20000 in
theorem sameInts_eq {w : World} {B1 B2 : Nat} {V1 V2 : Value} {l : List Nat} (h1 : w.ownsRow B1 3 1 V1 l.length (nums l)) (h2 : w.ownsRow B2 3 1 V2 l.length (nums l)) (hl : l.length ≤ 1000000) :
    Calls Try.prog 29 #[V1, V2] w fun e w' => e = .returned (.bool true) ∧ Below w.heap.size w w' := by
  obtain ⟨a1, c1, rfl⟩ : ∃ a c, V1 = .slice a l.length c := by
    rcases h1.2 with ⟨hv, h0⟩ | ⟨g, cap, cur, hv, _⟩
    · exact ⟨none, 0, by rw [hv, h0]⟩
    · exact ⟨_, _, hv⟩
  obtain ⟨a2, c2, rfl⟩ : ∃ a c, V2 = .slice a l.length c := by
    rcases h2.2 with ⟨hv, h0⟩ | ⟨g, cap, cur, hv, _⟩
    · exact ⟨none, 0, by rw [hv, h0]⟩
    · exact ⟨_, _, hv⟩
  have H1 := hid h1
  have H2 := hid h2
  clear h1 h2
  go_enter Try.func29, Try.ntmps29
  go_wp2
  go_loopw [5] (fun i wr => ∃ k : Nat, k ≤ l.length ∧ i = .int .i64 (k : Int) ∧ Below w.heap.size w wr) (fun i _ => l.length - (intOf i).toNat)
  case atStart => exact ⟨0, by omega, rfl, Below.refl _ _⟩
  case round =>
    obtain ⟨k, hk, rfl, hB⟩ := hrel
    have HB := hid hB
    clear hB
    by_cases hlt : k < l.length
    · have r1 := own_below H1.out HB.out
      have r2 := own_below H2.out HB.out
      obtain ⟨b1, c1', hv1, _, _⟩ := r1.form (by omega)
      obtain ⟨b2, c2', hv2, _, _⟩ := r2.form (by omega)
      cases hv1
      cases hv2
      have hg : (nums l)[k]? = some (.int .i64 (l[k] : Int)) := by unfold nums; rw [List.getElem?_map, List.getElem?_eq_getElem hlt]; rfl
      have k1 := (r1.cellAt k (by omega)).trans hg
      have k2 := (r2.cellAt k (by omega)).trans hg
      generalize l[k] = N at *
      have f0 : (0 : Int) ≤ (k : Int) := by omega
      have f1 : (k : Int) < (l.length : Int) := by omega
      clear r1 r2 hg
      go_wp2
      go_quiet (fail)
      go_wp2
      go_roundw
      case rel => exact ⟨k + 1, by omega, by go_num, HB.out.trans (below_drewN _ _ _)⟩
      case measure => simp [intOf]; omega
    · have f1 : ¬ (k : Int) < (l.length : Int) := by omega
      go_wp2
      go_ret
      exact ⟨rfl, HB.out⟩
end Go.Proofs.Ytcaifnenejjfaaa
