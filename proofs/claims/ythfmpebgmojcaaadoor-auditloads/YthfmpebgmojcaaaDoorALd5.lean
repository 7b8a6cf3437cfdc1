/- YthfmpebgmojcaaaDoorALd1 + YthfmpebgmojcaaaDoorALd5 -/
import Derived.Test.YthfmpebgmojcaaaDoorZRows
import Derived.Test.YthfmpebgmojcaaaDoorZText
import Derived.BigQuiet
/- Loading a chain from its own rows: takeNumbers, by a contract for the right row. -/
namespace Go.Proofs.YthfmpebgmojcaaaDoor
open Go.RowKit
set_option linter.unusedVariables false
set_option maxRecDepth 20000
section
variable {w : World} {B g : Nat} {v : Value} {c : Ch}
theorem ChAt.setBn (h : ChAt w B g v c) (n : Nat) : ChAt (w.setCell ⟨g, 0, none⟩ (.int .i64 (n : Int))) B g v { c with bn := n } := by
  refine ⟨?_, h.row_set 0 [_], h.bg⟩
  rw [heap_setCell_same w g 0 _ _ _ h.obj, List.setIfInBounds_toArray]
  rfl
theorem ChAt.setAn (h : ChAt w B g v c) (ok : Lens c) (n : Nat) : ChAt (w.setCell ⟨g, 33, none⟩ (.int .i64 (n : Int))) B g v { c with an := n } := by
  refine ⟨?_, h.row_set 33 [_], h.bg⟩
  rw [heap_setCell_same w g 33 _ _ _ h.obj, List.setIfInBounds_toArray]
  unfold ccells
  rw [show lnkC c.an c.ah = .int .i64 (c.an : Int) :: cellsOf c.ah from rfl, List.cons_append, set_mid _ _ _ _ 33 (by simp [lnkC_length, ok.lb])]
  rfl
end
end Go.Proofs.YthfmpebgmojcaaaDoor
/- Loading a chain: lastAt, by a contract. -/
namespace Go.Proofs.YthfmpebgmojcaaaDoor
open Go.RowKit
set_option linter.unusedVariables false
set_option maxRecDepth 20000
def lastT (c : Ch) : Nat := (c.ev.getLast?.map (·.tim)).getD 0
set_option maxHeartbeats 1000000 in
theorem lastAt_any {w : World} {B g : Nat} {v : Value} {c : Ch} (h : ChAt w B g v c) (ok : Lens c) (hfew : c.ev.length ≤ 1000) :
    Calls Tryd.prog 74 #[.pointer (some ⟨g, 0, none⟩)] w fun e w' => e = .returned (.int .i64 (lastT c : Int)) ∧ Below w.heap.size w w' := by
  obtain ⟨a0, cap, rfl⟩ := h.val
  have c66 := h.c66 ok
  by_cases h0 : c.ev.length = 0
  · have hl : lastT c = 0 := by unfold lastT; rw [List.eq_nil_of_length_eq_zero h0]; rfl
    rw [hl]
    rw [h0] at c66
    clear h hl h0
    go_enter Tryd.func74, Tryd.ntmps74
    go_wp2
    go_ret
    exact ⟨rfl, Below.refl _ _⟩
  · obtain ⟨n, hn⟩ : ∃ n, c.ev.length = n + 1 := ⟨c.ev.length - 1, by omega⟩
    obtain ⟨b, rfl, hrow⟩ := h.row_at n (by omega)
    have d1 : w.cell? ⟨b, n * 4 + 1, none⟩ = some (.int .i64 ((c.ev[n]'(by omega)).tim : Int)) := hrow 1 _ rfl
    have hl : lastT c = (c.ev[n]'(by omega)).tim := by
      unfold lastT
      rw [List.getLast?_eq_getElem?, List.getElem?_eq_getElem (by omega)]
      simp [hn]
    rw [hl]
    generalize (c.ev[n]'(by omega)).tim = q at *
    rw [hn] at c66
    have g1 : (((n + 1 : Nat) : Int) == 0) = false := by rw [beq_eq_false_iff_ne]; omega
    have hn1 : n ≤ 1000 := by omega
    have Hl := hid hl
    clear h hrow hl h0 hn hfew Hl
    go_enter Tryd.func74, Tryd.ntmps74
    go_wp2_with fail
    go_quiet (fail)
    go_wp2
    go_ret
    exact ⟨rfl, ⟨rfl, rfl, rfl, Nat.le_refl _, fun _ _ => rfl⟩⟩
end Go.Proofs.YthfmpebgmojcaaaDoor
