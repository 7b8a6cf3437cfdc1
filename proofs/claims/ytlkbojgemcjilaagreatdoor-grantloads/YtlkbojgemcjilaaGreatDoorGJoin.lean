/- strings.Join of a few names; rowOf. -/
import Derived.Test.YtlkbojgemcjilaaGreatDoorGX0
import Derived.Test.YtlkbojgemcjilaaGreatDoorGShelf
namespace Go.Proofs.YtlkbojgemcjilaaGreatDoor.Xr
open Go.RowKit Go.Maps Go.Shelf
set_option linter.unusedVariables false
set_option maxRecDepth 20000
theorem joinX : Builder.Extra Tryz.prog Tryz.laysJoin_ren := {
  sizeBuilder := by kernel_rfl
  liesBuilder := by kernel_rfl
  t5 := Tryz.underlying5
  a5 := Tryz.isAgg5
  z5 := Tryz.sizeOf5
  v5 := Tryz.zeroValue5
  infoByte := by kernel_rfl
  cellsByte := by kernel_rfl
  sizeByte := by kernel_rfl
  neB5 := by decide }
def slashG : ByteArray := ⟨#[47]⟩
theorem join2 (p q : ByteArray) : (⟨(Lib.join ([p, q].map (·.data.toList)) slashG.data.toList).toArray⟩ : ByteArray) = p ++ slashG ++ q := by
  apply ByteArray.ext
  simp [Lib.join, slashG, ByteArray.data_append]
theorem join3 (p q r : ByteArray) : (⟨(Lib.join ([p, q, r].map (·.data.toList)) slashG.data.toList).toArray⟩ : ByteArray) = p ++ slashG ++ q ++ slashG ++ r := by
  apply ByteArray.ext
  simp [Lib.join, slashG, ByteArray.data_append]
theorem join2_any {w : World} {b : Nat} {p q : ByteArray} (h : w.heap[b]? = some (.cells #[.string p, .string q] 9 (0, 0))) (hl : p.size + q.size ≤ 100) :
    Calls Tryz.prog 65 #[.slice (some ⟨b, 0, none⟩) 2 2, .string ⟨#[47]⟩] w fun e w' => e = .returned (.string (p ++ slashG ++ q)) ∧ Below w.heap.size w w' := by
  have c := Any.strings_Join Tryz.laysJoin joinX b 0 2 [p, q] slashG w (fun j x hj => ?_) (heap_lt h) (by simp) (by simp) ?_
  · rw [join2] at c
    exact c
  · rcases j with _ | _ | j
    · simp at hj; subst hj; exact (cell_of_row _ _ 0 _ _ _ h).trans rfl
    · simp at hj; subst hj; exact (cell_of_row _ _ 1 _ _ _ h).trans rfl
    · simp at hj
  · have e1 := Lib.size_eq p
    have e2 := Lib.size_eq q
    simp [Lib.join, slashG]
    omega
theorem join3_any {w : World} {b : Nat} {p q r : ByteArray} (h : w.heap[b]? = some (.cells #[.string p, .string q, .string r] 9 (0, 0))) (hl : p.size + q.size + r.size ≤ 100) :
    Calls Tryz.prog 65 #[.slice (some ⟨b, 0, none⟩) 3 3, .string ⟨#[47]⟩] w fun e w' => e = .returned (.string (p ++ slashG ++ q ++ slashG ++ r)) ∧ Below w.heap.size w w' := by
  have c := Any.strings_Join Tryz.laysJoin joinX b 0 3 [p, q, r] slashG w (fun j x hj => ?_) (heap_lt h) (by simp) (by simp) ?_
  · rw [join3] at c
    exact c
  · rcases j with _ | _ | _ | j
    · simp at hj; subst hj; exact (cell_of_row _ _ 0 _ _ _ h).trans rfl
    · simp at hj; subst hj; exact (cell_of_row _ _ 1 _ _ _ h).trans rfl
    · simp at hj; subst hj; exact (cell_of_row _ _ 2 _ _ _ h).trans rfl
    · simp at hj
  · have e1 := Lib.size_eq p
    have e2 := Lib.size_eq q
    have e3 := Lib.size_eq r
    simp [Lib.join, slashG]
    omega
theorem size_rowG : (Tryz.prog.info? 79).map (·.size) = some 2 := by kernel_rfl
set_option maxHeartbeats 1000000 in
/-- rowOf of names that join to a key -/
theorem rowOf_any {w : World} {b k : Nat} {key : ByteArray} (HJ : ∀ V, Below w.heap.size w V → Calls Tryz.prog 65 #[.slice (some ⟨b, 0, none⟩) k k, .string ⟨#[47]⟩] V fun e w' => e = .returned (.string key) ∧ Below V.heap.size V w') (ca : Option Addr) (cn cc : Nat) :
    Calls Tryz.prog 42 #[.slice (some ⟨b, 0, none⟩) k k, .slice ca cn cc] w fun e w' => e = .returned (.agg #[.string key, .slice ca cn cc]) ∧ Below w.heap.size w w' := by
  have HX := hid HJ
  have b0 := (Below.refl w.heap.size w).alloc (Nat.le_refl _) (.cells #[.string ⟨#[]⟩, .slice none 0 0] 79)
  have x0 := heap_alloc_new w (.cells #[.string ⟨#[]⟩, .slice none 0 0] 79)
  obtain ⟨W0, hW0⟩ : ∃ W0, W0 = w.alloc (.cells #[.string ⟨#[]⟩, .slice none 0 0] 79) := ⟨_, rfl⟩
  rw [← hW0] at b0 x0
  have HW0 := hid hW0.symm
  have B0 := hid b0
  have X0 := hid x0
  clear b0 x0 hW0 HJ
  go_enter Tryz.func42, Tryz.ntmps42
  go_wp2_with (go_at_call 65; rw [HW0.out]; refine (HX.out W0 B0.out).mono ?_; rintro _ w1 ⟨rfl, b1⟩; have B1 := hid (Below.on' B0.out b1); have x1 := (b1.block _ (heap_lt X0.out)).trans X0.out; have X1 := hid x1; have f0 : w1.frozen? ⟨w.heap.size, 0, none⟩ = false := frozen_of_row _ _ 0 _ _ x1; have f1 : w1.frozen? ⟨w.heap.size, 1, none⟩ = false := frozen_of_row _ _ 1 _ _ x1; have c0 : w1.cell? ⟨w.heap.size, 0, none⟩ = some (.string ⟨#[]⟩) := (cell_of_row _ _ 0 _ _ _ x1).trans rfl; have c1 : w1.cell? ⟨w.heap.size, 1, none⟩ = some (.slice none 0 0) := (cell_of_row _ _ 1 _ _ _ x1).trans rfl; have lt1 := heap_lt x1; clear b1 x1)
  obtain ⟨W3, hW3⟩ : ∃ W3, W3 = (w1.setCell ⟨w.heap.size, 0, none⟩ (.string key)).setCell ⟨w.heap.size, 1, none⟩ (.slice ca cn cc) := ⟨_, rfl⟩
  rw [← hW3]
  have x3 : W3.heap[w.heap.size]? = some (.cells #[.string key, .slice ca cn cc] 79 (0, 0)) := by
    rw [hW3, heap_setCell_same _ _ 1 _ _ _ (heap_setCell_same _ _ 0 _ _ _ X1.out)]
    rfl
  have b3 : Below w.heap.size w W3 := by
    rw [hW3]
    exact ((B1.out.setCell (Nat.le_refl _) _).setCell (Nat.le_refl _) _)
  refine bodyPost_ret (results_cell_row rfl _ _ w.heap.size 79 #[.string key, .slice ca cn cc] (0, 0) _ rfl x3 Tryz.underlying79 rfl size_rowG) rfl ?_
  exact ⟨rfl, b3⟩
end Go.Proofs.YtlkbojgemcjilaaGreatDoor.Xr
