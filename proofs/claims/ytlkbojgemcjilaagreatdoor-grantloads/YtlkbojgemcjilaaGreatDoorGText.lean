/- Texts of numbers, for the grants' rows; rows of texts. -/
import Derived.Test.YtlkbojgemcjilaaGreatDoorGRNum
import Derived.Test.YtlkbojgemcjilaaGreatDoorU1
namespace Go.Proofs.YtlkbojgemcjilaaGreatDoor
open Go.RowKit Go.Maps
set_option linter.unusedVariables false
set_option maxRecDepth 20000
def txtJ (n : Nat) : ByteArray := ⟨(numT n).toArray⟩
theorem TabAt.belowJ {w w' : World} (h : TabAt w) (hb : Below w.heap.size w w') : TabAt w' := by
  unfold TabAt at h ⊢
  exact (hb.cell (World.block_lt_of_cell? _ _ h)).trans h
set_option maxHeartbeats 400000 in
theorem textJ_any (n : Nat) (h : n ≤ 4611686018427387904) (w : World) (ht : TabAt w) : Calls Tryz.prog 66 #[.int .i64 (n : Int)] w fun e w' => e = .returned (.string (txtJ n)) ∧ Below w.heap.size w w' := by
  have hn : Calls Tryz.prog 80 #[.int .i64 (n : Int)] w fun e w' => e = .returned (.tuple #[.string (txtJ n), .int .i64 0]) ∧ Below w.heap.size w w' := by
    by_cases h0 : n = 0
    · subst h0
      refine (number_zero w).mono ?_
      rintro e w' ⟨rfl, rfl⟩
      exact ⟨rfl, Below.refl _ _⟩
    · exact number_pos n (by omega) h w ht
  generalize txtJ n = t at *
  go_enter Tryz.func66, Tryz.ntmps66
  go_wp2_with (go_at_call 80; refine hn.mono ?_; rintro e w1 ⟨rfl, hb⟩)
  go_ret
  exact ⟨rfl, hb⟩
def Texts (w : World) (a : Option Addr) (l : List ByteArray) : Prop := ∀ i (h : i < l.length), ∃ b o, a = some ⟨b, o, none⟩ ∧ w.cell? ⟨b, o + i, none⟩ = some (.string l[i])
theorem Texts.below {w w' : World} {a : Option Addr} {l : List ByteArray} (h : Texts w a l) (hb : Below w.heap.size w w') : Texts w' a l := fun i hi => by
  obtain ⟨b, o, ha, hc⟩ := h i hi
  exact ⟨b, o, ha, (hb.cell (World.block_lt_of_cell? _ _ hc)).trans hc⟩
theorem below_drewN (B : Nat) (w : World) (n : Nat) : Below B w (w.drewN n) := ⟨rfl, rfl, rfl, Nat.le_refl _, fun _ _ => rfl⟩
theorem undrew1 {B : Nat} {w w' : World} (h : Below B w.drew w') : Below B w w' := ⟨h.os, h.tape, h.output, h.size, h.block⟩
theorem undrewN {B n : Nat} {w w' : World} (h : Below B (w.drewN n) w') : Below B w w' := ⟨h.os, h.tape, h.output, h.size, h.block⟩
theorem own_mono {w : World} {B B' : Nat} {e : TypeId} {size : Nat} {v : Value} {n : Nat} {xs : List Value} (h : w.ownsRow B e size v n xs) (hB : B' ≤ B) : w.ownsRow B' e size v n xs := by
  refine ⟨h.1, ?_⟩
  rcases h.2 with h | ⟨g, cap, cur, hv, hg, r⟩
  · exact .inl h
  · exact .inr ⟨g, cap, cur, hv, by omega, r⟩
theorem grown_of_below {w w' : World} (h : Below w.heap.size w w') : w.grownBy w' none := ⟨h.os, h.tape, h.output, h.size, fun i hi _ => h.block i hi⟩
theorem str_eqJ (s t : ByteArray) : s = t ↔ s.toList = t.toList := by
  constructor
  · intro e; rw [e]
  · intro e
    rw [Lib.toList_data, Lib.toList_data] at e
    cases s; cases t
    simp at e
    rw [e]
end Go.Proofs.YtlkbojgemcjilaaGreatDoor
