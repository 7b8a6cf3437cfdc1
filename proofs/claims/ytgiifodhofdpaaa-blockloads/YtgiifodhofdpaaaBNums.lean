/- What an argument that is a row of numbers gives to a walk. -/
import Derived.Test.YtgiifodhofdpaaaBLift
import Derived.SliceStrings
import Derived.ChangeSlices
namespace Go.Proofs.Ytgiifodhofdpaaa
open Go.ChangeShapes Go.WideShapes Go.ChangeAt Go.RowKit

/-- what a walk is told of a row of numbers -/
structure NumsIn (w : World) (a : Option Addr) (l : List Int) : Prop where
  cells : ∀ i (h : i < l.length), ∃ b o, a = some ⟨b, o, none⟩ ∧ w.cell? ⟨b, o + i, none⟩ = some (.int .i64 l[i])
  length : l.length ≤ maxLen
theorem NumsIn.below {w w' : World} {a : Option Addr} {l : List Int} (h : NumsIn w a l) (hb : Below w.heap.size w w') : NumsIn w' a l :=
  ⟨fun i hi => by
    obtain ⟨b, o, e, h0⟩ := h.cells i hi
    exact ⟨b, o, e, (hb.cell (World.block_lt_of_cell? _ _ h0)).trans h0⟩, h.length⟩
theorem cellsInt : Try.prog.cellsOf 3 = 1 := by kernel_rfl

theorem open_nums {H : Type} {enc : TypeId × Value → H} {W : World} {a : Option Addr} {len cap : Nat} {d : DataW H} {p : List MemPlace}
    (h : DataW.Trod enc Try.prog W 0 (fun _ => true) true 35 (.slice a len cap) d p) : ∃ l : List Int, l.length = len ∧ NumsIn W a l := by
  obtain ⟨fuel, hf⟩ := h
  rcases open_ints Try.underlying35 Try.underlying3 cellsInt hf with ⟨hcs, _⟩ | ⟨x, l', c', zs, hcs, _, hl, hm, hz, hx, hcell, hwz⟩
  · simp [Value.cells] at hcs
    obtain ⟨rfl, rfl, rfl⟩ := hcs
    exact ⟨[], rfl, fun i hi => by simp at hi, by simp⟩
  · simp [Value.cells] at hcs
    obtain ⟨rfl, rfl, rfl⟩ := hcs
    simp only [Prod.mk.injEq] at hx
    obtain ⟨rfl, _⟩ := hx
    simp only [if_true] at hz
    have hlen : (zs.take len).length = len := by rw [List.length_take]; omega
    refine ⟨zs.take len, hlen, fun i hi => ?_, by rw [hlen]; omega⟩
    obtain ⟨b, o, spot⟩ := x
    have hc := hcell i (by omega)
    have hspot : spot = none := by simpa [Addr.add] using World.cell?_spot (hcell 0 (by omega))
    subst hspot
    refine ⟨b, o, rfl, ?_⟩
    rw [addr_add] at hc
    rw [hc]
    have hi' : i < zs.length := by omega
    simp only [List.getD, List.getElem?_eq_getElem hi', Option.getD_some, List.getElem_take]
end Go.Proofs.Ytgiifodhofdpaaa
