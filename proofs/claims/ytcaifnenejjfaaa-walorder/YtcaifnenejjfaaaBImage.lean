/- Image of package block, by a contract: a row of rows of bytes of one's own. -/
import Derived.Test.YtcaifnenejjfaaaBReplay
namespace Go.Proofs.Ytcaifnenejjfaaa
open Go.RowKit
set_option linter.unusedVariables false
set_option maxRecDepth 20000

/-- rows of bytes in a row -/
structure ImgAt (w : World) (B : Nat) (V : Value) (vs : List Value) (ps : List (List UInt8)) : Prop where
  row : w.ownsRow B 26 1 V ps.length vs
  vlen : vs.length = ps.length
  rows : ∀ i (h : i < ps.length) (h' : i < vs.length), w.ownsRow B 5 1 vs[i] (ps[i]).length (cellsOf ps[i])
theorem ImgAt.below {w w' : World} {B : Nat} {V : Value} {vs : List Value} {ps : List (List UInt8)} (h : ImgAt w B V vs ps) (hb : Below w.heap.size w w') : ImgAt w' B V vs ps :=
  ⟨own_below h.row hb, h.vlen, fun i hi hi' => own_below (h.rows i hi hi') hb⟩
/-- the cell of a row in it, and its bytes -/
theorem ImgAt.cell {w : World} {B : Nat} {V : Value} {vs : List Value} {ps : List (List UInt8)} (h : ImgAt w B V vs ps) {b c : Nat} (hV : V = .slice (some ⟨b, 0, none⟩) ps.length c) (i : Nat) (hi : i < ps.length) : ∃ a cc, w.cell? ⟨b, i, none⟩ = some (.slice a (ps[i]).length cc) ∧ Bytes w a ps[i] ∧ (ps[i]).length ≤ cc := by
  have hi' : i < vs.length := by rw [h.vlen]; exact hi
  obtain ⟨a, cc, hv, hB, hc⟩ := bytes_of_own (h.rows i hi hi')
  refine ⟨a, cc, ?_, hB, hc⟩
  have hrow := h.row
  subst hV
  rw [hrow.cellAt i (by omega), List.getElem?_eq_getElem hi', hv]

theorem made_nils (n : Nat) : (madeCells (Value.slice none 0 0).cells (n * 1)).toList = List.replicate n (.slice none 0 0) := by
  have : (Value.slice none 0 0).cells = #[.slice none 0 0] := rfl
  rw [this, toList_madeCells_one, Nat.mul_one]

end Go.Proofs.Ytcaifnenejjfaaa
