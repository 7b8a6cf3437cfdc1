/- The walk of BlockForks. -/
import Derived.Test.YtcaifnenejjfaaaGreatBFork
namespace Go.Proofs.YtcaifnenejjfaaaGreat
open Go.RowKit
set_option linter.unusedVariables false
set_option maxRecDepth 20000

/-- rows of 256 bytes, whatever they are -/
def Pages256 (w : World) (B : Nat) (vs : List Value) : Prop := ∀ u ∈ vs, ∃ xs : List UInt8, xs.length = 256 ∧ w.ownsRow B 5 1 u 256 (cellsOf xs)
theorem Pages256.store {w : World} {B : Nat} {vs : List Value} (h : Pages256 w B vs) (q : Nat) (b : UInt8) : Pages256 (w.setCell ⟨q, 0, none⟩ (.int .u8 (b.toNat : Int))) B vs := fun u hu => by
  obtain ⟨xs, hl, ho⟩ := h u hu
  obtain ⟨q', c', rfl, _, _⟩ := ho.form (by omega)
  by_cases hq : q' = q
  · subst hq
    refine ⟨xs.set 0 b, by rw [List.length_set]; exact hl, ?_⟩
    rw [← cellsOf_set]
    exact (ho.stored 0 (.int .u8 (b.toNat : Int))).1
  · exact ⟨xs, hl, own_keep ho fun j e => heap_setCell_other _ _ _ _ (fun e' => hq (by rw [← own_slice e]; exact e'))⟩

end Go.Proofs.YtcaifnenejjfaaaGreat
