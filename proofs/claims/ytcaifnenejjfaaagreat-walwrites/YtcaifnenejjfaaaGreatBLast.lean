/- The walk of BlockLast. -/
import Derived.Test.YtcaifnenejjfaaaGreatBImage
namespace Go.Proofs.YtcaifnenejjfaaaGreat
open Go.RowKit
set_option linter.unusedVariables false
set_option maxRecDepth 20000

theorem wPs_ok {ps : List (List UInt8)} {N : Int} {x : List UInt8} (h : wErr ps.length N x.length = 0) : ∃ n : Nat, N = (n : Int) ∧ n < ps.length ∧ x.length = 256 ∧ wPs ps N x = ps.set n x := by
  have h0 := h
  unfold wErr at h
  split at h
  · cases h
  · split at h
    · cases h
    · refine ⟨N.toNat, by omega, by omega, by omega, ?_⟩
      unfold wPs
      rw [if_pos h0]
theorem wPs_bad {ps : List (List UInt8)} {N : Int} {x : List UInt8} (h : wErr ps.length N x.length ≠ 0) : wPs ps N x = ps := by unfold wPs; rw [if_neg h]
theorem ImgAt.keep {w w' : World} {B : Nat} {V : Value} {vs : List Value} {ps : List (List UInt8)} (h : ImgAt w B V vs ps) (hk : ∀ k, B ≤ k → k < w.heap.size → w'.heap[k]? = w.heap[k]?) : ImgAt w' B V vs ps :=
  ⟨own_keep h.row fun k e => hk k (h.row.lt k e).1 (h.row.lt k e).2, h.vlen, fun i hi hi' => own_keep (h.rows i hi hi') fun k e => hk k ((h.rows i hi hi').lt k e).1 ((h.rows i hi hi').lt k e).2⟩

end Go.Proofs.YtcaifnenejjfaaaGreat
