/- YthfmpebgmojcaaaDoorARPrune + YthfmpebgmojcaaaDoorARAdd6 + YthfmpebgmojcaaaDoorARAddE + YthfmpebgmojcaaaDoorARAdd + YthfmpebgmojcaaaDoorZFork + YthfmpebgmojcaaaDoorZHead + YthfmpebgmojcaaaDoorZText -/
import Derived.Test.YthfmpebgmojcaaaDoorARVer
import Derived.Test.YthfmpebgmojcaaaDoorARw2
import Derived.Test.YthfmpebgmojcaaaDoorALd1
/- The reference's Prune, by a contract. -/
namespace Go.Proofs.YthfmpebgmojcaaaDoor
open Go.RowKit
set_option linter.unusedVariables false
set_option maxRecDepth 20000
attribute [local go_sem ↓] loadH_fold storeH_fold
end Go.Proofs.YthfmpebgmojcaaaDoor
/- The reference's Add: the region that chains the hash, over a frame that is a letter. -/
namespace Go.Proofs.YthfmpebgmojcaaaDoor
open Go.RowKit
set_option linter.unusedVariables false
set_option maxRecDepth 20000
end Go.Proofs.YthfmpebgmojcaaaDoor
/- The reference's Add, by a contract. -/
namespace Go.Proofs.YthfmpebgmojcaaaDoor
open Go.RowKit
set_option linter.unusedVariables false
set_option maxRecDepth 20000
end Go.Proofs.YthfmpebgmojcaaaDoor
/- The reference's Add, by a contract. -/
namespace Go.Proofs.YthfmpebgmojcaaaDoor
open Go.RowKit
set_option linter.unusedVariables false
set_option maxRecDepth 20000
end Go.Proofs.YthfmpebgmojcaaaDoor
/- Forks of both chains; the reference's Head, Anchored and Events. -/
namespace Go.Proofs.YthfmpebgmojcaaaDoor
open Go.RowKit
set_option linter.unusedVariables false
set_option maxRecDepth 20000
end Go.Proofs.YthfmpebgmojcaaaDoor
/- The reference's Head, Anchored and Events. (Printed by gen/zhead.py.) -/
namespace Go.Proofs.YthfmpebgmojcaaaDoor
open Go.RowKit
set_option linter.unusedVariables false
set_option maxRecDepth 20000
end Go.Proofs.YthfmpebgmojcaaaDoor
/- The reference's text of a hash; a law for regions whose operations come in any order. -/
namespace Go.Proofs.YthfmpebgmojcaaaDoor
open Go.RowKit
set_option linter.unusedVariables false
set_option maxRecDepth 20000
theorem conv_own {w : World} {B : Nat} {v : Value} {h : List UInt8} (hl : h.length = 32) (ho : w.ownsRow B 5 1 v h.length (cellsOf h)) : ∃ g cap, v = .slice (some ⟨g, 0, none⟩) h.length cap ∧ (convert 40 9 v).run Tryd.prog w = .ok (.string (mkB h)) w := by
  have ho' := ho
  rcases ho.2 with ⟨_, h0⟩ | ⟨g, cap, cur, rfl, _, hg, _, _, _, ht⟩
  · omega
  · refine ⟨g, cap, rfl, ?_⟩
    refine run_convert_bytes_back (P := Tryd.prog) w 40 9 5 ⟨g, 0, none⟩ cap h Tryd.underlying40 Tryd.underlying5 Tryd.underlying9 (fun j hj => ?_)
    have := ho'.cells (g := g) rfl j (.int .u8 (h[j].toNat : Int)) (by simp [cellsOf, hj])
    exact this
/- a region whose operations come in any order -/
theorem mem_ready {md : Region.Mode} {ops : Array Oper} {l : Array Bool} {i : Nat} : i ∈ Region.ready md ops l ↔ i < ops.size ∧ l.getD i true = false ∧ ((ops[i]?).map (·.after.all fun e => !Region.binds md e || l.getD e.on false)).getD false = true := by
  unfold Region.ready
  rw [List.mem_filter, List.mem_range]
  simp
theorem getD_set_ne (l : Array Bool) (i j : Nat) (b : Bool) (h : i ≠ j) : (l.setIfInBounds i true).getD j b = l.getD j b := by
  by_cases hj : j < l.size
  · simp [Array.getD, hj, h]
  · simp [Array.getD, hj]
end Go.Proofs.YthfmpebgmojcaaaDoor
