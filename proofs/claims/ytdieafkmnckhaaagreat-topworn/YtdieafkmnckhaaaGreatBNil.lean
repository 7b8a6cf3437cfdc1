/- What a nil disk answers, and the walk of BlockNone. -/
import Derived.Test.YtdieafkmnckhaaaGreatBLive
namespace Go.Proofs.YtdieafkmnckhaaaGreat
open Go.RowKit
set_option linter.unusedVariables false
set_option maxRecDepth 20000

theorem run_eql_nil_ptr {P : Program} (w : World) (t : TypeId) (a : Addr) (h : P.underlying t = some (.pointer (P.pointee t))) :
    (binOp .eql t (.pointer none) (.pointer (some a))).run P w = .ok (.bool false) w := by
  have e' : ∀ d : Nat, (Op.equalIn (d + 1) t (.pointer none) (.pointer (some a))).run P w = .ok false w := fun d => by simp [Op.equalIn, run_underlying h]
  have e : (Op.equal t (.pointer none) (.pointer (some a))).run P w = .ok false w := e' 9999
  simp only [binOp]
  simp [e]
attribute [local go_sem] run_eql_nil_ptr
set_option maxHeartbeats 800000 in
theorem image_nil (w : World) : Calls Tryz.prog 27 #[.pointer none] w fun e w' => e = .returned (.slice none 0 0) ∧ w' = w := by
  go_enter Tryz.func27, Tryz.ntmps27
  go_wp2
  go_ret
  exact ⟨rfl, rfl⟩
set_option maxHeartbeats 800000 in
theorem fork_nil (w : World) : Calls Tryz.prog 64 #[.pointer none] w fun e w' => e = .returned (.pointer none) ∧ w' = w := by
  go_enter Tryz.func64, Tryz.ntmps64
  go_wp2
  go_ret
  exact ⟨rfl, rfl⟩
end Go.Proofs.YtdieafkmnckhaaaGreat
