/- play without disks, and the walk of BlockPlays. -/
import Derived.Test.YtcaifnenejjfaaaGreatBRefRead
namespace Go.Proofs.YtcaifnenejjfaaaGreat
open Go.RowKit
set_option linter.unusedVariables false
set_option maxRecDepth 20000

set_option maxHeartbeats 800000 in
theorem refWrite_nil (n : Int) (a : Option Addr) (l c : Nat) (w : World) :
    Calls Tryz.prog 82 #[.pointer none, .int .i64 n, .slice a l c] w fun e w' => e = .returned (.int .i64 1) ∧ w' = w := by
  go_enter Tryz.func82, Tryz.ntmps82
  go_wp2
  go_ret
  exact ⟨rfl, rfl⟩

end Go.Proofs.YtcaifnenejjfaaaGreat
