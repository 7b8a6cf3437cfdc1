/- GrantLess, as its row asks. -/
import Derived.Test.YtlkbojgemcjilaaGreatDoorUL3
namespace Go.Proofs.YtlkbojgemcjilaaGreatDoor
open Go.RowKit
theorem grantLess_row {W : World} (l : List GDeed) (a : Option Addr) (cap : Nat) (hl : GDs W a l) (x : GDeed) (hx : x.Ok) (m : Int) (hm : (Lit.int .u8 m).wf = true) (hT : TabAt W) :
    Calls Tryz.prog 5 #[.slice a l.length cap, .agg (gdC x), .int .u8 m] W fun e w' => e = .returned (.bool true) ∧ Below W.heap.size W w' := by
  have hm9 : 0 ≤ m ∧ m ≤ 255 := by simpa [Lit.wf, IntKind.min, IntKind.max, IntKind.signed, IntKind.bits] using hm
  obtain ⟨k, rfl⟩ : ∃ k : Nat, m = (k : Int) := ⟨m.toNat, by omega⟩
  exact grantLess_walk W hT hl cap x hx k (by omega)
end Go.Proofs.YtlkbojgemcjilaaGreatDoor
