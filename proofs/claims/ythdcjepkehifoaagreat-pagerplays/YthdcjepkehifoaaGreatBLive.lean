/- live of the laws of layer 1: it tells true. -/
import Derived.Test.YthdcjepkehifoaaGreatBSame
namespace Go.Proofs.YthdcjepkehifoaaGreat
open Go.RowKit
set_option linter.unusedVariables false
set_option maxRecDepth 20000

theorem two_pages : List.replicate 2 zpage = [zpage, zpage] := rfl
theorem zpage_length : zpage.length = 256 := List.length_replicate
theorem zpage_cell {w : World} {b : Nat} (h : Bytes w (some ⟨b, 0, none⟩) zpage) : w.cell? ⟨b, 0, none⟩ = some (.int .u8 0) := by
  obtain ⟨b', o', e, hc⟩ := h 0 (by rw [zpage_length]; omega)
  cases e
  have : (zpage[0]'(by rw [zpage_length]; omega)) = 0 := List.getElem_replicate ..
  rw [this] at hc
  exact hc

end Go.Proofs.YthdcjepkehifoaaGreat
