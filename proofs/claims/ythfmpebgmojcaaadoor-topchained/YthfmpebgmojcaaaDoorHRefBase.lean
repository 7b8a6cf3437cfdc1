/- YthfmpebgmojcaaaDoorHRef + YthfmpebgmojcaaaDoorHYields + YthfmpebgmojcaaaDoorHRefBase -/
import Derived.Test.YthfmpebgmojcaaaDoorHDerive
import Derived.Deep.QuietTactic
import Derived.BigQuiet
import Derived.BigRegion
/- The reference's words: turn, constants. -/
namespace Go.Proofs.YthfmpebgmojcaaaDoor
open Go.RowKit
set_option linter.unusedVariables false
set_option maxRecDepth 100000
def kcells : Array Value := #[.int .u32 1116352408, .int .u32 1899447441, .int .u32 3049323471, .int .u32 3921009573, .int .u32 961987163, .int .u32 1508970993, .int .u32 2453635748, .int .u32 2870763221, .int .u32 3624381080, .int .u32 310598401, .int .u32 607225278, .int .u32 1426881987, .int .u32 1925078388, .int .u32 2162078206, .int .u32 2614888103, .int .u32 3248222580, .int .u32 3835390401, .int .u32 4022224774, .int .u32 264347078, .int .u32 604807628, .int .u32 770255983, .int .u32 1249150122, .int .u32 1555081692, .int .u32 1996064986, .int .u32 2554220882, .int .u32 2821834349, .int .u32 2952996808, .int .u32 3210313671, .int .u32 3336571891, .int .u32 3584528711, .int .u32 113926993, .int .u32 338241895, .int .u32 666307205, .int .u32 773529912, .int .u32 1294757372, .int .u32 1396182291, .int .u32 1695183700, .int .u32 1986661051, .int .u32 2177026350, .int .u32 2456956037, .int .u32 2730485921, .int .u32 2820302411, .int .u32 3259730800, .int .u32 3345764771, .int .u32 3516065817, .int .u32 3600352804, .int .u32 4094571909, .int .u32 275423344, .int .u32 430227734, .int .u32 506948616, .int .u32 659060556, .int .u32 883997877, .int .u32 958139571, .int .u32 1322822218, .int .u32 1537002063, .int .u32 1747873779, .int .u32 1955562222, .int .u32 2024104815, .int .u32 2227730452, .int .u32 2361852424, .int .u32 2428436474, .int .u32 2756734187, .int .u32 3204031479, .int .u32 3329325298]
end Go.Proofs.YthfmpebgmojcaaaDoor
/- Operations on words that yield without a walk: for regions that are gone through by hand. -/
namespace Go.Proofs.YthfmpebgmojcaaaDoor
open Go.RowKit
set_option linter.unusedVariables false
set_option maxRecDepth 20000
section
variable {ops : Array Oper} {S : World → Prop} {op : Oper} {a : Act}
end
end Go.Proofs.YthfmpebgmojcaaaDoor
/- What the walk of the reference's Sum leans on. -/
namespace Go.Proofs.YthfmpebgmojcaaaDoor
open Go.RowKit
set_option linter.unusedVariables false
set_option maxRecDepth 100000
structure BL (N gm : Nat) (cur : Array Value) (V wr : World) (s : S8) : Prop where
  h : wr.heap[N + 1]? = some (.cells s.vals 129 (0, 0))
  k : wr.heap[N + 1 + 1]? = some (.cells kcells 129 (0, 0))
  m : wr.heap[gm]? = some (.cells cur 5 (0, 0))
  bel : Below (N + 1) V wr
theorem BL.below {N gm : Nat} {cur : Array Value} {V wr wr' : World} {s : S8} (h : BL N gm cur V wr s) (hb : Below wr.heap.size wr wr') : BL N gm cur V wr' s :=
  ⟨(hb.block _ (heap_lt h.h)).trans h.h, (hb.block _ (heap_lt h.k)).trans h.k, (hb.block _ (heap_lt h.m)).trans h.m, h.bel.trans (hb.mono (Nat.le_of_lt (heap_lt h.h)))⟩
theorem BL.alloc {N gm : Nat} {cur : Array Value} {V wr : World} {s : S8} (h : BL N gm cur V wr s) (o : Obj) : BL N gm cur V (wr.alloc o) s := h.below ((Below.refl _ _).alloc (Nat.le_refl _) _)
theorem BL.other {N gm : Nat} {cur : Array Value} {V wr wr' : World} {s : S8} (h : BL N gm cur V wr s) (g : Nat) (h1 : g ≠ N + 1) (h2 : g ≠ N + 1 + 1) (h3 : g ≠ gm) (h4 : N + 1 ≤ g) (hb : ∀ k, k ≠ g → wr'.heap[k]? = wr.heap[k]?) (hbel : Below (N + 1) wr wr') : BL N gm cur V wr' s :=
  ⟨(hb _ (Ne.symm h1)).trans h.h, (hb _ (Ne.symm h2)).trans h.k, (hb _ (Ne.symm h3)).trans h.m, h.bel.trans hbel⟩
def VW (w : World) (g : Nat) (s : S8) : Prop := ∀ q (h : q < 8), w.cell? ⟨g, q, none⟩ = some (vw (s.toL[q]'h))
theorem VW.below {w w' : World} {g : Nat} {s : S8} (h : VW w g s) (hb : Below w.heap.size w w') : VW w' g s := fun q hq => (hb.cell (World.block_lt_of_cell? _ _ (h q hq))).trans (h q hq)
end Go.Proofs.YthfmpebgmojcaaaDoor
