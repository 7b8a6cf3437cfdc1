/- Rows of numbers, of flags and of deeds that lie in memory. -/
import Derived.Test.YtcchlcbonfdhpaaDoorSBase
namespace Go.Proofs.YtcchlcbonfdhpaaDoor
open Go.RowKit

theorem addr_add' (b o j : Nat) : (⟨b, o, none⟩ : Addr).add j = ⟨b, o + j, none⟩ := by unfold Addr.add; split <;> simp_all
/-- what a walk is told of a row of numbers of a kind -/
structure KIn (k : IntKind) (w : World) (a : Option Addr) (l : List Int) : Prop where
  cells : ∀ i (h : i < l.length), ∃ b o, a = some ⟨b, o, none⟩ ∧ w.cell? ⟨b, o + i, none⟩ = some (.int k l[i])
  wf : ∀ i (h : i < l.length), (Lit.int k l[i]).wf = true
  length : l.length ≤ maxLen
theorem KIn.below {k : IntKind} {w w' : World} {a : Option Addr} {l : List Int} (h : KIn k w a l) (hb : Below w.heap.size w w') : KIn k w' a l :=
  ⟨fun i hi => by
    obtain ⟨b, o, e, h0⟩ := h.cells i hi
    exact ⟨b, o, e, (hb.cell (World.block_lt_of_cell? _ _ h0)).trans h0⟩, h.wf, h.length⟩
/-- what a walk is told of a row of flags -/
structure BIn (w : World) (a : Option Addr) (l : List Bool) : Prop where
  cells : ∀ i (h : i < l.length), ∃ b o, a = some ⟨b, o, none⟩ ∧ w.cell? ⟨b, o + i, none⟩ = some (.bool l[i])
  length : l.length ≤ maxLen
theorem BIn.below {w w' : World} {a : Option Addr} {l : List Bool} (h : BIn w a l) (hb : Below w.heap.size w w') : BIn w' a l :=
  ⟨fun i hi => by
    obtain ⟨b, o, e, h0⟩ := h.cells i hi
    exact ⟨b, o, e, (hb.cell (World.block_lt_of_cell? _ _ h0)).trans h0⟩, h.length⟩
theorem wf_u8 {n : Int} (h : (Lit.int .u8 n).wf = true) : 0 ≤ n ∧ n ≤ 255 := by simpa [Lit.wf, IntKind.min, IntKind.max, IntKind.signed, IntKind.bits] using h
theorem wf_u16 {n : Int} (h : (Lit.int .u16 n).wf = true) : 0 ≤ n ∧ n ≤ 65535 := by simpa [Lit.wf, IntKind.min, IntKind.max, IntKind.signed, IntKind.bits] using h
theorem wf_i64' {n : Int} (h : (Lit.int .i64 n).wf = true) : -9223372036854775808 ≤ n ∧ n ≤ 9223372036854775807 := by simpa [Lit.wf, IntKind.min, IntKind.max, IntKind.signed, IntKind.bits] using h
end Go.Proofs.YtcchlcbonfdhpaaDoor
