/- Disks: how one lies in memory; bytes in rows; the plainest functions of package block and of the laws on it, each by a contract. -/
import Derived.Test.YthdcjepkehifoaaGreatRows
import Derived.WalkKit
import Derived.WalkSpells
import Derived.WalkLawsBesides
import Derived.RegionTactic
import Derived.BigQuiet
import Derived.Deep.QuietTactic
import Derived.Deep.RegionHeld3
import Derived.Deep.AppendLies
import Derived.Deep.DrawnRows
import Derived.Laws.CopyOwn
import Derived.Laws.LoneSync
namespace Go.Proofs.YthdcjepkehifoaaGreat
open Go.RowKit
set_option linter.unusedVariables false
set_option maxRecDepth 20000

theorem hid {p : Prop} (h : p) : Hid p := h
theorem ret_bool {a b : Bool} (h : a = b) : Ending.returned (.bool a) = .returned (.bool b) := by rw [h]
theorem ret_int {k : IntKind} {a b : Int} (h : a = b) : Ending.returned (.int k a) = .returned (.int k b) := by rw [h]

/-- bytes that lie in a row of the world -/
def Bytes (w : World) (a : Option Addr) (l : List UInt8) : Prop := ∀ i (h : i < l.length), ∃ b o, a = some ⟨b, o, none⟩ ∧ w.cell? ⟨b, o + i, none⟩ = some (.int .u8 (l[i].toNat : Int))
theorem Bytes.below {w w' : World} {a : Option Addr} {l : List UInt8} (h : Bytes w a l) (hb : Below w.heap.size w w') : Bytes w' a l := fun i hi => by
  obtain ⟨b, o, ha, hc⟩ := h i hi
  exact ⟨b, o, ha, (hb.cell (World.block_lt_of_cell? _ _ hc)).trans hc⟩

/-- bytes as cells -/
def cellsOf (l : List UInt8) : List Value := l.map fun c => .int .u8 (c.toNat : Int)
theorem addr_add (b o j : Nat) : (⟨b, o, none⟩ : Addr).add j = ⟨b, o + j, none⟩ := by unfold Addr.add; split <;> simp_all
theorem cellsOf_append (a b : List UInt8) : cellsOf (a ++ b) = cellsOf a ++ cellsOf b := by simp [cellsOf]
theorem cellsOf_length (a : List UInt8) : (cellsOf a).length = a.length := by simp [cellsOf]
theorem cellsOf_one (a : List UInt8) : ∀ u ∈ cellsOf a, u.oneCell' = true := by
  intro u hu
  obtain ⟨c, _, rfl⟩ := List.mem_map.1 hu
  rfl
theorem cellsOf_get (l : List UInt8) (j : Nat) (h : j < l.length) : (cellsOf l)[j]? = some (.int .u8 (l[j].toNat : Int)) := by
  simp [cellsOf, h]

theorem Tryz.info5 : (Tryz.prog.info? 5).map (fun i => (i.zero, i.size, i.bytes)) = some (some (.int .u8 0), 1, 1) := by kernel_rfl

theorem bytes_of_own {w : World} {B e : Nat} {v : Value} {n : Nat} {l : List UInt8} (h : w.ownsRow B e 1 v n (cellsOf l)) : ∃ a cap, v = .slice a l.length cap ∧ Bytes w a l ∧ l.length ≤ cap := by
  have hn : l.length = n := by have := h.1; simpa [cellsOf_length] using this
  subst hn
  rcases h.2 with ⟨rfl, h0⟩ | ⟨g, cap, cur, rfl, hb, hg, hc, hm, hs, ht⟩
  · refine ⟨none, 0, by rw [h0], fun i hi => ?_, by omega⟩
    omega
  · refine ⟨some ⟨g, 0, none⟩, cap, rfl, fun i hi => ⟨g, 0, rfl, ?_⟩, hc⟩
    have := World.ownsRow.cellAt h i (by omega)
    rw [Nat.zero_add, this, cellsOf_get l i hi]

theorem _root_.Go.World.ownsRow.mono {w : World} {B B' : Nat} {e : TypeId} {size : Nat} {v : Value} {n : Nat} {xs : List Value} (h : w.ownsRow B e size v n xs) (hB : B' ≤ B) : w.ownsRow B' e size v n xs := by
  refine ⟨h.1, ?_⟩
  rcases h.2 with h | ⟨g, cap, cur, hv, hg, r⟩
  · exact .inl h
  · exact .inr ⟨g, cap, cur, hv, by omega, r⟩

/-- a run of one byte, laid over so many zeros -/
def laid (n k : Nat) (b : UInt8) : List UInt8 := List.replicate k b ++ List.replicate (n - k) 0
theorem laid_length (n k : Nat) (b : UInt8) (h : k ≤ n) : (laid n k b).length = n := by simp [laid]; omega
theorem laid_zero (n : Nat) (b : UInt8) : laid n 0 b = List.replicate n 0 := by simp [laid]
theorem laid_all (n : Nat) (b : UInt8) : laid n n b = List.replicate n b := by simp [laid]
theorem laid_set (n k : Nat) (b : UInt8) (h : k < n) : (cellsOf (laid n k b)).set k (.int .u8 (b.toNat : Int)) = cellsOf (laid n (k + 1) b) := by
  have e : n - k = (n - (k + 1)) + 1 := by omega
  have e2 : laid n k b = List.replicate k b ++ 0 :: List.replicate (n - (k + 1)) 0 := by unfold laid; rw [e, List.replicate_succ]
  have e3 : laid n (k + 1) b = List.replicate k b ++ b :: List.replicate (n - (k + 1)) 0 := by unfold laid; rw [List.replicate_succ', List.append_assoc]; rfl
  rw [e2, e3]
  simp only [cellsOf, List.map_append, List.map_cons]
  rw [List.set_append_right _ _ (by simp)]
  simp
theorem made_zeros (n : Nat) : (madeCells (Value.int .u8 0).cells (n * 1)).toList = cellsOf (List.replicate n 0) := by
  have : (Value.int .u8 0).cells = #[.int .u8 0] := rfl
  rw [this, toList_madeCells_one, Nat.mul_one]
  simp [cellsOf]

/-- the length of a deed's bytes -/
def deedLen (L : Int) : Nat := if L < 0 ∨ 300 < L then 256 else L.toNat
theorem deedLen_le (L : Int) : deedLen L ≤ 300 := by unfold deedLen; split <;> omega
/-- a deed's bytes -/
def deedOf (L : Int) (b : UInt8) : List UInt8 := List.replicate (deedLen L) b

end Go.Proofs.YthdcjepkehifoaaGreat
