/- What the texts on hashes share; words as values; turned. -/
import Derived.Test.YtkgengiopjjhbaaDoorRows
import Derived.Test.YtkgengiopjjhbaaDoorHMath
import Derived.WalkKit
import Derived.WalkSpells
import Derived.WalkLawsBesides
import Derived.RegionTactic
import Derived.BigQuiet
import Derived.Deep.QuietTactic
import Derived.Deep.RegionHeld3
import Derived.Deep.AppendLies
import Derived.Deep.DrawnRows
import Derived.Deep.WholeRow
import Derived.Laws.CopyOwn
import Derived.Laws.LoneSync
namespace Go.Proofs.YtkgengiopjjhbaaDoor
open Go.RowKit
set_option linter.unusedVariables false
set_option maxRecDepth 20000

theorem hid {p : Prop} (h : p) : Hid p := h
theorem ret_bool {a b : Bool} (h : a = b) : Ending.returned (.bool a) = .returned (.bool b) := by rw [h]
theorem ret_int {k : IntKind} {a b : Int} (h : a = b) : Ending.returned (.int k a) = .returned (.int k b) := by rw [h]
theorem ret_two {a b c d : Value} (h1 : a = c) (h2 : b = d) : Ending.returned (.tuple #[a, b]) = .returned (.tuple #[c, d]) := by rw [h1, h2]
theorem Below.on' {w w1 w2 : World} (h : Below w.heap.size w w1) (k : Below w1.heap.size w1 w2) : Below w.heap.size w w2 := h.trans (k.mono h.size)

theorem undrew1 {B : Nat} {w w' : World} (h : Below B w.drew w') : Below B w w' := ⟨h.os, h.tape, h.output, h.size, h.block⟩
theorem undrewN {B n : Nat} {w w' : World} (h : Below B (w.drewN n) w') : Below B w w' := ⟨h.os, h.tape, h.output, h.size, h.block⟩
theorem _root_.Go.RowKit.Below.drewN {B : Nat} {a w : World} (h : Below B a w) (n : Nat) : Below B a (w.drewN n) := ⟨h.os, h.tape, h.output, h.size, h.block⟩
theorem _root_.Go.RowKit.Below.setRow {B : Nat} {a w : World} (h : Below B a w) {g : Nat} (hg : B ≤ g) (cs : Array Value) : Below B a (w.setRow g cs) :=
  ⟨h.os, h.tape, h.output, by rw [size_setRow]; exact h.size, fun k hk => (setRow_other _ _ _ _ (by omega)).trans (h.block k hk)⟩
/-- a new variable of a type whose zero value is a row of cells -/
theorem wpList_alloc_row {ops : Array Oper} {rest : List Oper} {o : Oper} {a : Act} {w : World} {Q : Exit → Act → World → Prop} (hg : o.guard = none) (ty : TypeId) (ho : o.op = .alloc ty) (c : Array Value)
    (hz : ∀ w, (zeroValue ty).run Tryd.prog w = .ok (.agg c) w) (h : wpList Tryd.prog ops Q rest (a.put o.dst (.pointer (some ⟨w.heap.size, 0, none⟩))) (w.alloc (.cells c ty))) : wpList Tryd.prog ops Q (o :: rest) a w := by
  refine wpList_plain hg fun K hK => ?_
  unfold Oper.wp execOp
  simp only [ho, Instr.alloc, Sem.run_bind, hz, Result.andThen_ok, Sem.run_pure, newVar, go_sem]
  exact hK _ _ h
/-- a word as a value -/
abbrev vw (x : W32) : Value := .int .u32 (x.toNat : Int)
theorem wrap_nat32 (n : Nat) : IntKind.u32.wrap (n : Int) = ((n % 2 ^ 32 : Nat) : Int) := by rw [IntKind.wrap_u32]; omega
theorem w_add (a b : W32) : IntKind.u32.wrap ((a.toNat : Int) + (b.toNat : Int)) = ((a + b).toNat : Int) := by
  rw [← Int.natCast_add, wrap_nat32, BitVec.toNat_add]
theorem w_of (a : W32) : BitVec.ofInt 32 (a.toNat : Int) = a := by
  apply BitVec.eq_of_toNat_eq
  simp
theorem w_back (a : W32) : IntKind.u32.wrap (a.toNat : Int) = (a.toNat : Int) := by
  rw [wrap_nat32, Nat.mod_eq_of_lt a.isLt]

theorem w_bits (op : BinOp) (a b : W32) (f : W32 → W32 → W32) (h : bits op .u32 (a.toNat : Int) (b.toNat : Int) = IntKind.u32.wrap ((f (BitVec.ofInt 32 (a.toNat : Int)) (BitVec.ofInt 32 (b.toNat : Int))).toNat : Int)) : bits op .u32 (a.toNat : Int) (b.toNat : Int) = ((f a b).toNat : Int) := by
  rw [h, w_of, w_of, w_back]
theorem w_and (a b : W32) : bits .and .u32 (a.toNat : Int) (b.toNat : Int) = ((a &&& b).toNat : Int) := w_bits .and a b (· &&& ·) rfl
theorem w_or (a b : W32) : bits .or .u32 (a.toNat : Int) (b.toNat : Int) = ((a ||| b).toNat : Int) := w_bits .or a b (· ||| ·) rfl
theorem w_xor (a b : W32) : bits .xor .u32 (a.toNat : Int) (b.toNat : Int) = ((a ^^^ b).toNat : Int) := w_bits .xor a b (· ^^^ ·) rfl
theorem w_not (a : W32) : bits .xor .u32 IntKind.u32.max (a.toNat : Int) = ((~~~a).toNat : Int) := by
  have := w_xor (BitVec.allOnes 32) a
  rw [BitVec.allOnes_xor] at this
  exact this
theorem w_shl (a : W32) (n : Nat) : IntKind.u32.wrap ((a.toNat : Int) * 2 ^ n) = ((a <<< n).toNat : Int) := by
  rw [show ((a.toNat : Int) * 2 ^ n) = ((a.toNat * 2 ^ n : Nat) : Int) by simp, wrap_nat32, BitVec.toNat_shiftLeft, Nat.shiftLeft_eq]
theorem w_shr (a : W32) (n : Nat) : (a.toNat : Int) / 2 ^ n = ((a >>> n).toNat : Int) := by
  rw [BitVec.toNat_ushiftRight, Nat.shiftRight_eq_div_pow]
  simp
theorem w_addm (a b : W32) : ((a.toNat : Int) + (b.toNat : Int)) % 4294967296 = ((a + b).toNat : Int) := by
  rw [← w_add, IntKind.wrap_u32]
theorem w_shlm (a : W32) (n : Nat) : ((a.toNat : Int) * 2 ^ n) % 4294967296 = ((a <<< n).toNat : Int) := by
  rw [← w_shl, IntKind.wrap_u32]
theorem rot_by : ∀ n : Fin 32, 0 < n.val → bits .and .u64 (IntKind.u64.wrap (-(n.val : Int))) 31 = 32 - (n.val : Int) := by decide +kernel

set_option maxHeartbeats 400000 in
theorem rot_any (x : W32) (n : Nat) (h0 : 0 < n) (h1 : n < 32) (w : World) :
    Calls Tryd.prog 91 #[vw x, .int .i64 (-(n : Int))] w fun e w' => e = .returned (vw (rotr x n)) ∧ w' = w := by
  have hs := rot_by ⟨n, h1⟩ h0
  simp only at hs
  have f1 : (0 : Int) ≤ 32 - (n : Int) := by omega
  have f2 : (32 : Int) - (n : Int) ≤ 32 := by omega
  have f3 : IntKind.u64.wrap (32 - (32 - (n : Int))) = (n : Int) := by rw [IntKind.wrap_u64]; omega
  have f4 : (0 : Int) ≤ (n : Int) := by omega
  have f5 : (n : Int) ≤ 32 := by omega
  go_enter Tryd.func91, Tryd.ntmps91
  go_wp2
  go_ret
  refine ⟨ret_int ?_, rfl⟩
  rw [w_shlm, w_shr, w_or]
  rfl
set_option maxHeartbeats 400000 in
theorem turned_any (x : W32) (n : Nat) (h0 : 0 < n) (h1 : n < 32) (w : World) :
    Calls Tryd.prog 81 #[vw x, .int .i64 (n : Int)] w fun e w' => e = .returned (vw (rotr x n)) ∧ w' = w := by
  have f1 : IntKind.i64.wrap (-(n : Int)) = -(n : Int) := by rw [IntKind.wrap_i64]; omega
  have f2 : IntKind.i64.wrap (0 - (n : Int)) = -(n : Int) := by rw [IntKind.wrap_i64]; omega
  go_enter Tryd.func81, Tryd.ntmps81
  go_wp2_with fail
  refine (rot_any x n h0 h1 _).mono ?_
  rintro e w1 ⟨rfl, rfl⟩
  go_wp2
  go_ret
  exact ⟨rfl, rfl⟩
end Go.Proofs.YtkgengiopjjhbaaDoor
