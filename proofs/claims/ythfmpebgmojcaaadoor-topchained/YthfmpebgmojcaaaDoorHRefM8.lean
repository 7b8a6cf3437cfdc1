/- YthfmpebgmojcaaaDoorHRefO7 + YthfmpebgmojcaaaDoorHRefL7 + YthfmpebgmojcaaaDoorHRefL8 + YthfmpebgmojcaaaDoorHRefM8 -/
import Derived.Test.YthfmpebgmojcaaaDoorHRefR7
/- The rounds of the reference's Sum (loop 7), over a frame that is a letter. -/
namespace Go.Proofs.YthfmpebgmojcaaaDoor
open Go.RowKit
set_option linter.unusedVariables false
set_option maxRecDepth 100000
theorem put_df (a : Act) (d : Option Tmp) (v : Value) : (a.put d v).defers = a.defers := by cases d <;> rfl
theorem y_addi {ops : Array Oper} {S : World → Prop} {op : Oper} {a : Act} (hw : Region.wanted op (yielded ops a.tmps) = true) (x y : Operand) (ho : op.op = .binOp .add 3 x y 3) (p q z : Int) (hx : a.eval x = .int .i64 p) (hy : a.eval y = .int .i64 q) (hz : IntKind.i64.wrap (p + q) = z) : YieldsIf Tryd.prog ops S op (.int .i64 z) a := by
  refine .inl ⟨hw, fun w _ => ?_⟩
  unfold execOp
  simp only [ho, hx, hy]
  simp [go_sem, hz]
end Go.Proofs.YthfmpebgmojcaaaDoor
/- The rounds of the reference's Sum: the loop, over a frame that is a letter. -/
namespace Go.Proofs.YthfmpebgmojcaaaDoor
open Go.RowKit
set_option linter.unusedVariables false
set_option maxRecDepth 100000
end Go.Proofs.YthfmpebgmojcaaaDoor
/- The words of a block added to the state (loop 8 of the reference's Sum), over a frame that is a letter. -/
namespace Go.Proofs.YthfmpebgmojcaaaDoor
open Go.RowKit
set_option linter.unusedVariables false
set_option maxRecDepth 100000
structure Keep (A A' : Act) (L : List Nat) : Prop where
  sz : A'.tmps.size = A.tmps.size
  df : A'.defers = A.defers
  keep : ∀ i : Nat, i ∉ L → A'.eval (.tmp i) = A.eval (.tmp i)
theorem Keep.refl (A : Act) (L : List Nat) : Keep A A L := ⟨rfl, rfl, fun _ _ => rfl⟩
theorem Keep.put {A A' : Act} {L : List Nat} (h : Keep A A' L) (d : Nat) (v : Value) (hd : d ∈ L) : Keep A (A'.put (some d) v) L :=
  ⟨(put_sz _ _ _).trans h.sz, (put_df _ _ _).trans h.df, fun i hi => (ev_ne _ _ (fun e => hi (by have e' : d = i := e; rw [← e']; exact hd))).trans (h.keep i hi)⟩
theorem Keep.trans {A B D : Act} {L : List Nat} (h : Keep A B L) (k : Keep B D L) : Keep A D L := ⟨k.sz.trans h.sz, k.df.trans h.df, fun i hi => (k.keep i hi).trans (h.keep i hi)⟩
theorem Keep.mono {A B : Act} {L M : List Nat} (h : Keep A B L) (k : ∀ i, i ∈ L → i ∈ M) : Keep A B M := ⟨h.sz, h.df, fun i hi => h.keep i (fun hm => hi (k i hm))⟩
end Go.Proofs.YthfmpebgmojcaaaDoor
/- The words of a block added to the state: loop 8 of the reference's Sum, over a frame that is a letter. -/
namespace Go.Proofs.YthfmpebgmojcaaaDoor
open Go.RowKit
set_option linter.unusedVariables false
set_option maxRecDepth 100000
end Go.Proofs.YthfmpebgmojcaaaDoor
