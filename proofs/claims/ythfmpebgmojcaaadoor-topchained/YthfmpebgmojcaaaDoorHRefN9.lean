/- YthfmpebgmojcaaaDoorHRefM3 + YthfmpebgmojcaaaDoorHRefM9 + YthfmpebgmojcaaaDoorHRefN9 -/
import Derived.Test.YthfmpebgmojcaaaDoorHRefM4
import Derived.Test.YthfmpebgmojcaaaDoorHRefM8
/- The blocks: loop 3 of the reference's Sum, over a frame that is a letter. -/
namespace Go.Proofs.YthfmpebgmojcaaaDoor
open Go.RowKit
set_option linter.unusedVariables false
set_option maxRecDepth 100000
structure Four (N gm M cm : Nat) (A0 A : Act) : Prop where
  sz : A.tmps.size = 288
  df : A.defers = A0.defers
  x2 : A.eval (.tmp 2) = A0.eval (.tmp 2)
  x3 : A.eval (.tmp 3) = .slice (some ⟨N + 1, 0, none⟩) 8 8
  x4 : A.eval (.tmp 4) = .slice (some ⟨N + 1 + 1, 0, none⟩) 64 64
  x5 : A.eval (.tmp 5) = .slice (some ⟨gm, 0, none⟩) M cm
theorem Four.keep {N gm M cm : Nat} {A0 A B : Act} {L : List Nat} (h : Four N gm M cm A0 A) (k : Keep A B L) (h2 : 2 ∉ L ∧ 3 ∉ L ∧ 4 ∉ L ∧ 5 ∉ L) : Four N gm M cm A0 B :=
  ⟨k.sz.trans h.sz, k.df.trans h.df, (k.keep 2 h2.1).trans h.x2, (k.keep 3 h2.2.1).trans h.x3, (k.keep 4 h2.2.2.1).trans h.x4, (k.keep 5 h2.2.2.2).trans h.x5⟩
end Go.Proofs.YthfmpebgmojcaaaDoor
/- The bytes of the state: loop 9 of the reference's Sum, over a frame that is a letter. -/
namespace Go.Proofs.YthfmpebgmojcaaaDoor
open Go.RowKit
set_option linter.unusedVariables false
set_option maxRecDepth 100000
section
variable {ops : Array Oper} {S : World → Prop} {op : Oper} {a : Act}
end
abbrev L9 : List Nat := [24, 270, 271, 272, 273, 274, 275, 276, 277, 278, 279, 280, 281, 282, 283, 284, 285, 286]
end Go.Proofs.YthfmpebgmojcaaaDoor
/- The bytes of the state, and the end of the reference's Sum, over a frame that is a letter. -/
namespace Go.Proofs.YthfmpebgmojcaaaDoor
open Go.RowKit
set_option linter.unusedVariables false
set_option maxRecDepth 100000
end Go.Proofs.YthfmpebgmojcaaaDoor
