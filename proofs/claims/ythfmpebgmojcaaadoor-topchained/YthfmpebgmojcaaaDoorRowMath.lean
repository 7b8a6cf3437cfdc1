/- Rows as bytes: what is read of them. Plain mathematics: no program. -/
import GoSem.Op.String
namespace Go.Proofs.YthfmpebgmojcaaaDoor
def col (c : List UInt8) : List UInt8 := UInt8.ofNat c.length :: c
def body : List (List UInt8) → List UInt8
  | [] => []
  | c :: r => col c ++ body r
def rowOf (cs : List (List UInt8)) : List UInt8 := UInt8.ofNat cs.length :: body cs
def small (cs : List (List UInt8)) : Prop := ∀ c ∈ cs, c.length < 256
theorem body_append (a b : List (List UInt8)) : body (a ++ b) = body a ++ body b := by
  induction a with
  | nil => rfl
  | cons x a ih => simp [body, ih]
end Go.Proofs.YthfmpebgmojcaaaDoor
