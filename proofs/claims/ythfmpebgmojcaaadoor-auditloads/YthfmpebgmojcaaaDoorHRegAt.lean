/- A region out of the code of a function, by its number. -/
import Derived.Test.YthfmpebgmojcaaaDoorRows
namespace Go.Proofs.YthfmpebgmojcaaaDoor
def regionAt (n : Nat) : Code → Option Code
  | .region i ops b => if i = n then some (.region i ops b) else none
  | .seq a b => match regionAt n a with
    | some c => some c
    | none => regionAt n b
  | .block _ c => regionAt n c
  | .scope c => regionAt n c
  | .loop c => regionAt n c
  | .cond _ a b => match regionAt n a with
    | some c => some c
    | none => regionAt n b
  | _ => none
end Go.Proofs.YthfmpebgmojcaaaDoor
