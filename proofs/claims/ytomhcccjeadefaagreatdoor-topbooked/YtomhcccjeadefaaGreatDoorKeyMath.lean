/- Keys as bytes: their order, what begins with what, and that no two rows of parts have one key. Plain mathematics: no program. -/
import GoSem.Op.String
namespace Go.Proofs.YtomhcccjeadefaaGreatDoor
open Go.Op (bytesLess)
def esc : List UInt8 → List UInt8
  | [] => []
  | c :: r => if c = 0 then 0 :: 255 :: esc r else c :: esc r
def keyOf : List (List UInt8) → List UInt8
  | [] => []
  | p :: r => esc p ++ 0 :: 1 :: keyOf r
def ahead : List (List UInt8) → List (List UInt8) → Bool
  | _, [] => false
  | [], _ :: _ => true
  | x :: a, y :: b => if x = y then ahead a b else bytesLess x y
theorem key_append (a b : List (List UInt8)) : keyOf (a ++ b) = keyOf a ++ keyOf b := by
  induction a with
  | nil => rfl
  | cons x a ih => simp [keyOf, ih]
theorem esc_append (x y : List UInt8) : esc (x ++ y) = esc x ++ esc y := by
  induction x with
  | nil => rfl
  | cons c x ih => by_cases hc : c = 0 <;> simp [esc, hc, ih]
end Go.Proofs.YtomhcccjeadefaaGreatDoor
