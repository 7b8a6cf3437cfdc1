/-
  No cell of these rows narrows 'for every input' (looked for: loops, veiled, ifaces, maps, wideKeys, modest, calm, conditions, laid).
  DERIVED. THE GIVEN ROWS OF THIS SEAT. 6 by the template 'for every input the law returns true; each argument reads behind the call as it read before'; 0 by the template 'total and deterministic' (their statements: YtedoaahimpnmnaaTotals.lean).
  GIVEN WITH THE SEED: the statements are not yours to turn. If you find one false, say at which input.
  Laid BY PROGRAM, IN A SANDBOX (cutbox-rows.mjs): the forced cells as the released guide's own fill.sh prints them over the translation 962c9f3a7ac3db05… (all of the seat's roots in one cut). By AI agents, Wed Nov 11 2026. No macro, syntax, notation, axiom, sorry.
-/
import Derived.Test.YtedoaahimpnmnaaChecked
import GoSem.Claim
import GoSem.ClaimJoined
import GoSem.ClaimMapViews
import Derived.JoinedTies
import Derived.KernelRfl
namespace Go.Proofs.Ytedoaahimpnmnaa
/- THE CELL 'sum', in the pinned program and in every row, IS THE sha256 OF THE DUMP (.gsa) THAT YtedoaahimpnmnaaProg.lean LOADS. Nothing in Lean hashes anything: it is a label: what it is worth is what the hold of that sum in a sandbox is worth. -/
noncomputable def Try.pinned : Pinned := { name := "ytedoaahimpnmnaa", sum := "962c9f3a7ac3db0571dc65cf4ab1aa8b315501878967889ed0c2f3acc141119f", checked := Try.checked }
namespace Rows
def none {H : Type} : Left H := { results := [], args := [] }

/-- 'holdfastlaw11.SessionUntils': WHATEVER THE INPUT: true; the input reads as it did. -/
def sessionUntilsSpec : ChangeSpec := { name := "sessionUntils", fn := fun _ => fun
  | [d] => { results := [.lit (.bool true)], args := [d] }
  | _ => none }
def sessionUntilsRow : OpenClaim := { program := "ytedoaahimpnmnaa", sum := "962c9f3a7ac3db0571dc65cf4ab1aa8b315501878967889ed0c2f3acc141119f", func := "holdfast/holdfastlaw11.SessionUntils", spec := "sessionUntils", unfollowed := true, recurses := true, apart := false }
def SessionUntilsSaid : Prop := sessionUntilsRow.holds Try.pinned (OpenSpec.ofChange sessionUntilsSpec)

/-- ITS FALSE NEIGHBOUR: 'it returns false'. Refute it at one input. -/
def sessionUntilsWrong : ChangeSpec := { name := "sessionUntils", fn := fun _ => fun
  | [d] => { results := [.lit (.bool false)], args := [d] }
  | _ => none }
def SessionUntilsWrongFalsely : Prop := sessionUntilsRow.holds Try.pinned (OpenSpec.ofChange sessionUntilsWrong)

/-- 'holdfastlaw11.SessionOver': WHATEVER THE INPUT: true; the input reads as it did. -/
def sessionOverSpec : ChangeSpec := { name := "sessionOver", fn := fun _ => fun
  | [d1, d2, d3] => { results := [.lit (.bool true)], args := [d1, d2, d3] }
  | _ => none }
def sessionOverRow : OpenClaim := { program := "ytedoaahimpnmnaa", sum := "962c9f3a7ac3db0571dc65cf4ab1aa8b315501878967889ed0c2f3acc141119f", func := "holdfast/holdfastlaw11.SessionOver", spec := "sessionOver", unfollowed := true, recurses := true, apart := false }
def SessionOverSaid : Prop := sessionOverRow.holds Try.pinned (OpenSpec.ofChange sessionOverSpec)

/-- ITS FALSE NEIGHBOUR: 'it returns false'. Refute it at one input. -/
def sessionOverWrong : ChangeSpec := { name := "sessionOver", fn := fun _ => fun
  | [d1, d2, d3] => { results := [.lit (.bool false)], args := [d1, d2, d3] }
  | _ => none }
def SessionOverWrongFalsely : Prop := sessionOverRow.holds Try.pinned (OpenSpec.ofChange sessionOverWrong)

/-- 'holdfastlaw11.SessionFew': WHATEVER THE INPUT: true; the input reads as it did. -/
def sessionFewSpec : ChangeSpec := { name := "sessionFew", fn := fun _ => fun
  | [d1, d2, d3] => { results := [.lit (.bool true)], args := [d1, d2, d3] }
  | _ => none }
def sessionFewRow : OpenClaim := { program := "ytedoaahimpnmnaa", sum := "962c9f3a7ac3db0571dc65cf4ab1aa8b315501878967889ed0c2f3acc141119f", func := "holdfast/holdfastlaw11.SessionFew", spec := "sessionFew", unfollowed := true, recurses := true, apart := false }
def SessionFewSaid : Prop := sessionFewRow.holds Try.pinned (OpenSpec.ofChange sessionFewSpec)

/-- ITS FALSE NEIGHBOUR: 'it returns false'. Refute it at one input. -/
def sessionFewWrong : ChangeSpec := { name := "sessionFew", fn := fun _ => fun
  | [d1, d2, d3] => { results := [.lit (.bool false)], args := [d1, d2, d3] }
  | _ => none }
def SessionFewWrongFalsely : Prop := sessionFewRow.holds Try.pinned (OpenSpec.ofChange sessionFewWrong)

/-- 'holdfastlaw11.SessionApart': WHATEVER THE INPUT: true; the input reads as it did. -/
def sessionApartSpec : ChangeSpec := { name := "sessionApart", fn := fun _ => fun
  | [d1, d2] => { results := [.lit (.bool true)], args := [d1, d2] }
  | _ => none }
def sessionApartRow : OpenClaim := { program := "ytedoaahimpnmnaa", sum := "962c9f3a7ac3db0571dc65cf4ab1aa8b315501878967889ed0c2f3acc141119f", func := "holdfast/holdfastlaw11.SessionApart", spec := "sessionApart", unfollowed := true, recurses := true, apart := false }
def SessionApartSaid : Prop := sessionApartRow.holds Try.pinned (OpenSpec.ofChange sessionApartSpec)

/-- ITS FALSE NEIGHBOUR: 'it returns false'. Refute it at one input. -/
def sessionApartWrong : ChangeSpec := { name := "sessionApart", fn := fun _ => fun
  | [d1, d2] => { results := [.lit (.bool false)], args := [d1, d2] }
  | _ => none }
def SessionApartWrongFalsely : Prop := sessionApartRow.holds Try.pinned (OpenSpec.ofChange sessionApartWrong)

/-- 'holdfastlaw11.SessionLasts': WHATEVER THE INPUT: true; the input reads as it did. -/
def sessionLastsSpec : ChangeSpec := { name := "sessionLasts", fn := fun _ => fun
  | [d1, d2] => { results := [.lit (.bool true)], args := [d1, d2] }
  | _ => none }
def sessionLastsRow : OpenClaim := { program := "ytedoaahimpnmnaa", sum := "962c9f3a7ac3db0571dc65cf4ab1aa8b315501878967889ed0c2f3acc141119f", func := "holdfast/holdfastlaw11.SessionLasts", spec := "sessionLasts", unfollowed := true, recurses := true, apart := false }
def SessionLastsSaid : Prop := sessionLastsRow.holds Try.pinned (OpenSpec.ofChange sessionLastsSpec)

/-- ITS FALSE NEIGHBOUR: 'it returns false'. Refute it at one input. -/
def sessionLastsWrong : ChangeSpec := { name := "sessionLasts", fn := fun _ => fun
  | [d1, d2] => { results := [.lit (.bool false)], args := [d1, d2] }
  | _ => none }
def SessionLastsWrongFalsely : Prop := sessionLastsRow.holds Try.pinned (OpenSpec.ofChange sessionLastsWrong)

/-- 'holdfastlaw11.SessionNumbers': WHATEVER THE INPUT: true; the input reads as it did. -/
def sessionNumbersSpec : ChangeSpec := { name := "sessionNumbers", fn := fun _ => fun
  | [d1, d2] => { results := [.lit (.bool true)], args := [d1, d2] }
  | _ => none }
def sessionNumbersRow : OpenClaim := { program := "ytedoaahimpnmnaa", sum := "962c9f3a7ac3db0571dc65cf4ab1aa8b315501878967889ed0c2f3acc141119f", func := "holdfast/holdfastlaw11.SessionNumbers", spec := "sessionNumbers", unfollowed := true, recurses := true, apart := false }
def SessionNumbersSaid : Prop := sessionNumbersRow.holds Try.pinned (OpenSpec.ofChange sessionNumbersSpec)

/-- ITS FALSE NEIGHBOUR: 'it returns false'. Refute it at one input. -/
def sessionNumbersWrong : ChangeSpec := { name := "sessionNumbers", fn := fun _ => fun
  | [d1, d2] => { results := [.lit (.bool false)], args := [d1, d2] }
  | _ => none }
def SessionNumbersWrongFalsely : Prop := sessionNumbersRow.holds Try.pinned (OpenSpec.ofChange sessionNumbersWrong)

/- THE SECOND FORM. 'bulk': how many values and letters a reading holds, each counted each time it is reached (what is shared counts as often as it is met; a slice's spare places count too). A statement '..UptoSaid' is the law's where the arguments, and the package variables that the reading takes, are together of bulk at most 1048576: NARROWER than '..Said'. Prove '..Said' where nothing that the law and all that it calls make is longer than what came in: it says more and counts as full. Else prove '..UptoSaid'. A law counts once. -/
mutual
def uptoBulk {H : Type} : DataW H → Nat
  | .lit (.string bytes) => bytes.length + 1
  | .lit _ => 1
  | .nil => 1
  | .ptr d => uptoBulk d + 1
  | .slice elems spare => uptoBulkAll elems + uptoBulkAll spare + 1
  | .agg parts => uptoBulkAll parts + 1
  | .iface _ d => uptoBulk d + 1
  | .map entries => uptoBulkEntries entries + 1
  | .held _ => 1
def uptoBulkAll {H : Type} : List (DataW H) → Nat
  | [] => 0
  | d :: r => uptoBulk d + uptoBulkAll r
def uptoBulkEntries {H : Type} : List (Lit × DataW H) → Nat
  | [] => 0
  | x :: r => uptoBulkEntry x + uptoBulkEntries r
def uptoBulkEntry {H : Type} : Lit × DataW H → Nat
  | (.string bytes, d) => bytes.length + uptoBulk d + 1
  | (_, d) => uptoBulk d + 1
 end
def uptoSmall : (H : Type) → List (DataW H) → Bool := fun _ ds => decide (uptoBulkAll ds ≤ 1048576)
def OpenSpec.upto (s : _root_.Go.ChangeSpec) : _root_.Go.OpenSpec := { _root_.Go.OpenSpec.ofChange s with cond := some uptoSmall }

/-- 'holdfastlaw11.SessionUntils', WHERE WHAT IT READS IS OF BULK AT MOST 1048576: true; the input reads as it did. -/
def sessionUntilsUptoRow : OpenClaim := { program := "ytedoaahimpnmnaa", sum := "962c9f3a7ac3db0571dc65cf4ab1aa8b315501878967889ed0c2f3acc141119f", func := "holdfast/holdfastlaw11.SessionUntils", spec := "sessionUntils", unfollowed := true, recurses := true, apart := false, narrowed := true }
def SessionUntilsUptoSaid : Prop := sessionUntilsUptoRow.holds Try.pinned (OpenSpec.upto sessionUntilsSpec)

/-- 'holdfastlaw11.SessionOver', WHERE WHAT IT READS IS OF BULK AT MOST 1048576: true; the input reads as it did. -/
def sessionOverUptoRow : OpenClaim := { program := "ytedoaahimpnmnaa", sum := "962c9f3a7ac3db0571dc65cf4ab1aa8b315501878967889ed0c2f3acc141119f", func := "holdfast/holdfastlaw11.SessionOver", spec := "sessionOver", unfollowed := true, recurses := true, apart := false, narrowed := true }
def SessionOverUptoSaid : Prop := sessionOverUptoRow.holds Try.pinned (OpenSpec.upto sessionOverSpec)

/-- 'holdfastlaw11.SessionFew', WHERE WHAT IT READS IS OF BULK AT MOST 1048576: true; the input reads as it did. -/
def sessionFewUptoRow : OpenClaim := { program := "ytedoaahimpnmnaa", sum := "962c9f3a7ac3db0571dc65cf4ab1aa8b315501878967889ed0c2f3acc141119f", func := "holdfast/holdfastlaw11.SessionFew", spec := "sessionFew", unfollowed := true, recurses := true, apart := false, narrowed := true }
def SessionFewUptoSaid : Prop := sessionFewUptoRow.holds Try.pinned (OpenSpec.upto sessionFewSpec)

/-- 'holdfastlaw11.SessionApart', WHERE WHAT IT READS IS OF BULK AT MOST 1048576: true; the input reads as it did. -/
def sessionApartUptoRow : OpenClaim := { program := "ytedoaahimpnmnaa", sum := "962c9f3a7ac3db0571dc65cf4ab1aa8b315501878967889ed0c2f3acc141119f", func := "holdfast/holdfastlaw11.SessionApart", spec := "sessionApart", unfollowed := true, recurses := true, apart := false, narrowed := true }
def SessionApartUptoSaid : Prop := sessionApartUptoRow.holds Try.pinned (OpenSpec.upto sessionApartSpec)

/-- 'holdfastlaw11.SessionLasts', WHERE WHAT IT READS IS OF BULK AT MOST 1048576: true; the input reads as it did. -/
def sessionLastsUptoRow : OpenClaim := { program := "ytedoaahimpnmnaa", sum := "962c9f3a7ac3db0571dc65cf4ab1aa8b315501878967889ed0c2f3acc141119f", func := "holdfast/holdfastlaw11.SessionLasts", spec := "sessionLasts", unfollowed := true, recurses := true, apart := false, narrowed := true }
def SessionLastsUptoSaid : Prop := sessionLastsUptoRow.holds Try.pinned (OpenSpec.upto sessionLastsSpec)

/-- 'holdfastlaw11.SessionNumbers', WHERE WHAT IT READS IS OF BULK AT MOST 1048576: true; the input reads as it did. -/
def sessionNumbersUptoRow : OpenClaim := { program := "ytedoaahimpnmnaa", sum := "962c9f3a7ac3db0571dc65cf4ab1aa8b315501878967889ed0c2f3acc141119f", func := "holdfast/holdfastlaw11.SessionNumbers", spec := "sessionNumbers", unfollowed := true, recurses := true, apart := false, narrowed := true }
def SessionNumbersUptoSaid : Prop := sessionNumbersUptoRow.holds Try.pinned (OpenSpec.upto sessionNumbersSpec)

end Rows
end Go.Proofs.Ytedoaahimpnmnaa
