/-
  No cell of these rows narrows 'for every input' (looked for: loops, veiled, ifaces, maps, wideKeys, modest, calm, conditions, laid).
  DERIVED. THE GIVEN ROWS OF THIS SEAT. 3 by the template 'for every input the law returns true; each argument reads behind the call as it read before'; 0 by the template 'total and deterministic' (their statements: YtlkbojgemcjilaaTotals.lean).
  GIVEN WITH THE SEED: the statements are not yours to turn. If you find one false, say at which input.
  Laid BY PROGRAM, IN A SANDBOX (cutbox-rows.mjs): the forced cells as the released guide's own fill.sh prints them over the translation 9c5cca8114a7d0ba… (all of the seat's roots in one cut). By AI agents, Wed Nov 11 2026. No macro, syntax, notation, axiom, sorry.
-/
import Derived.Test.YtlkbojgemcjilaaChecked
import GoSem.Claim
import GoSem.ClaimJoined
import GoSem.ClaimMapViews
import Derived.JoinedTies
import Derived.KernelRfl
namespace Go.Proofs.Ytlkbojgemcjilaa
/- THE CELL 'sum', in the pinned program and in every row, IS THE sha256 OF THE DUMP (.gsa) THAT YtlkbojgemcjilaaProg.lean LOADS. Nothing in Lean hashes anything: it is a label: what it is worth is what the hold of that sum in a sandbox is worth. -/
noncomputable def Try.pinned : Pinned := { name := "ytlkbojgemcjilaa", sum := "9c5cca8114a7d0bafd333ab1252cafc1e38edf9b204205bcd7717e6cbbc2d27f", checked := Try.checked }
namespace Rows
def none {H : Type} : Left H := { results := [], args := [] }

/-- 'holdfastlaw13.GrantNarrow': WHATEVER THE INPUT: true; the input reads as it did. -/
def grantNarrowSpec : ChangeSpec := { name := "grantNarrow", fn := fun _ => fun
  | [d1, d2] => { results := [.lit (.bool true)], args := [d1, d2] }
  | _ => none }
def grantNarrowRow : OpenClaim := { program := "ytlkbojgemcjilaa", sum := "9c5cca8114a7d0bafd333ab1252cafc1e38edf9b204205bcd7717e6cbbc2d27f", func := "holdfast/holdfastlaw13.GrantNarrow", spec := "grantNarrow", inPlace := ["internal/bytealg.abigen_runtime_cmpstring"], unfollowed := true, recurses := true, plainKeys := false, apart := false }
def GrantNarrowSaid : Prop := grantNarrowRow.holds Try.pinned (OpenSpec.ofChange grantNarrowSpec)

/-- ITS FALSE NEIGHBOUR: 'it returns false'. Refute it at one input. -/
def grantNarrowWrong : ChangeSpec := { name := "grantNarrow", fn := fun _ => fun
  | [d1, d2] => { results := [.lit (.bool false)], args := [d1, d2] }
  | _ => none }
def GrantNarrowWrongFalsely : Prop := grantNarrowRow.holds Try.pinned (OpenSpec.ofChange grantNarrowWrong)

/-- 'holdfastlaw13.GrantDrops': WHATEVER THE INPUT: true; the input reads as it did. -/
def grantDropsSpec : ChangeSpec := { name := "grantDrops", fn := fun _ => fun
  | [d1, d2, d3] => { results := [.lit (.bool true)], args := [d1, d2, d3] }
  | _ => none }
def grantDropsRow : OpenClaim := { program := "ytlkbojgemcjilaa", sum := "9c5cca8114a7d0bafd333ab1252cafc1e38edf9b204205bcd7717e6cbbc2d27f", func := "holdfast/holdfastlaw13.GrantDrops", spec := "grantDrops", inPlace := ["internal/bytealg.abigen_runtime_cmpstring"], unfollowed := true, recurses := true, plainKeys := false, apart := false }
def GrantDropsSaid : Prop := grantDropsRow.holds Try.pinned (OpenSpec.ofChange grantDropsSpec)

/-- ITS FALSE NEIGHBOUR: 'it returns false'. Refute it at one input. -/
def grantDropsWrong : ChangeSpec := { name := "grantDrops", fn := fun _ => fun
  | [d1, d2, d3] => { results := [.lit (.bool false)], args := [d1, d2, d3] }
  | _ => none }
def GrantDropsWrongFalsely : Prop := grantDropsRow.holds Try.pinned (OpenSpec.ofChange grantDropsWrong)

/-- 'holdfastlaw13.GrantRooms': WHATEVER THE INPUT: true; the input reads as it did. -/
def grantRoomsSpec : ChangeSpec := { name := "grantRooms", fn := fun _ => fun
  | [d] => { results := [.lit (.bool true)], args := [d] }
  | _ => none }
def grantRoomsRow : OpenClaim := { program := "ytlkbojgemcjilaa", sum := "9c5cca8114a7d0bafd333ab1252cafc1e38edf9b204205bcd7717e6cbbc2d27f", func := "holdfast/holdfastlaw13.GrantRooms", spec := "grantRooms", inPlace := ["internal/bytealg.abigen_runtime_cmpstring"], unfollowed := true, recurses := true, plainKeys := false, apart := false }
def GrantRoomsSaid : Prop := grantRoomsRow.holds Try.pinned (OpenSpec.ofChange grantRoomsSpec)

/-- ITS FALSE NEIGHBOUR: 'it returns false'. Refute it at one input. -/
def grantRoomsWrong : ChangeSpec := { name := "grantRooms", fn := fun _ => fun
  | [d] => { results := [.lit (.bool false)], args := [d] }
  | _ => none }
def GrantRoomsWrongFalsely : Prop := grantRoomsRow.holds Try.pinned (OpenSpec.ofChange grantRoomsWrong)

/- THE SECOND FORM. 'bulk': how many values and letters a reading holds, each counted each time it is reached (what is shared counts as often as it is met; a slice's spare places count too). A statement '..UptoSaid' is the law's where the arguments, and the package variables that the reading takes, are together of bulk at most 1048576: NARROWER than '..Said'. Prove '..Said' where nothing that the law and all that it calls make is longer than what came in: it says more and counts as full. Else prove '..UptoSaid'. A law counts once. -/
mutual
def uptoBulk {H : Type} : DataW H → Nat
  | .lit (.string bytes) => bytes.length + 1
  | .lit _ => 1
  | .nil => 1
  | .ptr d => uptoBulk d + 1
  | .slice elems spare => uptoBulkAll elems + uptoBulkAll spare + 1
  | .agg parts => uptoBulkAll parts + 1
  | .iface _ d => uptoBulk d + 1
  | .map entries => uptoBulkEntries entries + 1
  | .held _ => 1
def uptoBulkAll {H : Type} : List (DataW H) → Nat
  | [] => 0
  | d :: r => uptoBulk d + uptoBulkAll r
def uptoBulkEntries {H : Type} : List (Lit × DataW H) → Nat
  | [] => 0
  | x :: r => uptoBulkEntry x + uptoBulkEntries r
def uptoBulkEntry {H : Type} : Lit × DataW H → Nat
  | (.string bytes, d) => bytes.length + uptoBulk d + 1
  | (_, d) => uptoBulk d + 1
 end
def uptoSmall : (H : Type) → List (DataW H) → Bool := fun _ ds => decide (uptoBulkAll ds ≤ 1048576)
def OpenSpec.upto (s : _root_.Go.ChangeSpec) : _root_.Go.OpenSpec := { _root_.Go.OpenSpec.ofChange s with cond := some uptoSmall }

/-- 'holdfastlaw13.GrantNarrow', WHERE WHAT IT READS IS OF BULK AT MOST 1048576: true; the input reads as it did. -/
def grantNarrowUptoRow : OpenClaim := { program := "ytlkbojgemcjilaa", sum := "9c5cca8114a7d0bafd333ab1252cafc1e38edf9b204205bcd7717e6cbbc2d27f", func := "holdfast/holdfastlaw13.GrantNarrow", spec := "grantNarrow", inPlace := ["internal/bytealg.abigen_runtime_cmpstring"], unfollowed := true, recurses := true, plainKeys := false, apart := false, narrowed := true }
def GrantNarrowUptoSaid : Prop := grantNarrowUptoRow.holds Try.pinned (OpenSpec.upto grantNarrowSpec)

/-- 'holdfastlaw13.GrantDrops', WHERE WHAT IT READS IS OF BULK AT MOST 1048576: true; the input reads as it did. -/
def grantDropsUptoRow : OpenClaim := { program := "ytlkbojgemcjilaa", sum := "9c5cca8114a7d0bafd333ab1252cafc1e38edf9b204205bcd7717e6cbbc2d27f", func := "holdfast/holdfastlaw13.GrantDrops", spec := "grantDrops", inPlace := ["internal/bytealg.abigen_runtime_cmpstring"], unfollowed := true, recurses := true, plainKeys := false, apart := false, narrowed := true }
def GrantDropsUptoSaid : Prop := grantDropsUptoRow.holds Try.pinned (OpenSpec.upto grantDropsSpec)

/-- 'holdfastlaw13.GrantRooms', WHERE WHAT IT READS IS OF BULK AT MOST 1048576: true; the input reads as it did. -/
def grantRoomsUptoRow : OpenClaim := { program := "ytlkbojgemcjilaa", sum := "9c5cca8114a7d0bafd333ab1252cafc1e38edf9b204205bcd7717e6cbbc2d27f", func := "holdfast/holdfastlaw13.GrantRooms", spec := "grantRooms", inPlace := ["internal/bytealg.abigen_runtime_cmpstring"], unfollowed := true, recurses := true, plainKeys := false, apart := false, narrowed := true }
def GrantRoomsUptoSaid : Prop := grantRoomsUptoRow.holds Try.pinned (OpenSpec.upto grantRoomsSpec)

end Rows
end Go.Proofs.Ytlkbojgemcjilaa
