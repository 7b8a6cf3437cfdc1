/-
  No cell of these rows narrows 'for every input' (looked for: loops, veiled, ifaces, maps, wideKeys, modest, calm, conditions, laid).
  DERIVED. THE GIVEN ROWS OF THIS SEAT. 4 by the template 'for every input the law returns true; each argument reads behind the call as it read before'; 0 by the template 'total and deterministic' (their statements: YtnppnkdlmelpaaaTotals.lean).
  GIVEN WITH THE SEED: the statements are not yours to turn. If you find one false, say at which input.
  Laid BY PROGRAM, IN A SANDBOX (cutbox-rows.mjs): the forced cells as the released guide's own fill.sh prints them over the translation 3337af61669b8dfd… (all of the seat's roots in one cut). By AI agents, Wed Nov 11 2026. No macro, syntax, notation, axiom, sorry.
-/
import Derived.Test.YtnppnkdlmelpaaaChecked
import GoSem.Claim
import GoSem.ClaimJoined
import GoSem.ClaimMapViews
import Derived.JoinedTies
import Derived.KernelRfl
namespace Go.Proofs.Ytnppnkdlmelpaaa
/- THE CELL 'sum', in the pinned program and in every row, IS THE sha256 OF THE DUMP (.gsa) THAT YtnppnkdlmelpaaaProg.lean LOADS. Nothing in Lean hashes anything: it is a label: what it is worth is what the hold of that sum in a sandbox is worth. -/
noncomputable def Try.pinned : Pinned := { name := "ytnppnkdlmelpaaa", sum := "3337af61669b8dfd528d96feabde18f3e1147a35f7286b49dfe05c33513cfee9", checked := Try.checked }
namespace Rows
def none {H : Type} : Left H := { results := [], args := [] }

/-- 'holdfastlaw12.TokenNarrow': WHATEVER THE INPUT: true; the input reads as it did. -/
def tokenNarrowSpec : ChangeSpec := { name := "tokenNarrow", fn := fun _ => fun
  | [d1, d2, d3] => { results := [.lit (.bool true)], args := [d1, d2, d3] }
  | _ => none }
def tokenNarrowRow : OpenClaim := { program := "ytnppnkdlmelpaaa", sum := "3337af61669b8dfd528d96feabde18f3e1147a35f7286b49dfe05c33513cfee9", func := "holdfast/holdfastlaw12.TokenNarrow", spec := "tokenNarrow", unfollowed := true, recurses := true, apart := false }
def TokenNarrowSaid : Prop := tokenNarrowRow.holds Try.pinned (OpenSpec.ofChange tokenNarrowSpec)

/-- ITS FALSE NEIGHBOUR: 'it returns false'. Refute it at one input. -/
def tokenNarrowWrong : ChangeSpec := { name := "tokenNarrow", fn := fun _ => fun
  | [d1, d2, d3] => { results := [.lit (.bool false)], args := [d1, d2, d3] }
  | _ => none }
def TokenNarrowWrongFalsely : Prop := tokenNarrowRow.holds Try.pinned (OpenSpec.ofChange tokenNarrowWrong)

/-- 'holdfastlaw12.TokenLasts': WHATEVER THE INPUT: true; the input reads as it did. -/
def tokenLastsSpec : ChangeSpec := { name := "tokenLasts", fn := fun _ => fun
  | [d1, d2, d3] => { results := [.lit (.bool true)], args := [d1, d2, d3] }
  | _ => none }
def tokenLastsRow : OpenClaim := { program := "ytnppnkdlmelpaaa", sum := "3337af61669b8dfd528d96feabde18f3e1147a35f7286b49dfe05c33513cfee9", func := "holdfast/holdfastlaw12.TokenLasts", spec := "tokenLasts", unfollowed := true, recurses := true, apart := false }
def TokenLastsSaid : Prop := tokenLastsRow.holds Try.pinned (OpenSpec.ofChange tokenLastsSpec)

/-- ITS FALSE NEIGHBOUR: 'it returns false'. Refute it at one input. -/
def tokenLastsWrong : ChangeSpec := { name := "tokenLasts", fn := fun _ => fun
  | [d1, d2, d3] => { results := [.lit (.bool false)], args := [d1, d2, d3] }
  | _ => none }
def TokenLastsWrongFalsely : Prop := tokenLastsRow.holds Try.pinned (OpenSpec.ofChange tokenLastsWrong)

/-- 'holdfastlaw12.TokenRooms': WHATEVER THE INPUT: true; the input reads as it did. -/
def tokenRoomsSpec : ChangeSpec := { name := "tokenRooms", fn := fun _ => fun
  | [d1, d2] => { results := [.lit (.bool true)], args := [d1, d2] }
  | _ => none }
def tokenRoomsRow : OpenClaim := { program := "ytnppnkdlmelpaaa", sum := "3337af61669b8dfd528d96feabde18f3e1147a35f7286b49dfe05c33513cfee9", func := "holdfast/holdfastlaw12.TokenRooms", spec := "tokenRooms", unfollowed := true, recurses := true, apart := false }
def TokenRoomsSaid : Prop := tokenRoomsRow.holds Try.pinned (OpenSpec.ofChange tokenRoomsSpec)

/-- ITS FALSE NEIGHBOUR: 'it returns false'. Refute it at one input. -/
def tokenRoomsWrong : ChangeSpec := { name := "tokenRooms", fn := fun _ => fun
  | [d1, d2] => { results := [.lit (.bool false)], args := [d1, d2] }
  | _ => none }
def TokenRoomsWrongFalsely : Prop := tokenRoomsRow.holds Try.pinned (OpenSpec.ofChange tokenRoomsWrong)

/-- 'holdfastlaw12.TokenApart': WHATEVER THE INPUT: true; the input reads as it did. -/
def tokenApartSpec : ChangeSpec := { name := "tokenApart", fn := fun _ => fun
  | [d1, d2, d3] => { results := [.lit (.bool true)], args := [d1, d2, d3] }
  | _ => none }
def tokenApartRow : OpenClaim := { program := "ytnppnkdlmelpaaa", sum := "3337af61669b8dfd528d96feabde18f3e1147a35f7286b49dfe05c33513cfee9", func := "holdfast/holdfastlaw12.TokenApart", spec := "tokenApart", inPlace := ["maps.clone"], unfollowed := true, recurses := true, apart := false }
def TokenApartSaid : Prop := tokenApartRow.holds Try.pinned (OpenSpec.ofChange tokenApartSpec)

/-- ITS FALSE NEIGHBOUR: 'it returns false'. Refute it at one input. -/
def tokenApartWrong : ChangeSpec := { name := "tokenApart", fn := fun _ => fun
  | [d1, d2, d3] => { results := [.lit (.bool false)], args := [d1, d2, d3] }
  | _ => none }
def TokenApartWrongFalsely : Prop := tokenApartRow.holds Try.pinned (OpenSpec.ofChange tokenApartWrong)

/- THE SECOND FORM. 'bulk': how many values and letters a reading holds, each counted each time it is reached (what is shared counts as often as it is met; a slice's spare places count too). A statement '..UptoSaid' is the law's where the arguments, and the package variables that the reading takes, are together of bulk at most 1048576: NARROWER than '..Said'. Prove '..Said' where nothing that the law and all that it calls make is longer than what came in: it says more and counts as full. Else prove '..UptoSaid'. A law counts once. -/
mutual
def uptoBulk {H : Type} : DataW H → Nat
  | .lit (.string bytes) => bytes.length + 1
  | .lit _ => 1
  | .nil => 1
  | .ptr d => uptoBulk d + 1
  | .slice elems spare => uptoBulkAll elems + uptoBulkAll spare + 1
  | .agg parts => uptoBulkAll parts + 1
  | .iface _ d => uptoBulk d + 1
  | .map entries => uptoBulkEntries entries + 1
  | .held _ => 1
def uptoBulkAll {H : Type} : List (DataW H) → Nat
  | [] => 0
  | d :: r => uptoBulk d + uptoBulkAll r
def uptoBulkEntries {H : Type} : List (Lit × DataW H) → Nat
  | [] => 0
  | x :: r => uptoBulkEntry x + uptoBulkEntries r
def uptoBulkEntry {H : Type} : Lit × DataW H → Nat
  | (.string bytes, d) => bytes.length + uptoBulk d + 1
  | (_, d) => uptoBulk d + 1
 end
def uptoSmall : (H : Type) → List (DataW H) → Bool := fun _ ds => decide (uptoBulkAll ds ≤ 1048576)
def OpenSpec.upto (s : _root_.Go.ChangeSpec) : _root_.Go.OpenSpec := { _root_.Go.OpenSpec.ofChange s with cond := some uptoSmall }

/-- 'holdfastlaw12.TokenNarrow', WHERE WHAT IT READS IS OF BULK AT MOST 1048576: true; the input reads as it did. -/
def tokenNarrowUptoRow : OpenClaim := { program := "ytnppnkdlmelpaaa", sum := "3337af61669b8dfd528d96feabde18f3e1147a35f7286b49dfe05c33513cfee9", func := "holdfast/holdfastlaw12.TokenNarrow", spec := "tokenNarrow", unfollowed := true, recurses := true, apart := false, narrowed := true }
def TokenNarrowUptoSaid : Prop := tokenNarrowUptoRow.holds Try.pinned (OpenSpec.upto tokenNarrowSpec)

/-- 'holdfastlaw12.TokenLasts', WHERE WHAT IT READS IS OF BULK AT MOST 1048576: true; the input reads as it did. -/
def tokenLastsUptoRow : OpenClaim := { program := "ytnppnkdlmelpaaa", sum := "3337af61669b8dfd528d96feabde18f3e1147a35f7286b49dfe05c33513cfee9", func := "holdfast/holdfastlaw12.TokenLasts", spec := "tokenLasts", unfollowed := true, recurses := true, apart := false, narrowed := true }
def TokenLastsUptoSaid : Prop := tokenLastsUptoRow.holds Try.pinned (OpenSpec.upto tokenLastsSpec)

/-- 'holdfastlaw12.TokenRooms', WHERE WHAT IT READS IS OF BULK AT MOST 1048576: true; the input reads as it did. -/
def tokenRoomsUptoRow : OpenClaim := { program := "ytnppnkdlmelpaaa", sum := "3337af61669b8dfd528d96feabde18f3e1147a35f7286b49dfe05c33513cfee9", func := "holdfast/holdfastlaw12.TokenRooms", spec := "tokenRooms", unfollowed := true, recurses := true, apart := false, narrowed := true }
def TokenRoomsUptoSaid : Prop := tokenRoomsUptoRow.holds Try.pinned (OpenSpec.upto tokenRoomsSpec)

/-- 'holdfastlaw12.TokenApart', WHERE WHAT IT READS IS OF BULK AT MOST 1048576: true; the input reads as it did. -/
def tokenApartUptoRow : OpenClaim := { program := "ytnppnkdlmelpaaa", sum := "3337af61669b8dfd528d96feabde18f3e1147a35f7286b49dfe05c33513cfee9", func := "holdfast/holdfastlaw12.TokenApart", spec := "tokenApart", inPlace := ["maps.clone"], unfollowed := true, recurses := true, apart := false, narrowed := true }
def TokenApartUptoSaid : Prop := tokenApartUptoRow.holds Try.pinned (OpenSpec.upto tokenApartSpec)

end Rows
end Go.Proofs.Ytnppnkdlmelpaaa
