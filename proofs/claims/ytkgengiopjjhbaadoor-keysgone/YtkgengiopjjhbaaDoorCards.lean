/-
  DERIVED. GIVEN WITH THE SEED: THE CARDS: each row of YtkgengiopjjhbaaDoorRows.lean that lists a variable, with what it lists TIED to the program's text (the seventh form; the later family's looks); each row that meets fmt, with fmt's text TOLD by the authors' own Lean function (tested against real Go, not proved from fmt's source: count such statements apart). THE CARD IS WHAT COUNTS. Prove the row's statement (the work); the ties are given (YtkgengiopjjhbaaDoorTie.lean); close each card by the builder's one call (the guide's Derived/Test/ToyasCard.lean, 'card_holds'). Laid BY PROGRAM, IN A SANDBOX (cutbox-door.mjs). By AI agents, Wed Nov 11 2026. No macro, syntax, notation, axiom, sorry.
-/
import Derived.Test.YtkgengiopjjhbaaDoorRows
import GoSem.ClaimSeven
namespace Go.Proofs.YtkgengiopjjhbaaDoor
namespace Rows

/-- THE TIED CARD OF 'holdfastlaw09.KeysGone'. -/
def keysGoneCard : Claim7 := { stood := { row := keysGoneRow, standIns := [], harness := (true, "fe9fc7135d6fd65db1ec98e64febc890cef4457a0e23099f84c2bdebb43e7a65"), looks := false }, kinds := [], alts := [], laidByText := true, laidKinds := [.data, .data, .data, .data], laidTests := true, laidLooks := .later }
def KeysGoneCardSaid : Prop := Claim7.holds Tryd.pinned (.plain (OpenSpec.ofChange keysGoneSpec)) keysGoneCard

/-- THE TIED CARD OF 'holdfastlaw09.KeysNone'. -/
def keysNoneCard : Claim7 := { stood := { row := keysNoneRow, standIns := [], harness := (true, "fe9fc7135d6fd65db1ec98e64febc890cef4457a0e23099f84c2bdebb43e7a65"), looks := false }, kinds := [], alts := [], laidByText := true, laidKinds := [.data, .data, .data, .data], laidTests := true, laidLooks := .later }
def KeysNoneCardSaid : Prop := Claim7.holds Tryd.pinned (.plain (OpenSpec.ofChange keysNoneSpec)) keysNoneCard

/-- THE SECOND FORM's CARD OF 'holdfastlaw09.KeysGone'. -/
def keysGoneUptoCard : Claim7 := { stood := { row := keysGoneUptoRow, standIns := [], harness := (true, "fe9fc7135d6fd65db1ec98e64febc890cef4457a0e23099f84c2bdebb43e7a65"), looks := false }, kinds := [], alts := [], laidByText := true, laidKinds := [.data, .data, .data, .data], laidTests := true, laidLooks := .later }
def KeysGoneUptoCardSaid : Prop := Claim7.holds Tryd.pinned (.plain (OpenSpec.upto keysGoneSpec)) keysGoneUptoCard

/-- THE SECOND FORM's CARD OF 'holdfastlaw09.KeysNone'. -/
def keysNoneUptoCard : Claim7 := { stood := { row := keysNoneUptoRow, standIns := [], harness := (true, "fe9fc7135d6fd65db1ec98e64febc890cef4457a0e23099f84c2bdebb43e7a65"), looks := false }, kinds := [], alts := [], laidByText := true, laidKinds := [.data, .data, .data, .data], laidTests := true, laidLooks := .later }
def KeysNoneUptoCardSaid : Prop := Claim7.holds Tryd.pinned (.plain (OpenSpec.upto keysNoneSpec)) keysNoneUptoCard
end Rows
end Go.Proofs.YtkgengiopjjhbaaDoor
