/-
  DERIVED. GIVEN WITH THE SEED: THE CARDS: each row of YtmnhhomkglffcaaGreatDoorRows.lean that lists a variable, with what it lists TIED to the program's text (the seventh form; the later family's looks); each row that meets fmt, with fmt's text TOLD by the authors' own Lean function (tested against real Go, not proved from fmt's source: count such statements apart). THE CARD IS WHAT COUNTS. Prove the row's statement (the work); the ties are given (YtmnhhomkglffcaaGreatDoorTie.lean); close each card by the builder's one call (the guide's Derived/Test/ToyasCard.lean, 'card_holds'). Laid BY PROGRAM, IN A SANDBOX (cutbox-door.mjs). By AI agents, Wed Nov 11 2026. No macro, syntax, notation, axiom, sorry.
-/
import Derived.Test.YtmnhhomkglffcaaGreatDoorRows
import GoSem.ClaimSeven
namespace Go.Proofs.YtmnhhomkglffcaaGreatDoor
namespace Rows

/-- THE TIED CARD OF 'holdfastlaw12.TokenEnds'. -/
def tokenEndsCard : Claim7 := { stood := { row := tokenEndsRow, standIns := [], harness := (true, "0fc989b91fab391a5bc913e9be600f888b502aaff3ea1f2bb0da3966ee19e412"), looks := true }, kinds := [], alts := [], laidByText := true, laidKinds := [.data, .data, .data], laidTests := true, laidLooks := .later }
def TokenEndsCardSaid : Prop := Claim7.holds Tryz.pinned (.plain (OpenSpec.ofChange tokenEndsSpec)) tokenEndsCard

/-- THE SECOND FORM's CARD OF 'holdfastlaw12.TokenEnds'. -/
def tokenEndsUptoCard : Claim7 := { stood := { row := tokenEndsUptoRow, standIns := [], harness := (true, "0fc989b91fab391a5bc913e9be600f888b502aaff3ea1f2bb0da3966ee19e412"), looks := true }, kinds := [], alts := [], laidByText := true, laidKinds := [.data, .data, .data], laidTests := true, laidLooks := .later }
def TokenEndsUptoCardSaid : Prop := Claim7.holds Tryz.pinned (.plain (OpenSpec.upto tokenEndsSpec)) tokenEndsUptoCard
end Rows
end Go.Proofs.YtmnhhomkglffcaaGreatDoor
