/-
  DERIVED. GIVEN WITH THE SEED: THE CARDS: each row of YtdglmoikgmlaaaaGreatDoorRows.lean that lists a variable, with what it lists TIED to the program's text (the seventh form; the later family's looks); each row that meets fmt, with fmt's text TOLD by the authors' own Lean function (tested against real Go, not proved from fmt's source: count such statements apart). THE CARD IS WHAT COUNTS. Prove the row's statement (the work); the ties are given (YtdglmoikgmlaaaaGreatDoorTie.lean); close each card by the builder's one call (the guide's Derived/Test/ToyasCard.lean, 'card_holds'). Laid BY PROGRAM, IN A SANDBOX (cutbox-door.mjs). By AI agents, Wed Nov 11 2026. No macro, syntax, notation, axiom, sorry.
-/
import Derived.Test.YtdglmoikgmlaaaaGreatDoorRows
import GoSem.ClaimSeven
namespace Go.Proofs.YtdglmoikgmlaaaaGreatDoor
namespace Rows

/-- THE TIED CARD OF 'holdfastlaw09.KeysPlays'. -/
def keysPlaysCard : Claim7 := { stood := { row := keysPlaysRow, standIns := [], harness := (true, "47eebe9cffc15fce352d923a402efa51e50ff37e1339108dfafafbd25dbf3a1f"), looks := false }, kinds := [], alts := [], laidByText := true, laidKinds := [.data, .data, .data, .data], laidTests := true, laidLooks := .later }
def KeysPlaysCardSaid : Prop := Claim7.holds Tryz.pinned (.plain (OpenSpec.ofChange keysPlaysSpec)) keysPlaysCard

/-- THE TIED CARD OF 'holdfastlaw09.KeysLoads'. -/
def keysLoadsCard : Claim7 := { stood := { row := keysLoadsRow, standIns := [], harness := (true, "47eebe9cffc15fce352d923a402efa51e50ff37e1339108dfafafbd25dbf3a1f"), looks := false }, kinds := [], alts := [], laidByText := true, laidKinds := [.data, .data, .data, .data], laidTests := true, laidLooks := .later }
def KeysLoadsCardSaid : Prop := Claim7.holds Tryz.pinned (.plain (OpenSpec.ofChange keysLoadsSpec)) keysLoadsCard

/-- THE TIED CARD OF 'holdfastlaw09.KeysBack'. -/
def keysBackCard : Claim7 := { stood := { row := keysBackRow, standIns := [], harness := (true, "47eebe9cffc15fce352d923a402efa51e50ff37e1339108dfafafbd25dbf3a1f"), looks := false }, kinds := [], alts := [], laidByText := true, laidKinds := [.data, .data, .data, .data], laidTests := true, laidLooks := .later }
def KeysBackCardSaid : Prop := Claim7.holds Tryz.pinned (.plain (OpenSpec.ofChange keysBackSpec)) keysBackCard

/-- THE SECOND FORM's CARD OF 'holdfastlaw09.KeysPlays'. -/
def keysPlaysUptoCard : Claim7 := { stood := { row := keysPlaysUptoRow, standIns := [], harness := (true, "47eebe9cffc15fce352d923a402efa51e50ff37e1339108dfafafbd25dbf3a1f"), looks := false }, kinds := [], alts := [], laidByText := true, laidKinds := [.data, .data, .data, .data], laidTests := true, laidLooks := .later }
def KeysPlaysUptoCardSaid : Prop := Claim7.holds Tryz.pinned (.plain (OpenSpec.upto keysPlaysSpec)) keysPlaysUptoCard

/-- THE SECOND FORM's CARD OF 'holdfastlaw09.KeysLoads'. -/
def keysLoadsUptoCard : Claim7 := { stood := { row := keysLoadsUptoRow, standIns := [], harness := (true, "47eebe9cffc15fce352d923a402efa51e50ff37e1339108dfafafbd25dbf3a1f"), looks := false }, kinds := [], alts := [], laidByText := true, laidKinds := [.data, .data, .data, .data], laidTests := true, laidLooks := .later }
def KeysLoadsUptoCardSaid : Prop := Claim7.holds Tryz.pinned (.plain (OpenSpec.upto keysLoadsSpec)) keysLoadsUptoCard

/-- THE SECOND FORM's CARD OF 'holdfastlaw09.KeysBack'. -/
def keysBackUptoCard : Claim7 := { stood := { row := keysBackUptoRow, standIns := [], harness := (true, "47eebe9cffc15fce352d923a402efa51e50ff37e1339108dfafafbd25dbf3a1f"), looks := false }, kinds := [], alts := [], laidByText := true, laidKinds := [.data, .data, .data, .data], laidTests := true, laidLooks := .later }
def KeysBackUptoCardSaid : Prop := Claim7.holds Tryz.pinned (.plain (OpenSpec.upto keysBackSpec)) keysBackUptoCard
end Rows
end Go.Proofs.YtdglmoikgmlaaaaGreatDoor
