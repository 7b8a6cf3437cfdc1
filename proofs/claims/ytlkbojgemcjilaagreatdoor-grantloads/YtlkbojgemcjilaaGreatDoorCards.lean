/-
  DERIVED. GIVEN WITH THE SEED: THE CARDS: each row of YtlkbojgemcjilaaGreatDoorRows.lean that lists a variable, with what it lists TIED to the program's text (the seventh form; the later family's looks); each row that meets fmt, with fmt's text TOLD by the authors' own Lean function (tested against real Go, not proved from fmt's source: count such statements apart). THE CARD IS WHAT COUNTS. Prove the row's statement (the work); the ties are given (YtlkbojgemcjilaaGreatDoorTie.lean); close each card by the builder's one call (the guide's Derived/Test/ToyasCard.lean, 'card_holds'). Laid BY PROGRAM, IN A SANDBOX (cutbox-door.mjs). By AI agents, Wed Nov 11 2026. No macro, syntax, notation, axiom, sorry.
-/
import Derived.Test.YtlkbojgemcjilaaGreatDoorRows
import GoSem.ClaimSeven
namespace Go.Proofs.YtlkbojgemcjilaaGreatDoor
namespace Rows

/-- THE TIED CARD OF 'holdfastlaw13.GrantPlays'. -/
def grantPlaysCard : Claim7 := { stood := { row := grantPlaysRow, standIns := [], harness := (true, "a21ae4a7733645446797d6cd66a722c1be9b7b5f67ea2aff3e317093fe62b389"), looks := true }, kinds := [], alts := [], laidByText := true, laidKinds := [.data, .data, .data], laidTests := true, laidLooks := .later }
def GrantPlaysCardSaid : Prop := Claim7.holds Tryz.pinned (.plain (OpenSpec.ofChange grantPlaysSpec)) grantPlaysCard

/-- THE TIED CARD OF 'holdfastlaw13.GrantLoads'. -/
def grantLoadsCard : Claim7 := { stood := { row := grantLoadsRow, standIns := [], harness := (true, "a21ae4a7733645446797d6cd66a722c1be9b7b5f67ea2aff3e317093fe62b389"), looks := true }, kinds := [], alts := [], laidByText := true, laidKinds := [.data, .data, .data, .data, .pinned], laidTests := true, laidLooks := .later }
def GrantLoadsCardSaid : Prop := Claim7.holds Tryz.pinned (.plain (OpenSpec.ofChange grantLoadsSpec)) grantLoadsCard

/-- THE TIED CARD OF 'holdfastlaw13.GrantLess'. -/
def grantLessCard : Claim7 := { stood := { row := grantLessRow, standIns := [], harness := (true, "a21ae4a7733645446797d6cd66a722c1be9b7b5f67ea2aff3e317093fe62b389"), looks := true }, kinds := [], alts := [], laidByText := true, laidKinds := [.data, .data, .data], laidTests := true, laidLooks := .later }
def GrantLessCardSaid : Prop := Claim7.holds Tryz.pinned (.plain (OpenSpec.ofChange grantLessSpec)) grantLessCard

/-- THE SECOND FORM's CARD OF 'holdfastlaw13.GrantPlays'. -/
def grantPlaysUptoCard : Claim7 := { stood := { row := grantPlaysUptoRow, standIns := [], harness := (true, "a21ae4a7733645446797d6cd66a722c1be9b7b5f67ea2aff3e317093fe62b389"), looks := true }, kinds := [], alts := [], laidByText := true, laidKinds := [.data, .data, .data], laidTests := true, laidLooks := .later }
def GrantPlaysUptoCardSaid : Prop := Claim7.holds Tryz.pinned (.plain (OpenSpec.upto grantPlaysSpec)) grantPlaysUptoCard

/-- THE SECOND FORM's CARD OF 'holdfastlaw13.GrantLoads'. -/
def grantLoadsUptoCard : Claim7 := { stood := { row := grantLoadsUptoRow, standIns := [], harness := (true, "a21ae4a7733645446797d6cd66a722c1be9b7b5f67ea2aff3e317093fe62b389"), looks := true }, kinds := [], alts := [], laidByText := true, laidKinds := [.data, .data, .data, .data, .pinned], laidTests := true, laidLooks := .later }
def GrantLoadsUptoCardSaid : Prop := Claim7.holds Tryz.pinned (.plain (OpenSpec.upto grantLoadsSpec)) grantLoadsUptoCard

/-- THE SECOND FORM's CARD OF 'holdfastlaw13.GrantLess'. -/
def grantLessUptoCard : Claim7 := { stood := { row := grantLessUptoRow, standIns := [], harness := (true, "a21ae4a7733645446797d6cd66a722c1be9b7b5f67ea2aff3e317093fe62b389"), looks := true }, kinds := [], alts := [], laidByText := true, laidKinds := [.data, .data, .data], laidTests := true, laidLooks := .later }
def GrantLessUptoCardSaid : Prop := Claim7.holds Tryz.pinned (.plain (OpenSpec.upto grantLessSpec)) grantLessUptoCard
end Rows
end Go.Proofs.YtlkbojgemcjilaaGreatDoor
