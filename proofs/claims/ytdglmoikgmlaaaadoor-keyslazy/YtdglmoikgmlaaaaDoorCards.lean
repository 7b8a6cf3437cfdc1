/-
  DERIVED. GIVEN WITH THE SEED: THE CARDS: each row of YtdglmoikgmlaaaaDoorRows.lean that lists a variable, with what it lists TIED to the program's text (the seventh form; the later family's looks); each row that meets fmt, with fmt's text TOLD by the authors' own Lean function (tested against real Go, not proved from fmt's source: count such statements apart). THE CARD IS WHAT COUNTS. Prove the row's statement (the work); the ties are given (YtdglmoikgmlaaaaDoorTie.lean); close each card by the builder's one call (the guide's Derived/Test/ToyasCard.lean, 'card_holds'). Laid BY PROGRAM, IN A SANDBOX (cutbox-door.mjs). By AI agents, Wed Nov 11 2026. No macro, syntax, notation, axiom, sorry.
-/
import Derived.Test.YtdglmoikgmlaaaaDoorRows
import GoSem.ClaimSeven
namespace Go.Proofs.YtdglmoikgmlaaaaDoor
namespace Rows

/-- THE TIED CARD OF 'holdfastlaw09.KeysApart'. -/
def keysApartCard : Claim7 := { stood := { row := keysApartRow, standIns := [], harness := (true, "6e74e2247bfb8fa5a1a2ea64cdb90c97304b5a7e171ce413b905a5f1ffe63755"), looks := false }, kinds := [], alts := [], laidByText := true, laidKinds := [.data, .data, .data, .data], laidTests := true, laidLooks := .later }
def KeysApartCardSaid : Prop := Claim7.holds Tryd.pinned (.plain (OpenSpec.ofChange keysApartSpec)) keysApartCard

/-- THE TIED CARD OF 'holdfastlaw09.KeysLazy'. -/
def keysLazyCard : Claim7 := { stood := { row := keysLazyRow, standIns := [], harness := (true, "6e74e2247bfb8fa5a1a2ea64cdb90c97304b5a7e171ce413b905a5f1ffe63755"), looks := false }, kinds := [], alts := [], laidByText := true, laidKinds := [.data, .data, .data, .data], laidTests := true, laidLooks := .later }
def KeysLazyCardSaid : Prop := Claim7.holds Tryd.pinned (.plain (OpenSpec.ofChange keysLazySpec)) keysLazyCard

/-- THE SECOND FORM's CARD OF 'holdfastlaw09.KeysApart'. -/
def keysApartUptoCard : Claim7 := { stood := { row := keysApartUptoRow, standIns := [], harness := (true, "6e74e2247bfb8fa5a1a2ea64cdb90c97304b5a7e171ce413b905a5f1ffe63755"), looks := false }, kinds := [], alts := [], laidByText := true, laidKinds := [.data, .data, .data, .data], laidTests := true, laidLooks := .later }
def KeysApartUptoCardSaid : Prop := Claim7.holds Tryd.pinned (.plain (OpenSpec.upto keysApartSpec)) keysApartUptoCard

/-- THE SECOND FORM's CARD OF 'holdfastlaw09.KeysLazy'. -/
def keysLazyUptoCard : Claim7 := { stood := { row := keysLazyUptoRow, standIns := [], harness := (true, "6e74e2247bfb8fa5a1a2ea64cdb90c97304b5a7e171ce413b905a5f1ffe63755"), looks := false }, kinds := [], alts := [], laidByText := true, laidKinds := [.data, .data, .data, .data], laidTests := true, laidLooks := .later }
def KeysLazyUptoCardSaid : Prop := Claim7.holds Tryd.pinned (.plain (OpenSpec.upto keysLazySpec)) keysLazyUptoCard
end Rows
end Go.Proofs.YtdglmoikgmlaaaaDoor
