/-
  DERIVED. GIVEN WITH THE SEED: THE CARDS: each row of YtlkbojgemcjilaaDoorRows.lean that lists a variable, with what it lists TIED to the program's text (the seventh form; the later family's looks); each row that meets fmt, with fmt's text TOLD by the authors' own Lean function (tested against real Go, not proved from fmt's source: count such statements apart). THE CARD IS WHAT COUNTS. Prove the row's statement (the work); the ties are given (YtlkbojgemcjilaaDoorTie.lean); close each card by the builder's one call (the guide's Derived/Test/ToyasCard.lean, 'card_holds'). Laid BY PROGRAM, IN A SANDBOX (cutbox-door.mjs). By AI agents, Wed Nov 11 2026. No macro, syntax, notation, axiom, sorry.
-/
import Derived.Test.YtlkbojgemcjilaaDoorRows
import GoSem.ClaimSeven
namespace Go.Proofs.YtlkbojgemcjilaaDoor
namespace Rows

/-- THE TIED CARD OF 'holdfastlaw13.GrantNone'. -/
def grantNoneCard : Claim7 := { stood := { row := grantNoneRow, standIns := [], harness := (true, "c1d695c8aff7638a6c12eee0a677b8d6211b713921b77bc71036728d30c2ab0c"), looks := true }, kinds := [], alts := [], laidByText := true, laidKinds := [.data, .data, .data], laidTests := true, laidLooks := .later }
def GrantNoneCardSaid : Prop := Claim7.holds Tryd.pinned (.plain (OpenSpec.ofChange grantNoneSpec)) grantNoneCard

/-- THE SECOND FORM's CARD OF 'holdfastlaw13.GrantNone'. -/
def grantNoneUptoCard : Claim7 := { stood := { row := grantNoneUptoRow, standIns := [], harness := (true, "c1d695c8aff7638a6c12eee0a677b8d6211b713921b77bc71036728d30c2ab0c"), looks := true }, kinds := [], alts := [], laidByText := true, laidKinds := [.data, .data, .data], laidTests := true, laidLooks := .later }
def GrantNoneUptoCardSaid : Prop := Claim7.holds Tryd.pinned (.plain (OpenSpec.upto grantNoneSpec)) grantNoneUptoCard
end Rows
end Go.Proofs.YtlkbojgemcjilaaDoor
