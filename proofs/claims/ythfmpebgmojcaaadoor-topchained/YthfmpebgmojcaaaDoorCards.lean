/-
  DERIVED. GIVEN WITH THE SEED: THE CARDS: each row of YthfmpebgmojcaaaDoorRows.lean that lists a variable, with what it lists TIED to the program's text (the seventh form; the later family's looks); each row that meets fmt, with fmt's text TOLD by the authors' own Lean function (tested against real Go, not proved from fmt's source: count such statements apart). THE CARD IS WHAT COUNTS. Prove the row's statement (the work); the ties are given (YthfmpebgmojcaaaDoorTie.lean); close each card by the builder's one call (the guide's Derived/Test/ToyasCard.lean, 'card_holds'). Laid BY PROGRAM, IN A SANDBOX (cutbox-door.mjs). By AI agents, Wed Nov 11 2026. No macro, syntax, notation, axiom, sorry.
-/
import Derived.Test.YthfmpebgmojcaaaDoorRows
import GoSem.ClaimSeven
namespace Go.Proofs.YthfmpebgmojcaaaDoor
namespace Rows

/-- THE TIED CARD OF 'holdfastlaw14.AuditLoads'. -/
def auditLoadsCard : Claim7 := { stood := { row := auditLoadsRow, standIns := [], harness := (true, "adb9add1f601d43a805f4bb1c95104b3ef924a9601b8fe3d3060f02c5a6713f0"), looks := false }, kinds := [], alts := [], laidByText := true, laidKinds := [.data, .data, .data, .data], laidTests := true, laidLooks := .later }
def AuditLoadsCardSaid : Prop := Claim7.holds Tryd.pinned (.plain (OpenSpec.ofChange auditLoadsSpec)) auditLoadsCard

/-- THE TIED CARD OF 'holdfasttop.TopNoted'. -/
def topNotedCard : Claim7 := { stood := { row := topNotedRow, standIns := [], harness := (true, "adb9add1f601d43a805f4bb1c95104b3ef924a9601b8fe3d3060f02c5a6713f0"), looks := false }, kinds := [], alts := [], laidByText := true, laidKinds := [.data, .data, .data, .data], laidTests := true, laidLooks := .later }
def TopNotedCardSaid : Prop := Claim7.holds Tryd.pinned (.plain (OpenSpec.ofChange topNotedSpec)) topNotedCard

/-- THE TIED CARD OF 'holdfasttop.TopChained'. -/
def topChainedCard : Claim7 := { stood := { row := topChainedRow, standIns := [], harness := (true, "adb9add1f601d43a805f4bb1c95104b3ef924a9601b8fe3d3060f02c5a6713f0"), looks := false }, kinds := [], alts := [], laidByText := true, laidKinds := [.data, .data, .data, .data], laidTests := true, laidLooks := .later }
def TopChainedCardSaid : Prop := Claim7.holds Tryd.pinned (.plain (OpenSpec.ofChange topChainedSpec)) topChainedCard

/-- THE SECOND FORM's CARD OF 'holdfastlaw14.AuditLoads'. -/
def auditLoadsUptoCard : Claim7 := { stood := { row := auditLoadsUptoRow, standIns := [], harness := (true, "adb9add1f601d43a805f4bb1c95104b3ef924a9601b8fe3d3060f02c5a6713f0"), looks := false }, kinds := [], alts := [], laidByText := true, laidKinds := [.data, .data, .data, .data], laidTests := true, laidLooks := .later }
def AuditLoadsUptoCardSaid : Prop := Claim7.holds Tryd.pinned (.plain (OpenSpec.upto auditLoadsSpec)) auditLoadsUptoCard

/-- THE SECOND FORM's CARD OF 'holdfasttop.TopNoted'. -/
def topNotedUptoCard : Claim7 := { stood := { row := topNotedUptoRow, standIns := [], harness := (true, "adb9add1f601d43a805f4bb1c95104b3ef924a9601b8fe3d3060f02c5a6713f0"), looks := false }, kinds := [], alts := [], laidByText := true, laidKinds := [.data, .data, .data, .data], laidTests := true, laidLooks := .later }
def TopNotedUptoCardSaid : Prop := Claim7.holds Tryd.pinned (.plain (OpenSpec.upto topNotedSpec)) topNotedUptoCard

/-- THE SECOND FORM's CARD OF 'holdfasttop.TopChained'. -/
def topChainedUptoCard : Claim7 := { stood := { row := topChainedUptoRow, standIns := [], harness := (true, "adb9add1f601d43a805f4bb1c95104b3ef924a9601b8fe3d3060f02c5a6713f0"), looks := false }, kinds := [], alts := [], laidByText := true, laidKinds := [.data, .data, .data, .data], laidTests := true, laidLooks := .later }
def TopChainedUptoCardSaid : Prop := Claim7.holds Tryd.pinned (.plain (OpenSpec.upto topChainedSpec)) topChainedUptoCard
end Rows
end Go.Proofs.YthfmpebgmojcaaaDoor
