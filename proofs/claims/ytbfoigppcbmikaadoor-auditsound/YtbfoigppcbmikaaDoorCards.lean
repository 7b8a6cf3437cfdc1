/-
  DERIVED. GIVEN WITH THE SEED: THE CARDS: each row of YtbfoigppcbmikaaDoorRows.lean that lists a variable, with what it lists TIED to the program's text (the seventh form; the later family's looks); each row that meets fmt, with fmt's text TOLD by the authors' own Lean function (tested against real Go, not proved from fmt's source: count such statements apart). THE CARD IS WHAT COUNTS. Prove the row's statement (the work); the ties are given (YtbfoigppcbmikaaDoorTie.lean); close each card by the builder's one call (the guide's Derived/Test/ToyasCard.lean, 'card_holds'). Laid BY PROGRAM, IN A SANDBOX (cutbox-door.mjs). By AI agents, Wed Nov 11 2026. No macro, syntax, notation, axiom, sorry.
-/
import Derived.Test.YtbfoigppcbmikaaDoorRows
import GoSem.ClaimSeven
namespace Go.Proofs.YtbfoigppcbmikaaDoor
namespace Rows

/-- THE TIED CARD OF 'holdfastlaw14.AuditPlays'. -/
def auditPlaysCard : Claim7 := { stood := { row := auditPlaysRow, standIns := [], harness := (true, "0e93747990d5f2d01300715116fa2e061c6228dab4ed6f67c653889c1d4d95b4"), looks := false }, kinds := [], alts := [], laidByText := true, laidKinds := [.data, .data, .data, .data], laidTests := true, laidLooks := .later }
def AuditPlaysCardSaid : Prop := Claim7.holds Tryd.pinned (.plain (OpenSpec.ofChange auditPlaysSpec)) auditPlaysCard

/-- THE TIED CARD OF 'holdfastlaw14.AuditLoads'. -/
def auditLoadsCard : Claim7 := { stood := { row := auditLoadsRow, standIns := [], harness := (true, "0e93747990d5f2d01300715116fa2e061c6228dab4ed6f67c653889c1d4d95b4"), looks := false }, kinds := [], alts := [], laidByText := true, laidKinds := [.data, .data, .data, .data], laidTests := true, laidLooks := .later }
def AuditLoadsCardSaid : Prop := Claim7.holds Tryd.pinned (.plain (OpenSpec.ofChange auditLoadsSpec)) auditLoadsCard

/-- THE TIED CARD OF 'holdfastlaw14.AuditSound'. -/
def auditSoundCard : Claim7 := { stood := { row := auditSoundRow, standIns := [], harness := (true, "0e93747990d5f2d01300715116fa2e061c6228dab4ed6f67c653889c1d4d95b4"), looks := false }, kinds := [], alts := [], laidByText := true, laidKinds := [.data, .data, .data, .data], laidTests := true, laidLooks := .later }
def AuditSoundCardSaid : Prop := Claim7.holds Tryd.pinned (.plain (OpenSpec.ofChange auditSoundSpec)) auditSoundCard

/-- THE TIED CARD OF 'holdfastlaw14.AuditTells'. -/
def auditTellsCard : Claim7 := { stood := { row := auditTellsRow, standIns := [], harness := (true, "0e93747990d5f2d01300715116fa2e061c6228dab4ed6f67c653889c1d4d95b4"), looks := false }, kinds := [], alts := [], laidByText := true, laidKinds := [.data, .data, .data, .data], laidTests := true, laidLooks := .later }
def AuditTellsCardSaid : Prop := Claim7.holds Tryd.pinned (.plain (OpenSpec.ofChange auditTellsSpec)) auditTellsCard

/-- THE TIED CARD OF 'holdfastlaw14.AuditPrunes'. -/
def auditPrunesCard : Claim7 := { stood := { row := auditPrunesRow, standIns := [], harness := (true, "0e93747990d5f2d01300715116fa2e061c6228dab4ed6f67c653889c1d4d95b4"), looks := false }, kinds := [], alts := [], laidByText := true, laidKinds := [.data, .data, .data, .data], laidTests := true, laidLooks := .later }
def AuditPrunesCardSaid : Prop := Claim7.holds Tryd.pinned (.plain (OpenSpec.ofChange auditPrunesSpec)) auditPrunesCard

/-- THE TIED CARD OF 'holdfastlaw14.AuditNone'. -/
def auditNoneCard : Claim7 := { stood := { row := auditNoneRow, standIns := [], harness := (true, "0e93747990d5f2d01300715116fa2e061c6228dab4ed6f67c653889c1d4d95b4"), looks := false }, kinds := [], alts := [], laidByText := true, laidKinds := [.data, .data, .data, .data], laidTests := true, laidLooks := .later }
def AuditNoneCardSaid : Prop := Claim7.holds Tryd.pinned (.plain (OpenSpec.ofChange auditNoneSpec)) auditNoneCard

/-- THE TIED CARD OF 'holdfastlaw14.AuditOrder'. -/
def auditOrderCard : Claim7 := { stood := { row := auditOrderRow, standIns := [], harness := (true, "0e93747990d5f2d01300715116fa2e061c6228dab4ed6f67c653889c1d4d95b4"), looks := false }, kinds := [], alts := [], laidByText := true, laidKinds := [.data, .data, .data, .data], laidTests := true, laidLooks := .later }
def AuditOrderCardSaid : Prop := Claim7.holds Tryd.pinned (.plain (OpenSpec.ofChange auditOrderSpec)) auditOrderCard

/-- THE TIED CARD OF 'holdfastlaw14.AuditRooms'. -/
def auditRoomsCard : Claim7 := { stood := { row := auditRoomsRow, standIns := [], harness := (true, "0e93747990d5f2d01300715116fa2e061c6228dab4ed6f67c653889c1d4d95b4"), looks := false }, kinds := [], alts := [], laidByText := true, laidKinds := [.data, .data, .data, .data], laidTests := true, laidLooks := .later }
def AuditRoomsCardSaid : Prop := Claim7.holds Tryd.pinned (.plain (OpenSpec.ofChange auditRoomsSpec)) auditRoomsCard

/-- THE SECOND FORM's CARD OF 'holdfastlaw14.AuditPlays'. -/
def auditPlaysUptoCard : Claim7 := { stood := { row := auditPlaysUptoRow, standIns := [], harness := (true, "0e93747990d5f2d01300715116fa2e061c6228dab4ed6f67c653889c1d4d95b4"), looks := false }, kinds := [], alts := [], laidByText := true, laidKinds := [.data, .data, .data, .data], laidTests := true, laidLooks := .later }
def AuditPlaysUptoCardSaid : Prop := Claim7.holds Tryd.pinned (.plain (OpenSpec.upto auditPlaysSpec)) auditPlaysUptoCard

/-- THE SECOND FORM's CARD OF 'holdfastlaw14.AuditLoads'. -/
def auditLoadsUptoCard : Claim7 := { stood := { row := auditLoadsUptoRow, standIns := [], harness := (true, "0e93747990d5f2d01300715116fa2e061c6228dab4ed6f67c653889c1d4d95b4"), looks := false }, kinds := [], alts := [], laidByText := true, laidKinds := [.data, .data, .data, .data], laidTests := true, laidLooks := .later }
def AuditLoadsUptoCardSaid : Prop := Claim7.holds Tryd.pinned (.plain (OpenSpec.upto auditLoadsSpec)) auditLoadsUptoCard

/-- THE SECOND FORM's CARD OF 'holdfastlaw14.AuditSound'. -/
def auditSoundUptoCard : Claim7 := { stood := { row := auditSoundUptoRow, standIns := [], harness := (true, "0e93747990d5f2d01300715116fa2e061c6228dab4ed6f67c653889c1d4d95b4"), looks := false }, kinds := [], alts := [], laidByText := true, laidKinds := [.data, .data, .data, .data], laidTests := true, laidLooks := .later }
def AuditSoundUptoCardSaid : Prop := Claim7.holds Tryd.pinned (.plain (OpenSpec.upto auditSoundSpec)) auditSoundUptoCard

/-- THE SECOND FORM's CARD OF 'holdfastlaw14.AuditTells'. -/
def auditTellsUptoCard : Claim7 := { stood := { row := auditTellsUptoRow, standIns := [], harness := (true, "0e93747990d5f2d01300715116fa2e061c6228dab4ed6f67c653889c1d4d95b4"), looks := false }, kinds := [], alts := [], laidByText := true, laidKinds := [.data, .data, .data, .data], laidTests := true, laidLooks := .later }
def AuditTellsUptoCardSaid : Prop := Claim7.holds Tryd.pinned (.plain (OpenSpec.upto auditTellsSpec)) auditTellsUptoCard

/-- THE SECOND FORM's CARD OF 'holdfastlaw14.AuditPrunes'. -/
def auditPrunesUptoCard : Claim7 := { stood := { row := auditPrunesUptoRow, standIns := [], harness := (true, "0e93747990d5f2d01300715116fa2e061c6228dab4ed6f67c653889c1d4d95b4"), looks := false }, kinds := [], alts := [], laidByText := true, laidKinds := [.data, .data, .data, .data], laidTests := true, laidLooks := .later }
def AuditPrunesUptoCardSaid : Prop := Claim7.holds Tryd.pinned (.plain (OpenSpec.upto auditPrunesSpec)) auditPrunesUptoCard

/-- THE SECOND FORM's CARD OF 'holdfastlaw14.AuditNone'. -/
def auditNoneUptoCard : Claim7 := { stood := { row := auditNoneUptoRow, standIns := [], harness := (true, "0e93747990d5f2d01300715116fa2e061c6228dab4ed6f67c653889c1d4d95b4"), looks := false }, kinds := [], alts := [], laidByText := true, laidKinds := [.data, .data, .data, .data], laidTests := true, laidLooks := .later }
def AuditNoneUptoCardSaid : Prop := Claim7.holds Tryd.pinned (.plain (OpenSpec.upto auditNoneSpec)) auditNoneUptoCard

/-- THE SECOND FORM's CARD OF 'holdfastlaw14.AuditOrder'. -/
def auditOrderUptoCard : Claim7 := { stood := { row := auditOrderUptoRow, standIns := [], harness := (true, "0e93747990d5f2d01300715116fa2e061c6228dab4ed6f67c653889c1d4d95b4"), looks := false }, kinds := [], alts := [], laidByText := true, laidKinds := [.data, .data, .data, .data], laidTests := true, laidLooks := .later }
def AuditOrderUptoCardSaid : Prop := Claim7.holds Tryd.pinned (.plain (OpenSpec.upto auditOrderSpec)) auditOrderUptoCard

/-- THE SECOND FORM's CARD OF 'holdfastlaw14.AuditRooms'. -/
def auditRoomsUptoCard : Claim7 := { stood := { row := auditRoomsUptoRow, standIns := [], harness := (true, "0e93747990d5f2d01300715116fa2e061c6228dab4ed6f67c653889c1d4d95b4"), looks := false }, kinds := [], alts := [], laidByText := true, laidKinds := [.data, .data, .data, .data], laidTests := true, laidLooks := .later }
def AuditRoomsUptoCardSaid : Prop := Claim7.holds Tryd.pinned (.plain (OpenSpec.upto auditRoomsSpec)) auditRoomsUptoCard
end Rows
end Go.Proofs.YtbfoigppcbmikaaDoor
