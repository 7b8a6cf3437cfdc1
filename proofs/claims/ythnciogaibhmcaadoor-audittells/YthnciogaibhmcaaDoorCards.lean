/-
  DERIVED. GIVEN WITH THE SEED: THE CARDS: each row of YthnciogaibhmcaaDoorRows.lean that lists a variable, with what it lists TIED to the program's text (the seventh form; the later family's looks); each row that meets fmt, with fmt's text TOLD by the authors' own Lean function (tested against real Go, not proved from fmt's source: count such statements apart). THE CARD IS WHAT COUNTS. Prove the row's statement (the work); the ties are given (YthnciogaibhmcaaDoorTie.lean); close each card by the builder's one call (the guide's Derived/Test/ToyasCard.lean, 'card_holds'). Laid BY PROGRAM, IN A SANDBOX (cutbox-door.mjs). By AI agents, Wed Nov 11 2026. No macro, syntax, notation, axiom, sorry.
-/
import Derived.Test.YthnciogaibhmcaaDoorRows
import GoSem.ClaimSeven
namespace Go.Proofs.YthnciogaibhmcaaDoor
namespace Rows

/-- THE TIED CARD OF 'holdfastlaw14.AuditPlays'. -/
def auditPlaysCard : Claim7 := { stood := { row := auditPlaysRow, standIns := [], harness := (true, "736054c882a497eb247d073b16de9a07b9a8513eca11cde08f51b16966c50647"), looks := false }, kinds := [], alts := [], laidByText := true, laidKinds := [.data, .data, .data, .data], laidTests := true, laidLooks := .later }
def AuditPlaysCardSaid : Prop := Claim7.holds Tryd.pinned (.plain (OpenSpec.ofChange auditPlaysSpec)) auditPlaysCard

/-- THE TIED CARD OF 'holdfastlaw14.AuditLoads'. -/
def auditLoadsCard : Claim7 := { stood := { row := auditLoadsRow, standIns := [], harness := (true, "736054c882a497eb247d073b16de9a07b9a8513eca11cde08f51b16966c50647"), looks := false }, kinds := [], alts := [], laidByText := true, laidKinds := [.data, .data, .data, .data], laidTests := true, laidLooks := .later }
def AuditLoadsCardSaid : Prop := Claim7.holds Tryd.pinned (.plain (OpenSpec.ofChange auditLoadsSpec)) auditLoadsCard

/-- THE TIED CARD OF 'holdfastlaw14.AuditTells'. -/
def auditTellsCard : Claim7 := { stood := { row := auditTellsRow, standIns := [], harness := (true, "736054c882a497eb247d073b16de9a07b9a8513eca11cde08f51b16966c50647"), looks := false }, kinds := [], alts := [], laidByText := true, laidKinds := [.data, .data, .data, .data], laidTests := true, laidLooks := .later }
def AuditTellsCardSaid : Prop := Claim7.holds Tryd.pinned (.plain (OpenSpec.ofChange auditTellsSpec)) auditTellsCard

/-- THE SECOND FORM's CARD OF 'holdfastlaw14.AuditPlays'. -/
def auditPlaysUptoCard : Claim7 := { stood := { row := auditPlaysUptoRow, standIns := [], harness := (true, "736054c882a497eb247d073b16de9a07b9a8513eca11cde08f51b16966c50647"), looks := false }, kinds := [], alts := [], laidByText := true, laidKinds := [.data, .data, .data, .data], laidTests := true, laidLooks := .later }
def AuditPlaysUptoCardSaid : Prop := Claim7.holds Tryd.pinned (.plain (OpenSpec.upto auditPlaysSpec)) auditPlaysUptoCard

/-- THE SECOND FORM's CARD OF 'holdfastlaw14.AuditLoads'. -/
def auditLoadsUptoCard : Claim7 := { stood := { row := auditLoadsUptoRow, standIns := [], harness := (true, "736054c882a497eb247d073b16de9a07b9a8513eca11cde08f51b16966c50647"), looks := false }, kinds := [], alts := [], laidByText := true, laidKinds := [.data, .data, .data, .data], laidTests := true, laidLooks := .later }
def AuditLoadsUptoCardSaid : Prop := Claim7.holds Tryd.pinned (.plain (OpenSpec.upto auditLoadsSpec)) auditLoadsUptoCard

/-- THE SECOND FORM's CARD OF 'holdfastlaw14.AuditTells'. -/
def auditTellsUptoCard : Claim7 := { stood := { row := auditTellsUptoRow, standIns := [], harness := (true, "736054c882a497eb247d073b16de9a07b9a8513eca11cde08f51b16966c50647"), looks := false }, kinds := [], alts := [], laidByText := true, laidKinds := [.data, .data, .data, .data], laidTests := true, laidLooks := .later }
def AuditTellsUptoCardSaid : Prop := Claim7.holds Tryd.pinned (.plain (OpenSpec.upto auditTellsSpec)) auditTellsUptoCard
end Rows
end Go.Proofs.YthnciogaibhmcaaDoor
