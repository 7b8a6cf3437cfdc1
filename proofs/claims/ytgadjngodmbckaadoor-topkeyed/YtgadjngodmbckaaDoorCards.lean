/-
  DERIVED. GIVEN WITH THE SEED: THE CARDS: each row of YtgadjngodmbckaaDoorRows.lean that lists a variable, with what it lists TIED to the program's text (the seventh form; the later family's looks); each row that meets fmt, with fmt's text TOLD by the authors' own Lean function (tested against real Go, not proved from fmt's source: count such statements apart). THE CARD IS WHAT COUNTS. Prove the row's statement (the work); the ties are given (YtgadjngodmbckaaDoorTie.lean); close each card by the builder's one call (the guide's Derived/Test/ToyasCard.lean, 'card_holds'). Laid BY PROGRAM, IN A SANDBOX (cutbox-door.mjs). By AI agents, Wed Nov 11 2026. No macro, syntax, notation, axiom, sorry.
-/
import Derived.Test.YtgadjngodmbckaaDoorRows
import GoSem.ClaimSeven
namespace Go.Proofs.YtgadjngodmbckaaDoor
namespace Rows

/-- THE TIED CARD OF 'holdfastlaw08.SealBack'. -/
def sealBackCard : Claim7 := { stood := { row := sealBackRow, standIns := [], harness := (true, "59ae7e843a6a48c837f5fc4c440029aaaf38f05b9d5eca73fc42691353bc63e9"), looks := false }, kinds := [], alts := [], laidByText := true, laidKinds := [.data], laidTests := true, laidLooks := .later }
def SealBackCardSaid : Prop := Claim7.holds Tryd.pinned (.plain (OpenSpec.ofChange sealBackSpec)) sealBackCard

/-- THE TIED CARD OF 'holdfastlaw08.SealHides'. -/
def sealHidesCard : Claim7 := { stood := { row := sealHidesRow, standIns := [], harness := (true, "59ae7e843a6a48c837f5fc4c440029aaaf38f05b9d5eca73fc42691353bc63e9"), looks := false }, kinds := [], alts := [], laidByText := true, laidKinds := [.data], laidTests := true, laidLooks := .later }
def SealHidesCardSaid : Prop := Claim7.holds Tryd.pinned (.plain (OpenSpec.ofChange sealHidesSpec)) sealHidesCard

/-- THE TIED CARD OF 'holdfastlaw08.SealStarts'. -/
def sealStartsCard : Claim7 := { stood := { row := sealStartsRow, standIns := [], harness := (true, "59ae7e843a6a48c837f5fc4c440029aaaf38f05b9d5eca73fc42691353bc63e9"), looks := false }, kinds := [], alts := [], laidByText := true, laidKinds := [.data], laidTests := true, laidLooks := .later }
def SealStartsCardSaid : Prop := Claim7.holds Tryd.pinned (.plain (OpenSpec.ofChange sealStartsSpec)) sealStartsCard

/-- THE TIED CARD OF 'holdfastlaw08.SealNumber'. -/
def sealNumberCard : Claim7 := { stood := { row := sealNumberRow, standIns := [], harness := (true, "59ae7e843a6a48c837f5fc4c440029aaaf38f05b9d5eca73fc42691353bc63e9"), looks := false }, kinds := [], alts := [], laidByText := true, laidKinds := [.data], laidTests := true, laidLooks := .later }
def SealNumberCardSaid : Prop := Claim7.holds Tryd.pinned (.plain (OpenSpec.ofChange sealNumberSpec)) sealNumberCard

/-- THE TIED CARD OF 'holdfasttop.TopKeyed'. -/
def topKeyedCard : Claim7 := { stood := { row := topKeyedRow, standIns := [], harness := (true, "59ae7e843a6a48c837f5fc4c440029aaaf38f05b9d5eca73fc42691353bc63e9"), looks := false }, kinds := [], alts := [], laidByText := true, laidKinds := [.data], laidTests := true, laidLooks := .later }
def TopKeyedCardSaid : Prop := Claim7.holds Tryd.pinned (.plain (OpenSpec.ofChange topKeyedSpec)) topKeyedCard

/-- THE SECOND FORM's CARD OF 'holdfastlaw08.SealBack'. -/
def sealBackUptoCard : Claim7 := { stood := { row := sealBackUptoRow, standIns := [], harness := (true, "59ae7e843a6a48c837f5fc4c440029aaaf38f05b9d5eca73fc42691353bc63e9"), looks := false }, kinds := [], alts := [], laidByText := true, laidKinds := [.data], laidTests := true, laidLooks := .later }
def SealBackUptoCardSaid : Prop := Claim7.holds Tryd.pinned (.plain (OpenSpec.upto sealBackSpec)) sealBackUptoCard

/-- THE SECOND FORM's CARD OF 'holdfastlaw08.SealHides'. -/
def sealHidesUptoCard : Claim7 := { stood := { row := sealHidesUptoRow, standIns := [], harness := (true, "59ae7e843a6a48c837f5fc4c440029aaaf38f05b9d5eca73fc42691353bc63e9"), looks := false }, kinds := [], alts := [], laidByText := true, laidKinds := [.data], laidTests := true, laidLooks := .later }
def SealHidesUptoCardSaid : Prop := Claim7.holds Tryd.pinned (.plain (OpenSpec.upto sealHidesSpec)) sealHidesUptoCard

/-- THE SECOND FORM's CARD OF 'holdfastlaw08.SealStarts'. -/
def sealStartsUptoCard : Claim7 := { stood := { row := sealStartsUptoRow, standIns := [], harness := (true, "59ae7e843a6a48c837f5fc4c440029aaaf38f05b9d5eca73fc42691353bc63e9"), looks := false }, kinds := [], alts := [], laidByText := true, laidKinds := [.data], laidTests := true, laidLooks := .later }
def SealStartsUptoCardSaid : Prop := Claim7.holds Tryd.pinned (.plain (OpenSpec.upto sealStartsSpec)) sealStartsUptoCard

/-- THE SECOND FORM's CARD OF 'holdfastlaw08.SealNumber'. -/
def sealNumberUptoCard : Claim7 := { stood := { row := sealNumberUptoRow, standIns := [], harness := (true, "59ae7e843a6a48c837f5fc4c440029aaaf38f05b9d5eca73fc42691353bc63e9"), looks := false }, kinds := [], alts := [], laidByText := true, laidKinds := [.data], laidTests := true, laidLooks := .later }
def SealNumberUptoCardSaid : Prop := Claim7.holds Tryd.pinned (.plain (OpenSpec.upto sealNumberSpec)) sealNumberUptoCard

/-- THE SECOND FORM's CARD OF 'holdfasttop.TopKeyed'. -/
def topKeyedUptoCard : Claim7 := { stood := { row := topKeyedUptoRow, standIns := [], harness := (true, "59ae7e843a6a48c837f5fc4c440029aaaf38f05b9d5eca73fc42691353bc63e9"), looks := false }, kinds := [], alts := [], laidByText := true, laidKinds := [.data], laidTests := true, laidLooks := .later }
def TopKeyedUptoCardSaid : Prop := Claim7.holds Tryd.pinned (.plain (OpenSpec.upto topKeyedSpec)) topKeyedUptoCard
end Rows
end Go.Proofs.YtgadjngodmbckaaDoor
