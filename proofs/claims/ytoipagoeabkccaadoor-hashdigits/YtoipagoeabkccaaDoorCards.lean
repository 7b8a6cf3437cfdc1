/-
  DERIVED. GIVEN WITH THE SEED: THE CARDS: each row of YtoipagoeabkccaaDoorRows.lean that lists a variable, with what it lists TIED to the program's text (the seventh form; the later family's looks); each row that meets fmt, with fmt's text TOLD by the authors' own Lean function (tested against real Go, not proved from fmt's source: count such statements apart). THE CARD IS WHAT COUNTS. Prove the row's statement (the work); the ties are given (YtoipagoeabkccaaDoorTie.lean); close each card by the builder's one call (the guide's Derived/Test/ToyasCard.lean, 'card_holds'). Laid BY PROGRAM, IN A SANDBOX (cutbox-door.mjs). By AI agents, Wed Nov 11 2026. No macro, syntax, notation, axiom, sorry.
-/
import Derived.Test.YtoipagoeabkccaaDoorRows
import GoSem.ClaimSeven
namespace Go.Proofs.YtoipagoeabkccaaDoor
namespace Rows

/-- THE TIED CARD OF 'holdfastlaw07.HashSums'. -/
def hashSumsCard : Claim7 := { stood := { row := hashSumsRow, standIns := [], harness := (true, "ae053d5432fadbcd4d55f6e8605ee4bab6cdb52de6f07f872e5fc1554cc901b8"), looks := false }, kinds := [], alts := [], laidByText := true, laidKinds := [.data], laidTests := true, laidLooks := .later }
def HashSumsCardSaid : Prop := Claim7.holds Tryd.pinned (.plain (OpenSpec.ofChange hashSumsSpec)) hashSumsCard

/-- THE TIED CARD OF 'holdfastlaw07.HashIterates'. -/
def hashIteratesCard : Claim7 := { stood := { row := hashIteratesRow, standIns := [], harness := (true, "ae053d5432fadbcd4d55f6e8605ee4bab6cdb52de6f07f872e5fc1554cc901b8"), looks := false }, kinds := [], alts := [], laidByText := true, laidKinds := [.data], laidTests := true, laidLooks := .later }
def HashIteratesCardSaid : Prop := Claim7.holds Tryd.pinned (.plain (OpenSpec.ofChange hashIteratesSpec)) hashIteratesCard

/-- THE TIED CARD OF 'holdfastlaw07.HashDerives'. -/
def hashDerivesCard : Claim7 := { stood := { row := hashDerivesRow, standIns := [], harness := (true, "ae053d5432fadbcd4d55f6e8605ee4bab6cdb52de6f07f872e5fc1554cc901b8"), looks := false }, kinds := [], alts := [], laidByText := true, laidKinds := [.data], laidTests := true, laidLooks := .later }
def HashDerivesCardSaid : Prop := Claim7.holds Tryd.pinned (.plain (OpenSpec.ofChange hashDerivesSpec)) hashDerivesCard

/-- THE TIED CARD OF 'holdfastlaw07.HashDigits'. -/
def hashDigitsCard : Claim7 := { stood := { row := hashDigitsRow, standIns := [], harness := (true, "ae053d5432fadbcd4d55f6e8605ee4bab6cdb52de6f07f872e5fc1554cc901b8"), looks := false }, kinds := [], alts := [], laidByText := true, laidKinds := [.data], laidTests := true, laidLooks := .later }
def HashDigitsCardSaid : Prop := Claim7.holds Tryd.pinned (.plain (OpenSpec.ofChange hashDigitsSpec)) hashDigitsCard

/-- THE TIED CARD OF 'holdfastlaw07.HashParts'. -/
def hashPartsCard : Claim7 := { stood := { row := hashPartsRow, standIns := [], harness := (true, "ae053d5432fadbcd4d55f6e8605ee4bab6cdb52de6f07f872e5fc1554cc901b8"), looks := false }, kinds := [], alts := [], laidByText := true, laidKinds := [.data], laidTests := true, laidLooks := .later }
def HashPartsCardSaid : Prop := Claim7.holds Tryd.pinned (.plain (OpenSpec.ofChange hashPartsSpec)) hashPartsCard

/-- THE TIED CARD OF 'holdfastlaw07.HashRounds'. -/
def hashRoundsCard : Claim7 := { stood := { row := hashRoundsRow, standIns := [], harness := (true, "ae053d5432fadbcd4d55f6e8605ee4bab6cdb52de6f07f872e5fc1554cc901b8"), looks := false }, kinds := [], alts := [], laidByText := true, laidKinds := [.data], laidTests := true, laidLooks := .later }
def HashRoundsCardSaid : Prop := Claim7.holds Tryd.pinned (.plain (OpenSpec.ofChange hashRoundsSpec)) hashRoundsCard

/-- THE TIED CARD OF 'holdfastlaw07.HashBlocks'. -/
def hashBlocksCard : Claim7 := { stood := { row := hashBlocksRow, standIns := [], harness := (true, "ae053d5432fadbcd4d55f6e8605ee4bab6cdb52de6f07f872e5fc1554cc901b8"), looks := false }, kinds := [], alts := [], laidByText := true, laidKinds := [.data], laidTests := true, laidLooks := .later }
def HashBlocksCardSaid : Prop := Claim7.holds Tryd.pinned (.plain (OpenSpec.ofChange hashBlocksSpec)) hashBlocksCard

/-- THE TIED CARD OF 'holdfastlaw08.SealSeals'. -/
def sealSealsCard : Claim7 := { stood := { row := sealSealsRow, standIns := [], harness := (true, "ae053d5432fadbcd4d55f6e8605ee4bab6cdb52de6f07f872e5fc1554cc901b8"), looks := false }, kinds := [], alts := [], laidByText := true, laidKinds := [.data], laidTests := true, laidLooks := .later }
def SealSealsCardSaid : Prop := Claim7.holds Tryd.pinned (.plain (OpenSpec.ofChange sealSealsSpec)) sealSealsCard

/-- THE TIED CARD OF 'holdfastlaw08.SealStreams'. -/
def sealStreamsCard : Claim7 := { stood := { row := sealStreamsRow, standIns := [], harness := (true, "ae053d5432fadbcd4d55f6e8605ee4bab6cdb52de6f07f872e5fc1554cc901b8"), looks := false }, kinds := [], alts := [], laidByText := true, laidKinds := [.data], laidTests := true, laidLooks := .later }
def SealStreamsCardSaid : Prop := Claim7.holds Tryd.pinned (.plain (OpenSpec.ofChange sealStreamsSpec)) sealStreamsCard

/-- THE TIED CARD OF 'holdfastlaw08.SealBack'. -/
def sealBackCard : Claim7 := { stood := { row := sealBackRow, standIns := [], harness := (true, "ae053d5432fadbcd4d55f6e8605ee4bab6cdb52de6f07f872e5fc1554cc901b8"), looks := false }, kinds := [], alts := [], laidByText := true, laidKinds := [.data], laidTests := true, laidLooks := .later }
def SealBackCardSaid : Prop := Claim7.holds Tryd.pinned (.plain (OpenSpec.ofChange sealBackSpec)) sealBackCard

/-- THE TIED CARD OF 'holdfastlaw08.SealHides'. -/
def sealHidesCard : Claim7 := { stood := { row := sealHidesRow, standIns := [], harness := (true, "ae053d5432fadbcd4d55f6e8605ee4bab6cdb52de6f07f872e5fc1554cc901b8"), looks := false }, kinds := [], alts := [], laidByText := true, laidKinds := [.data], laidTests := true, laidLooks := .later }
def SealHidesCardSaid : Prop := Claim7.holds Tryd.pinned (.plain (OpenSpec.ofChange sealHidesSpec)) sealHidesCard

/-- THE TIED CARD OF 'holdfastlaw08.SealTells'. -/
def sealTellsCard : Claim7 := { stood := { row := sealTellsRow, standIns := [], harness := (true, "ae053d5432fadbcd4d55f6e8605ee4bab6cdb52de6f07f872e5fc1554cc901b8"), looks := false }, kinds := [], alts := [], laidByText := true, laidKinds := [.data], laidTests := true, laidLooks := .later }
def SealTellsCardSaid : Prop := Claim7.holds Tryd.pinned (.plain (OpenSpec.ofChange sealTellsSpec)) sealTellsCard

/-- THE TIED CARD OF 'holdfastlaw08.SealStarts'. -/
def sealStartsCard : Claim7 := { stood := { row := sealStartsRow, standIns := [], harness := (true, "ae053d5432fadbcd4d55f6e8605ee4bab6cdb52de6f07f872e5fc1554cc901b8"), looks := false }, kinds := [], alts := [], laidByText := true, laidKinds := [.data], laidTests := true, laidLooks := .later }
def SealStartsCardSaid : Prop := Claim7.holds Tryd.pinned (.plain (OpenSpec.ofChange sealStartsSpec)) sealStartsCard

/-- THE TIED CARD OF 'holdfastlaw08.SealNumber'. -/
def sealNumberCard : Claim7 := { stood := { row := sealNumberRow, standIns := [], harness := (true, "ae053d5432fadbcd4d55f6e8605ee4bab6cdb52de6f07f872e5fc1554cc901b8"), looks := false }, kinds := [], alts := [], laidByText := true, laidKinds := [.data], laidTests := true, laidLooks := .later }
def SealNumberCardSaid : Prop := Claim7.holds Tryd.pinned (.plain (OpenSpec.ofChange sealNumberSpec)) sealNumberCard

/-- THE TIED CARD OF 'holdfasttop.TopKeyed'. -/
def topKeyedCard : Claim7 := { stood := { row := topKeyedRow, standIns := [], harness := (true, "ae053d5432fadbcd4d55f6e8605ee4bab6cdb52de6f07f872e5fc1554cc901b8"), looks := false }, kinds := [], alts := [], laidByText := true, laidKinds := [.data], laidTests := true, laidLooks := .later }
def TopKeyedCardSaid : Prop := Claim7.holds Tryd.pinned (.plain (OpenSpec.ofChange topKeyedSpec)) topKeyedCard

/-- THE SECOND FORM's CARD OF 'holdfastlaw07.HashSums'. -/
def hashSumsUptoCard : Claim7 := { stood := { row := hashSumsUptoRow, standIns := [], harness := (true, "ae053d5432fadbcd4d55f6e8605ee4bab6cdb52de6f07f872e5fc1554cc901b8"), looks := false }, kinds := [], alts := [], laidByText := true, laidKinds := [.data], laidTests := true, laidLooks := .later }
def HashSumsUptoCardSaid : Prop := Claim7.holds Tryd.pinned (.plain (OpenSpec.upto hashSumsSpec)) hashSumsUptoCard

/-- THE SECOND FORM's CARD OF 'holdfastlaw07.HashIterates'. -/
def hashIteratesUptoCard : Claim7 := { stood := { row := hashIteratesUptoRow, standIns := [], harness := (true, "ae053d5432fadbcd4d55f6e8605ee4bab6cdb52de6f07f872e5fc1554cc901b8"), looks := false }, kinds := [], alts := [], laidByText := true, laidKinds := [.data], laidTests := true, laidLooks := .later }
def HashIteratesUptoCardSaid : Prop := Claim7.holds Tryd.pinned (.plain (OpenSpec.upto hashIteratesSpec)) hashIteratesUptoCard

/-- THE SECOND FORM's CARD OF 'holdfastlaw07.HashDerives'. -/
def hashDerivesUptoCard : Claim7 := { stood := { row := hashDerivesUptoRow, standIns := [], harness := (true, "ae053d5432fadbcd4d55f6e8605ee4bab6cdb52de6f07f872e5fc1554cc901b8"), looks := false }, kinds := [], alts := [], laidByText := true, laidKinds := [.data], laidTests := true, laidLooks := .later }
def HashDerivesUptoCardSaid : Prop := Claim7.holds Tryd.pinned (.plain (OpenSpec.upto hashDerivesSpec)) hashDerivesUptoCard

/-- THE SECOND FORM's CARD OF 'holdfastlaw07.HashDigits'. -/
def hashDigitsUptoCard : Claim7 := { stood := { row := hashDigitsUptoRow, standIns := [], harness := (true, "ae053d5432fadbcd4d55f6e8605ee4bab6cdb52de6f07f872e5fc1554cc901b8"), looks := false }, kinds := [], alts := [], laidByText := true, laidKinds := [.data], laidTests := true, laidLooks := .later }
def HashDigitsUptoCardSaid : Prop := Claim7.holds Tryd.pinned (.plain (OpenSpec.upto hashDigitsSpec)) hashDigitsUptoCard

/-- THE SECOND FORM's CARD OF 'holdfastlaw07.HashParts'. -/
def hashPartsUptoCard : Claim7 := { stood := { row := hashPartsUptoRow, standIns := [], harness := (true, "ae053d5432fadbcd4d55f6e8605ee4bab6cdb52de6f07f872e5fc1554cc901b8"), looks := false }, kinds := [], alts := [], laidByText := true, laidKinds := [.data], laidTests := true, laidLooks := .later }
def HashPartsUptoCardSaid : Prop := Claim7.holds Tryd.pinned (.plain (OpenSpec.upto hashPartsSpec)) hashPartsUptoCard

/-- THE SECOND FORM's CARD OF 'holdfastlaw07.HashRounds'. -/
def hashRoundsUptoCard : Claim7 := { stood := { row := hashRoundsUptoRow, standIns := [], harness := (true, "ae053d5432fadbcd4d55f6e8605ee4bab6cdb52de6f07f872e5fc1554cc901b8"), looks := false }, kinds := [], alts := [], laidByText := true, laidKinds := [.data], laidTests := true, laidLooks := .later }
def HashRoundsUptoCardSaid : Prop := Claim7.holds Tryd.pinned (.plain (OpenSpec.upto hashRoundsSpec)) hashRoundsUptoCard

/-- THE SECOND FORM's CARD OF 'holdfastlaw07.HashBlocks'. -/
def hashBlocksUptoCard : Claim7 := { stood := { row := hashBlocksUptoRow, standIns := [], harness := (true, "ae053d5432fadbcd4d55f6e8605ee4bab6cdb52de6f07f872e5fc1554cc901b8"), looks := false }, kinds := [], alts := [], laidByText := true, laidKinds := [.data], laidTests := true, laidLooks := .later }
def HashBlocksUptoCardSaid : Prop := Claim7.holds Tryd.pinned (.plain (OpenSpec.upto hashBlocksSpec)) hashBlocksUptoCard

/-- THE SECOND FORM's CARD OF 'holdfastlaw08.SealSeals'. -/
def sealSealsUptoCard : Claim7 := { stood := { row := sealSealsUptoRow, standIns := [], harness := (true, "ae053d5432fadbcd4d55f6e8605ee4bab6cdb52de6f07f872e5fc1554cc901b8"), looks := false }, kinds := [], alts := [], laidByText := true, laidKinds := [.data], laidTests := true, laidLooks := .later }
def SealSealsUptoCardSaid : Prop := Claim7.holds Tryd.pinned (.plain (OpenSpec.upto sealSealsSpec)) sealSealsUptoCard

/-- THE SECOND FORM's CARD OF 'holdfastlaw08.SealStreams'. -/
def sealStreamsUptoCard : Claim7 := { stood := { row := sealStreamsUptoRow, standIns := [], harness := (true, "ae053d5432fadbcd4d55f6e8605ee4bab6cdb52de6f07f872e5fc1554cc901b8"), looks := false }, kinds := [], alts := [], laidByText := true, laidKinds := [.data], laidTests := true, laidLooks := .later }
def SealStreamsUptoCardSaid : Prop := Claim7.holds Tryd.pinned (.plain (OpenSpec.upto sealStreamsSpec)) sealStreamsUptoCard

/-- THE SECOND FORM's CARD OF 'holdfastlaw08.SealBack'. -/
def sealBackUptoCard : Claim7 := { stood := { row := sealBackUptoRow, standIns := [], harness := (true, "ae053d5432fadbcd4d55f6e8605ee4bab6cdb52de6f07f872e5fc1554cc901b8"), looks := false }, kinds := [], alts := [], laidByText := true, laidKinds := [.data], laidTests := true, laidLooks := .later }
def SealBackUptoCardSaid : Prop := Claim7.holds Tryd.pinned (.plain (OpenSpec.upto sealBackSpec)) sealBackUptoCard

/-- THE SECOND FORM's CARD OF 'holdfastlaw08.SealHides'. -/
def sealHidesUptoCard : Claim7 := { stood := { row := sealHidesUptoRow, standIns := [], harness := (true, "ae053d5432fadbcd4d55f6e8605ee4bab6cdb52de6f07f872e5fc1554cc901b8"), looks := false }, kinds := [], alts := [], laidByText := true, laidKinds := [.data], laidTests := true, laidLooks := .later }
def SealHidesUptoCardSaid : Prop := Claim7.holds Tryd.pinned (.plain (OpenSpec.upto sealHidesSpec)) sealHidesUptoCard

/-- THE SECOND FORM's CARD OF 'holdfastlaw08.SealTells'. -/
def sealTellsUptoCard : Claim7 := { stood := { row := sealTellsUptoRow, standIns := [], harness := (true, "ae053d5432fadbcd4d55f6e8605ee4bab6cdb52de6f07f872e5fc1554cc901b8"), looks := false }, kinds := [], alts := [], laidByText := true, laidKinds := [.data], laidTests := true, laidLooks := .later }
def SealTellsUptoCardSaid : Prop := Claim7.holds Tryd.pinned (.plain (OpenSpec.upto sealTellsSpec)) sealTellsUptoCard

/-- THE SECOND FORM's CARD OF 'holdfastlaw08.SealStarts'. -/
def sealStartsUptoCard : Claim7 := { stood := { row := sealStartsUptoRow, standIns := [], harness := (true, "ae053d5432fadbcd4d55f6e8605ee4bab6cdb52de6f07f872e5fc1554cc901b8"), looks := false }, kinds := [], alts := [], laidByText := true, laidKinds := [.data], laidTests := true, laidLooks := .later }
def SealStartsUptoCardSaid : Prop := Claim7.holds Tryd.pinned (.plain (OpenSpec.upto sealStartsSpec)) sealStartsUptoCard

/-- THE SECOND FORM's CARD OF 'holdfastlaw08.SealNumber'. -/
def sealNumberUptoCard : Claim7 := { stood := { row := sealNumberUptoRow, standIns := [], harness := (true, "ae053d5432fadbcd4d55f6e8605ee4bab6cdb52de6f07f872e5fc1554cc901b8"), looks := false }, kinds := [], alts := [], laidByText := true, laidKinds := [.data], laidTests := true, laidLooks := .later }
def SealNumberUptoCardSaid : Prop := Claim7.holds Tryd.pinned (.plain (OpenSpec.upto sealNumberSpec)) sealNumberUptoCard

/-- THE SECOND FORM's CARD OF 'holdfasttop.TopKeyed'. -/
def topKeyedUptoCard : Claim7 := { stood := { row := topKeyedUptoRow, standIns := [], harness := (true, "ae053d5432fadbcd4d55f6e8605ee4bab6cdb52de6f07f872e5fc1554cc901b8"), looks := false }, kinds := [], alts := [], laidByText := true, laidKinds := [.data], laidTests := true, laidLooks := .later }
def TopKeyedUptoCardSaid : Prop := Claim7.holds Tryd.pinned (.plain (OpenSpec.upto topKeyedSpec)) topKeyedUptoCard
end Rows
end Go.Proofs.YtoipagoeabkccaaDoor
