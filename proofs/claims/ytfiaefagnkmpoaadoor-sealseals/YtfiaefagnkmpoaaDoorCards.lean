/-
  DERIVED. GIVEN WITH THE SEED: THE CARDS: each row of YtfiaefagnkmpoaaDoorRows.lean that lists a variable, with what it lists TIED to the program's text (the seventh form; the later family's looks); each row that meets fmt, with fmt's text TOLD by the authors' own Lean function (tested against real Go, not proved from fmt's source: count such statements apart). THE CARD IS WHAT COUNTS. Prove the row's statement (the work); the ties are given (YtfiaefagnkmpoaaDoorTie.lean); close each card by the builder's one call (the guide's Derived/Test/ToyasCard.lean, 'card_holds'). Laid BY PROGRAM, IN A SANDBOX (cutbox-door.mjs). By AI agents, Wed Nov 11 2026. No macro, syntax, notation, axiom, sorry.
-/
import Derived.Test.YtfiaefagnkmpoaaDoorRows
import GoSem.ClaimSeven
namespace Go.Proofs.YtfiaefagnkmpoaaDoor
namespace Rows

/-- THE TIED CARD OF 'holdfastlaw07.HashSums'. -/
def hashSumsCard : Claim7 := { stood := { row := hashSumsRow, standIns := [], harness := (true, "6b3a86100a862255e3c91a846ee5943e58dd249bb4c9ccfe4b56b2db5437e124"), looks := false }, kinds := [], alts := [], laidByText := true, laidKinds := [.data], laidTests := true, laidLooks := .later }
def HashSumsCardSaid : Prop := Claim7.holds Tryd.pinned (.plain (OpenSpec.ofChange hashSumsSpec)) hashSumsCard

/-- THE TIED CARD OF 'holdfastlaw07.HashIterates'. -/
def hashIteratesCard : Claim7 := { stood := { row := hashIteratesRow, standIns := [], harness := (true, "6b3a86100a862255e3c91a846ee5943e58dd249bb4c9ccfe4b56b2db5437e124"), looks := false }, kinds := [], alts := [], laidByText := true, laidKinds := [.data], laidTests := true, laidLooks := .later }
def HashIteratesCardSaid : Prop := Claim7.holds Tryd.pinned (.plain (OpenSpec.ofChange hashIteratesSpec)) hashIteratesCard

/-- THE TIED CARD OF 'holdfastlaw07.HashDerives'. -/
def hashDerivesCard : Claim7 := { stood := { row := hashDerivesRow, standIns := [], harness := (true, "6b3a86100a862255e3c91a846ee5943e58dd249bb4c9ccfe4b56b2db5437e124"), looks := false }, kinds := [], alts := [], laidByText := true, laidKinds := [.data], laidTests := true, laidLooks := .later }
def HashDerivesCardSaid : Prop := Claim7.holds Tryd.pinned (.plain (OpenSpec.ofChange hashDerivesSpec)) hashDerivesCard

/-- THE TIED CARD OF 'holdfastlaw08.SealSeals'. -/
def sealSealsCard : Claim7 := { stood := { row := sealSealsRow, standIns := [], harness := (true, "6b3a86100a862255e3c91a846ee5943e58dd249bb4c9ccfe4b56b2db5437e124"), looks := false }, kinds := [], alts := [], laidByText := true, laidKinds := [.data], laidTests := true, laidLooks := .later }
def SealSealsCardSaid : Prop := Claim7.holds Tryd.pinned (.plain (OpenSpec.ofChange sealSealsSpec)) sealSealsCard

/-- THE TIED CARD OF 'holdfastlaw08.SealStreams'. -/
def sealStreamsCard : Claim7 := { stood := { row := sealStreamsRow, standIns := [], harness := (true, "6b3a86100a862255e3c91a846ee5943e58dd249bb4c9ccfe4b56b2db5437e124"), looks := false }, kinds := [], alts := [], laidByText := true, laidKinds := [.data], laidTests := true, laidLooks := .later }
def SealStreamsCardSaid : Prop := Claim7.holds Tryd.pinned (.plain (OpenSpec.ofChange sealStreamsSpec)) sealStreamsCard

/-- THE TIED CARD OF 'holdfastlaw08.SealTells'. -/
def sealTellsCard : Claim7 := { stood := { row := sealTellsRow, standIns := [], harness := (true, "6b3a86100a862255e3c91a846ee5943e58dd249bb4c9ccfe4b56b2db5437e124"), looks := false }, kinds := [], alts := [], laidByText := true, laidKinds := [.data], laidTests := true, laidLooks := .later }
def SealTellsCardSaid : Prop := Claim7.holds Tryd.pinned (.plain (OpenSpec.ofChange sealTellsSpec)) sealTellsCard

/-- THE SECOND FORM's CARD OF 'holdfastlaw07.HashSums'. -/
def hashSumsUptoCard : Claim7 := { stood := { row := hashSumsUptoRow, standIns := [], harness := (true, "6b3a86100a862255e3c91a846ee5943e58dd249bb4c9ccfe4b56b2db5437e124"), looks := false }, kinds := [], alts := [], laidByText := true, laidKinds := [.data], laidTests := true, laidLooks := .later }
def HashSumsUptoCardSaid : Prop := Claim7.holds Tryd.pinned (.plain (OpenSpec.upto hashSumsSpec)) hashSumsUptoCard

/-- THE SECOND FORM's CARD OF 'holdfastlaw07.HashIterates'. -/
def hashIteratesUptoCard : Claim7 := { stood := { row := hashIteratesUptoRow, standIns := [], harness := (true, "6b3a86100a862255e3c91a846ee5943e58dd249bb4c9ccfe4b56b2db5437e124"), looks := false }, kinds := [], alts := [], laidByText := true, laidKinds := [.data], laidTests := true, laidLooks := .later }
def HashIteratesUptoCardSaid : Prop := Claim7.holds Tryd.pinned (.plain (OpenSpec.upto hashIteratesSpec)) hashIteratesUptoCard

/-- THE SECOND FORM's CARD OF 'holdfastlaw07.HashDerives'. -/
def hashDerivesUptoCard : Claim7 := { stood := { row := hashDerivesUptoRow, standIns := [], harness := (true, "6b3a86100a862255e3c91a846ee5943e58dd249bb4c9ccfe4b56b2db5437e124"), looks := false }, kinds := [], alts := [], laidByText := true, laidKinds := [.data], laidTests := true, laidLooks := .later }
def HashDerivesUptoCardSaid : Prop := Claim7.holds Tryd.pinned (.plain (OpenSpec.upto hashDerivesSpec)) hashDerivesUptoCard

/-- THE SECOND FORM's CARD OF 'holdfastlaw08.SealSeals'. -/
def sealSealsUptoCard : Claim7 := { stood := { row := sealSealsUptoRow, standIns := [], harness := (true, "6b3a86100a862255e3c91a846ee5943e58dd249bb4c9ccfe4b56b2db5437e124"), looks := false }, kinds := [], alts := [], laidByText := true, laidKinds := [.data], laidTests := true, laidLooks := .later }
def SealSealsUptoCardSaid : Prop := Claim7.holds Tryd.pinned (.plain (OpenSpec.upto sealSealsSpec)) sealSealsUptoCard

/-- THE SECOND FORM's CARD OF 'holdfastlaw08.SealStreams'. -/
def sealStreamsUptoCard : Claim7 := { stood := { row := sealStreamsUptoRow, standIns := [], harness := (true, "6b3a86100a862255e3c91a846ee5943e58dd249bb4c9ccfe4b56b2db5437e124"), looks := false }, kinds := [], alts := [], laidByText := true, laidKinds := [.data], laidTests := true, laidLooks := .later }
def SealStreamsUptoCardSaid : Prop := Claim7.holds Tryd.pinned (.plain (OpenSpec.upto sealStreamsSpec)) sealStreamsUptoCard

/-- THE SECOND FORM's CARD OF 'holdfastlaw08.SealTells'. -/
def sealTellsUptoCard : Claim7 := { stood := { row := sealTellsUptoRow, standIns := [], harness := (true, "6b3a86100a862255e3c91a846ee5943e58dd249bb4c9ccfe4b56b2db5437e124"), looks := false }, kinds := [], alts := [], laidByText := true, laidKinds := [.data], laidTests := true, laidLooks := .later }
def SealTellsUptoCardSaid : Prop := Claim7.holds Tryd.pinned (.plain (OpenSpec.upto sealTellsSpec)) sealTellsUptoCard
end Rows
end Go.Proofs.YtfiaefagnkmpoaaDoor
