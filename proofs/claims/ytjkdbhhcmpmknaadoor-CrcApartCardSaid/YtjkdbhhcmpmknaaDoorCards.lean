/-
  DERIVED. GIVEN WITH THE SEED: THE CARDS: each row of YtjkdbhhcmpmknaaDoorRows.lean that lists a variable, with what it lists TIED to the program's text (the seventh form; the later family's looks); each row that meets fmt, with fmt's text TOLD by the authors' own Lean function (tested against real Go, not proved from fmt's source: count such statements apart). THE CARD IS WHAT COUNTS. Prove the row's statement (the work); the ties are given (YtjkdbhhcmpmknaaDoorTie.lean); close each card by the builder's one call (the guide's Derived/Test/ToyasCard.lean, 'card_holds'). Laid BY PROGRAM, IN A SANDBOX (cutbox-door.mjs). By AI agents, Wed Nov 11 2026. No macro, syntax, notation, axiom, sorry.
-/
import Derived.Test.YtjkdbhhcmpmknaaDoorRows
import GoSem.ClaimSeven
namespace Go.Proofs.YtjkdbhhcmpmknaaDoor
namespace Rows

/-- THE TIED CARD OF 'davenportlaw09.CrcSums'. -/
def crcSumsCard : Claim7 := { stood := { row := crcSumsRow, standIns := [], harness := (true, "fb69f5c0ef7104cea60203038fac94adfbd8c15e6b9323f676ec51535926a32f"), looks := false }, kinds := [], alts := [], laidByText := true, laidKinds := [.data], laidTests := true, laidLooks := .later }
def CrcSumsCardSaid : Prop := Claim7.holds Tryd.pinned (.plain (OpenSpec.ofChange crcSumsSpec)) crcSumsCard

/-- THE TIED CARD OF 'davenportlaw09.CrcLays'. -/
def crcLaysCard : Claim7 := { stood := { row := crcLaysRow, standIns := [], harness := (true, "fb69f5c0ef7104cea60203038fac94adfbd8c15e6b9323f676ec51535926a32f"), looks := false }, kinds := [], alts := [], laidByText := true, laidKinds := [.data], laidTests := true, laidLooks := .later }
def CrcLaysCardSaid : Prop := Claim7.holds Tryd.pinned (.plain (OpenSpec.ofChange crcLaysSpec)) crcLaysCard

/-- THE TIED CARD OF 'davenportlaw09.CrcBoth'. -/
def crcBothCard : Claim7 := { stood := { row := crcBothRow, standIns := [], harness := (true, "fb69f5c0ef7104cea60203038fac94adfbd8c15e6b9323f676ec51535926a32f"), looks := false }, kinds := [], alts := [], laidByText := true, laidKinds := [.data], laidTests := true, laidLooks := .later }
def CrcBothCardSaid : Prop := Claim7.holds Tryd.pinned (.plain (OpenSpec.ofChange crcBothSpec)) crcBothCard

/-- THE TIED CARD OF 'davenportlaw09.CrcParts'. -/
def crcPartsCard : Claim7 := { stood := { row := crcPartsRow, standIns := [], harness := (true, "fb69f5c0ef7104cea60203038fac94adfbd8c15e6b9323f676ec51535926a32f"), looks := false }, kinds := [], alts := [], laidByText := true, laidKinds := [.data], laidTests := true, laidLooks := .later }
def CrcPartsCardSaid : Prop := Claim7.holds Tryd.pinned (.plain (OpenSpec.ofChange crcPartsSpec)) crcPartsCard

/-- THE TIED CARD OF 'davenportlaw09.CrcApart'. -/
def crcApartCard : Claim7 := { stood := { row := crcApartRow, standIns := [], harness := (true, "fb69f5c0ef7104cea60203038fac94adfbd8c15e6b9323f676ec51535926a32f"), looks := false }, kinds := [], alts := [], laidByText := true, laidKinds := [.data], laidTests := true, laidLooks := .later }
def CrcApartCardSaid : Prop := Claim7.holds Tryd.pinned (.plain (OpenSpec.ofChange crcApartSpec)) crcApartCard

/-- THE TIED CARD OF 'davenportlaw09.CrcLinear'. -/
def crcLinearCard : Claim7 := { stood := { row := crcLinearRow, standIns := [], harness := (true, "fb69f5c0ef7104cea60203038fac94adfbd8c15e6b9323f676ec51535926a32f"), looks := false }, kinds := [], alts := [], laidByText := true, laidKinds := [.data], laidTests := true, laidLooks := .later }
def CrcLinearCardSaid : Prop := Claim7.holds Tryd.pinned (.plain (OpenSpec.ofChange crcLinearSpec)) crcLinearCard

/-- THE SECOND FORM's CARD OF 'davenportlaw09.CrcSums'. -/
def crcSumsUptoCard : Claim7 := { stood := { row := crcSumsUptoRow, standIns := [], harness := (true, "fb69f5c0ef7104cea60203038fac94adfbd8c15e6b9323f676ec51535926a32f"), looks := false }, kinds := [], alts := [], laidByText := true, laidKinds := [.data], laidTests := true, laidLooks := .later }
def CrcSumsUptoCardSaid : Prop := Claim7.holds Tryd.pinned (.plain (OpenSpec.upto crcSumsSpec)) crcSumsUptoCard

/-- THE SECOND FORM's CARD OF 'davenportlaw09.CrcLays'. -/
def crcLaysUptoCard : Claim7 := { stood := { row := crcLaysUptoRow, standIns := [], harness := (true, "fb69f5c0ef7104cea60203038fac94adfbd8c15e6b9323f676ec51535926a32f"), looks := false }, kinds := [], alts := [], laidByText := true, laidKinds := [.data], laidTests := true, laidLooks := .later }
def CrcLaysUptoCardSaid : Prop := Claim7.holds Tryd.pinned (.plain (OpenSpec.upto crcLaysSpec)) crcLaysUptoCard

/-- THE SECOND FORM's CARD OF 'davenportlaw09.CrcBoth'. -/
def crcBothUptoCard : Claim7 := { stood := { row := crcBothUptoRow, standIns := [], harness := (true, "fb69f5c0ef7104cea60203038fac94adfbd8c15e6b9323f676ec51535926a32f"), looks := false }, kinds := [], alts := [], laidByText := true, laidKinds := [.data], laidTests := true, laidLooks := .later }
def CrcBothUptoCardSaid : Prop := Claim7.holds Tryd.pinned (.plain (OpenSpec.upto crcBothSpec)) crcBothUptoCard

/-- THE SECOND FORM's CARD OF 'davenportlaw09.CrcParts'. -/
def crcPartsUptoCard : Claim7 := { stood := { row := crcPartsUptoRow, standIns := [], harness := (true, "fb69f5c0ef7104cea60203038fac94adfbd8c15e6b9323f676ec51535926a32f"), looks := false }, kinds := [], alts := [], laidByText := true, laidKinds := [.data], laidTests := true, laidLooks := .later }
def CrcPartsUptoCardSaid : Prop := Claim7.holds Tryd.pinned (.plain (OpenSpec.upto crcPartsSpec)) crcPartsUptoCard

/-- THE SECOND FORM's CARD OF 'davenportlaw09.CrcApart'. -/
def crcApartUptoCard : Claim7 := { stood := { row := crcApartUptoRow, standIns := [], harness := (true, "fb69f5c0ef7104cea60203038fac94adfbd8c15e6b9323f676ec51535926a32f"), looks := false }, kinds := [], alts := [], laidByText := true, laidKinds := [.data], laidTests := true, laidLooks := .later }
def CrcApartUptoCardSaid : Prop := Claim7.holds Tryd.pinned (.plain (OpenSpec.upto crcApartSpec)) crcApartUptoCard

/-- THE SECOND FORM's CARD OF 'davenportlaw09.CrcLinear'. -/
def crcLinearUptoCard : Claim7 := { stood := { row := crcLinearUptoRow, standIns := [], harness := (true, "fb69f5c0ef7104cea60203038fac94adfbd8c15e6b9323f676ec51535926a32f"), looks := false }, kinds := [], alts := [], laidByText := true, laidKinds := [.data], laidTests := true, laidLooks := .later }
def CrcLinearUptoCardSaid : Prop := Claim7.holds Tryd.pinned (.plain (OpenSpec.upto crcLinearSpec)) crcLinearUptoCard
end Rows
end Go.Proofs.YtjkdbhhcmpmknaaDoor
