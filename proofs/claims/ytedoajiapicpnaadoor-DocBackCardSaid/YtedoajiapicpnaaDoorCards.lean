/-
  DERIVED. GIVEN WITH THE SEED: THE CARDS: each row of YtedoajiapicpnaaDoorRows.lean that lists a variable, with what it lists TIED to the program's text (the seventh form; the later family's looks); each row that meets fmt, with fmt's text TOLD by the authors' own Lean function (tested against real Go, not proved from fmt's source: count such statements apart). THE CARD IS WHAT COUNTS. Prove the row's statement (the work); the ties are given (YtedoajiapicpnaaDoorTie.lean); close each card by the builder's one call (the guide's Derived/Test/ToyasCard.lean, 'card_holds'). Laid BY PROGRAM, IN A SANDBOX (cutbox-door.mjs). By AI agents, Wed Nov 11 2026. No macro, syntax, notation, axiom, sorry.
-/
import Derived.Test.YtedoajiapicpnaaDoorRows
import GoSem.ClaimSeven
namespace Go.Proofs.YtedoajiapicpnaaDoor
namespace Rows

/-- THE TIED CARD OF 'davenportlaw19.DocIds'. -/
def docIdsCard : Claim7 := { stood := { row := docIdsRow, standIns := [], harness := (true, "9aba60f81e4979ac15fe3b43d8a2e140d6b4334414d96615c5cb66dbf87a9687"), looks := false }, kinds := [], alts := [], laidByText := true, laidKinds := [.data], laidTests := true, laidLooks := .later }
def DocIdsCardSaid : Prop := Claim7.holds Tryd.pinned (.plain (OpenSpec.ofChange docIdsSpec)) docIdsCard

/-- THE TIED CARD OF 'davenportlaw19.DocNexts'. -/
def docNextsCard : Claim7 := { stood := { row := docNextsRow, standIns := [], harness := (true, "9aba60f81e4979ac15fe3b43d8a2e140d6b4334414d96615c5cb66dbf87a9687"), looks := false }, kinds := [], alts := [], laidByText := true, laidKinds := [.data], laidTests := true, laidLooks := .later }
def DocNextsCardSaid : Prop := Claim7.holds Tryd.pinned (.plain (OpenSpec.ofChange docNextsSpec)) docNextsCard

/-- THE TIED CARD OF 'davenportlaw19.DocTexts'. -/
def docTextsCard : Claim7 := { stood := { row := docTextsRow, standIns := [], harness := (true, "9aba60f81e4979ac15fe3b43d8a2e140d6b4334414d96615c5cb66dbf87a9687"), looks := false }, kinds := [], alts := [], laidByText := true, laidKinds := [.data], laidTests := true, laidLooks := .later }
def DocTextsCardSaid : Prop := Claim7.holds Tryd.pinned (.plain (OpenSpec.ofChange docTextsSpec)) docTextsCard

/-- THE TIED CARD OF 'davenportlaw19.DocCodes'. -/
def docCodesCard : Claim7 := { stood := { row := docCodesRow, standIns := [], harness := (true, "9aba60f81e4979ac15fe3b43d8a2e140d6b4334414d96615c5cb66dbf87a9687"), looks := false }, kinds := [], alts := [], laidByText := true, laidKinds := [.data], laidTests := true, laidLooks := .later }
def DocCodesCardSaid : Prop := Claim7.holds Tryd.pinned (.plain (OpenSpec.ofChange docCodesSpec)) docCodesCard

/-- THE TIED CARD OF 'davenportlaw19.DocBack'. -/
def docBackCard : Claim7 := { stood := { row := docBackRow, standIns := [], harness := (true, "9aba60f81e4979ac15fe3b43d8a2e140d6b4334414d96615c5cb66dbf87a9687"), looks := false }, kinds := [], alts := [], laidByText := true, laidKinds := [.data, .data, .pinned, .pinned], laidTests := true, laidLooks := .later }
def DocBackCardSaid : Prop := Claim7.holds Tryd.pinned (.plain (OpenSpec.ofChange docBackSpec)) docBackCard

/-- THE TIED CARD OF 'davenportlaw19.DocGrows'. -/
def docGrowsCard : Claim7 := { stood := { row := docGrowsRow, standIns := [], harness := (true, "9aba60f81e4979ac15fe3b43d8a2e140d6b4334414d96615c5cb66dbf87a9687"), looks := false }, kinds := [], alts := [], laidByText := true, laidKinds := [.data], laidTests := true, laidLooks := .later }
def DocGrowsCardSaid : Prop := Claim7.holds Tryd.pinned (.plain (OpenSpec.ofChange docGrowsSpec)) docGrowsCard

/-- THE TIED CARD OF 'davenportlaw19.DocOnce'. -/
def docOnceCard : Claim7 := { stood := { row := docOnceRow, standIns := [], harness := (true, "9aba60f81e4979ac15fe3b43d8a2e140d6b4334414d96615c5cb66dbf87a9687"), looks := false }, kinds := [], alts := [], laidByText := true, laidKinds := [.data], laidTests := true, laidLooks := .later }
def DocOnceCardSaid : Prop := Claim7.holds Tryd.pinned (.plain (OpenSpec.ofChange docOnceSpec)) docOnceCard

/-- THE TIED CARD OF 'davenportlaw19.DocParts'. -/
def docPartsCard : Claim7 := { stood := { row := docPartsRow, standIns := [], harness := (true, "9aba60f81e4979ac15fe3b43d8a2e140d6b4334414d96615c5cb66dbf87a9687"), looks := false }, kinds := [], alts := [], laidByText := true, laidKinds := [.data], laidTests := true, laidLooks := .later }
def DocPartsCardSaid : Prop := Claim7.holds Tryd.pinned (.plain (OpenSpec.ofChange docPartsSpec)) docPartsCard

/-- THE SECOND FORM's CARD OF 'davenportlaw19.DocIds'. -/
def docIdsUptoCard : Claim7 := { stood := { row := docIdsUptoRow, standIns := [], harness := (true, "9aba60f81e4979ac15fe3b43d8a2e140d6b4334414d96615c5cb66dbf87a9687"), looks := false }, kinds := [], alts := [], laidByText := true, laidKinds := [.data], laidTests := true, laidLooks := .later }
def DocIdsUptoCardSaid : Prop := Claim7.holds Tryd.pinned (.plain (OpenSpec.upto docIdsSpec)) docIdsUptoCard

/-- THE SECOND FORM's CARD OF 'davenportlaw19.DocNexts'. -/
def docNextsUptoCard : Claim7 := { stood := { row := docNextsUptoRow, standIns := [], harness := (true, "9aba60f81e4979ac15fe3b43d8a2e140d6b4334414d96615c5cb66dbf87a9687"), looks := false }, kinds := [], alts := [], laidByText := true, laidKinds := [.data], laidTests := true, laidLooks := .later }
def DocNextsUptoCardSaid : Prop := Claim7.holds Tryd.pinned (.plain (OpenSpec.upto docNextsSpec)) docNextsUptoCard

/-- THE SECOND FORM's CARD OF 'davenportlaw19.DocTexts'. -/
def docTextsUptoCard : Claim7 := { stood := { row := docTextsUptoRow, standIns := [], harness := (true, "9aba60f81e4979ac15fe3b43d8a2e140d6b4334414d96615c5cb66dbf87a9687"), looks := false }, kinds := [], alts := [], laidByText := true, laidKinds := [.data], laidTests := true, laidLooks := .later }
def DocTextsUptoCardSaid : Prop := Claim7.holds Tryd.pinned (.plain (OpenSpec.upto docTextsSpec)) docTextsUptoCard

/-- THE SECOND FORM's CARD OF 'davenportlaw19.DocCodes'. -/
def docCodesUptoCard : Claim7 := { stood := { row := docCodesUptoRow, standIns := [], harness := (true, "9aba60f81e4979ac15fe3b43d8a2e140d6b4334414d96615c5cb66dbf87a9687"), looks := false }, kinds := [], alts := [], laidByText := true, laidKinds := [.data], laidTests := true, laidLooks := .later }
def DocCodesUptoCardSaid : Prop := Claim7.holds Tryd.pinned (.plain (OpenSpec.upto docCodesSpec)) docCodesUptoCard

/-- THE SECOND FORM's CARD OF 'davenportlaw19.DocBack'. -/
def docBackUptoCard : Claim7 := { stood := { row := docBackUptoRow, standIns := [], harness := (true, "9aba60f81e4979ac15fe3b43d8a2e140d6b4334414d96615c5cb66dbf87a9687"), looks := false }, kinds := [], alts := [], laidByText := true, laidKinds := [.data, .data, .pinned, .pinned], laidTests := true, laidLooks := .later }
def DocBackUptoCardSaid : Prop := Claim7.holds Tryd.pinned (.plain (OpenSpec.upto docBackSpec)) docBackUptoCard

/-- THE SECOND FORM's CARD OF 'davenportlaw19.DocGrows'. -/
def docGrowsUptoCard : Claim7 := { stood := { row := docGrowsUptoRow, standIns := [], harness := (true, "9aba60f81e4979ac15fe3b43d8a2e140d6b4334414d96615c5cb66dbf87a9687"), looks := false }, kinds := [], alts := [], laidByText := true, laidKinds := [.data], laidTests := true, laidLooks := .later }
def DocGrowsUptoCardSaid : Prop := Claim7.holds Tryd.pinned (.plain (OpenSpec.upto docGrowsSpec)) docGrowsUptoCard

/-- THE SECOND FORM's CARD OF 'davenportlaw19.DocOnce'. -/
def docOnceUptoCard : Claim7 := { stood := { row := docOnceUptoRow, standIns := [], harness := (true, "9aba60f81e4979ac15fe3b43d8a2e140d6b4334414d96615c5cb66dbf87a9687"), looks := false }, kinds := [], alts := [], laidByText := true, laidKinds := [.data], laidTests := true, laidLooks := .later }
def DocOnceUptoCardSaid : Prop := Claim7.holds Tryd.pinned (.plain (OpenSpec.upto docOnceSpec)) docOnceUptoCard

/-- THE SECOND FORM's CARD OF 'davenportlaw19.DocParts'. -/
def docPartsUptoCard : Claim7 := { stood := { row := docPartsUptoRow, standIns := [], harness := (true, "9aba60f81e4979ac15fe3b43d8a2e140d6b4334414d96615c5cb66dbf87a9687"), looks := false }, kinds := [], alts := [], laidByText := true, laidKinds := [.data], laidTests := true, laidLooks := .later }
def DocPartsUptoCardSaid : Prop := Claim7.holds Tryd.pinned (.plain (OpenSpec.upto docPartsSpec)) docPartsUptoCard
end Rows
end Go.Proofs.YtedoajiapicpnaaDoor
