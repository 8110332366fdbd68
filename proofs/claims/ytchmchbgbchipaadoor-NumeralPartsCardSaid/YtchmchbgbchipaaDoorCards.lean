/-
  DERIVED. GIVEN WITH THE SEED: THE CARDS: each row of YtchmchbgbchipaaDoorRows.lean that lists a variable, with what it lists TIED to the program's text (the seventh form; the later family's looks); each row that meets fmt, with fmt's text TOLD by the authors' own Lean function (tested against real Go, not proved from fmt's source: count such statements apart). THE CARD IS WHAT COUNTS. Prove the row's statement (the work); the ties are given (YtchmchbgbchipaaDoorTie.lean); close each card by the builder's one call (the guide's Derived/Test/ToyasCard.lean, 'card_holds'). Laid BY PROGRAM, IN A SANDBOX (cutbox-door.mjs). By AI agents, Wed Nov 11 2026. No macro, syntax, notation, axiom, sorry.
-/
import Derived.Test.YtchmchbgbchipaaDoorRows
import GoSem.ClaimSeven
namespace Go.Proofs.YtchmchbgbchipaaDoor
namespace Rows

/-- THE TIED CARD OF 'davenportlaw03.NumeralReads'. -/
def numeralReadsCard : Claim7 := { stood := { row := numeralReadsRow, standIns := [], harness := (true, "646f533cfe5758506878696ddca138620becfbbc10177e59b5b0676d67118b38"), looks := true }, kinds := [], alts := [], laidByText := true, laidKinds := [.data, .data, .data, .sentinel, .sentinel], laidTests := true, laidLooks := .later }
def NumeralReadsCardSaid : Prop := Claim7.holds Tryd.pinned (.plain (OpenSpec.ofChange numeralReadsSpec)) numeralReadsCard

/-- THE TIED CARD OF 'davenportlaw03.NumeralPrints'. -/
def numeralPrintsCard : Claim7 := { stood := { row := numeralPrintsRow, standIns := [], harness := (true, "646f533cfe5758506878696ddca138620becfbbc10177e59b5b0676d67118b38"), looks := true }, kinds := [], alts := [], laidByText := true, laidKinds := [.data, .data, .data, .sentinel, .sentinel], laidTests := true, laidLooks := .later }
def NumeralPrintsCardSaid : Prop := Claim7.holds Tryd.pinned (.plain (OpenSpec.ofChange numeralPrintsSpec)) numeralPrintsCard

/-- THE TIED CARD OF 'davenportlaw03.NumeralBack'. -/
def numeralBackCard : Claim7 := { stood := { row := numeralBackRow, standIns := [], harness := (true, "646f533cfe5758506878696ddca138620becfbbc10177e59b5b0676d67118b38"), looks := true }, kinds := [], alts := [], laidByText := true, laidKinds := [.data, .data, .data, .sentinel, .sentinel], laidTests := true, laidLooks := .later }
def NumeralBackCardSaid : Prop := Claim7.holds Tryd.pinned (.plain (OpenSpec.ofChange numeralBackSpec)) numeralBackCard

/-- THE TIED CARD OF 'davenportlaw03.NumeralAlone'. -/
def numeralAloneCard : Claim7 := { stood := { row := numeralAloneRow, standIns := [], harness := (true, "646f533cfe5758506878696ddca138620becfbbc10177e59b5b0676d67118b38"), looks := true }, kinds := [], alts := [], laidByText := true, laidKinds := [.data, .data, .data, .sentinel, .sentinel], laidTests := true, laidLooks := .later }
def NumeralAloneCardSaid : Prop := Claim7.holds Tryd.pinned (.plain (OpenSpec.ofChange numeralAloneSpec)) numeralAloneCard

/-- THE TIED CARD OF 'davenportlaw03.NumeralGrows'. -/
def numeralGrowsCard : Claim7 := { stood := { row := numeralGrowsRow, standIns := [], harness := (true, "646f533cfe5758506878696ddca138620becfbbc10177e59b5b0676d67118b38"), looks := true }, kinds := [], alts := [], laidByText := true, laidKinds := [.data, .data, .data, .sentinel, .sentinel], laidTests := true, laidLooks := .later }
def NumeralGrowsCardSaid : Prop := Claim7.holds Tryd.pinned (.plain (OpenSpec.ofChange numeralGrowsSpec)) numeralGrowsCard

/-- THE TIED CARD OF 'davenportlaw03.NumeralParts'. -/
def numeralPartsCard : Claim7 := { stood := { row := numeralPartsRow, standIns := [], harness := (true, "646f533cfe5758506878696ddca138620becfbbc10177e59b5b0676d67118b38"), looks := true }, kinds := [], alts := [], laidByText := true, laidKinds := [.data, .data, .data, .sentinel, .sentinel], laidTests := true, laidLooks := .later }
def NumeralPartsCardSaid : Prop := Claim7.holds Tryd.pinned (.plain (OpenSpec.ofChange numeralPartsSpec)) numeralPartsCard

/-- THE SECOND FORM's CARD OF 'davenportlaw03.NumeralReads'. -/
def numeralReadsUptoCard : Claim7 := { stood := { row := numeralReadsUptoRow, standIns := [], harness := (true, "646f533cfe5758506878696ddca138620becfbbc10177e59b5b0676d67118b38"), looks := true }, kinds := [], alts := [], laidByText := true, laidKinds := [.data, .data, .data, .sentinel, .sentinel], laidTests := true, laidLooks := .later }
def NumeralReadsUptoCardSaid : Prop := Claim7.holds Tryd.pinned (.plain (OpenSpec.upto numeralReadsSpec)) numeralReadsUptoCard

/-- THE SECOND FORM's CARD OF 'davenportlaw03.NumeralPrints'. -/
def numeralPrintsUptoCard : Claim7 := { stood := { row := numeralPrintsUptoRow, standIns := [], harness := (true, "646f533cfe5758506878696ddca138620becfbbc10177e59b5b0676d67118b38"), looks := true }, kinds := [], alts := [], laidByText := true, laidKinds := [.data, .data, .data, .sentinel, .sentinel], laidTests := true, laidLooks := .later }
def NumeralPrintsUptoCardSaid : Prop := Claim7.holds Tryd.pinned (.plain (OpenSpec.upto numeralPrintsSpec)) numeralPrintsUptoCard

/-- THE SECOND FORM's CARD OF 'davenportlaw03.NumeralBack'. -/
def numeralBackUptoCard : Claim7 := { stood := { row := numeralBackUptoRow, standIns := [], harness := (true, "646f533cfe5758506878696ddca138620becfbbc10177e59b5b0676d67118b38"), looks := true }, kinds := [], alts := [], laidByText := true, laidKinds := [.data, .data, .data, .sentinel, .sentinel], laidTests := true, laidLooks := .later }
def NumeralBackUptoCardSaid : Prop := Claim7.holds Tryd.pinned (.plain (OpenSpec.upto numeralBackSpec)) numeralBackUptoCard

/-- THE SECOND FORM's CARD OF 'davenportlaw03.NumeralAlone'. -/
def numeralAloneUptoCard : Claim7 := { stood := { row := numeralAloneUptoRow, standIns := [], harness := (true, "646f533cfe5758506878696ddca138620becfbbc10177e59b5b0676d67118b38"), looks := true }, kinds := [], alts := [], laidByText := true, laidKinds := [.data, .data, .data, .sentinel, .sentinel], laidTests := true, laidLooks := .later }
def NumeralAloneUptoCardSaid : Prop := Claim7.holds Tryd.pinned (.plain (OpenSpec.upto numeralAloneSpec)) numeralAloneUptoCard

/-- THE SECOND FORM's CARD OF 'davenportlaw03.NumeralGrows'. -/
def numeralGrowsUptoCard : Claim7 := { stood := { row := numeralGrowsUptoRow, standIns := [], harness := (true, "646f533cfe5758506878696ddca138620becfbbc10177e59b5b0676d67118b38"), looks := true }, kinds := [], alts := [], laidByText := true, laidKinds := [.data, .data, .data, .sentinel, .sentinel], laidTests := true, laidLooks := .later }
def NumeralGrowsUptoCardSaid : Prop := Claim7.holds Tryd.pinned (.plain (OpenSpec.upto numeralGrowsSpec)) numeralGrowsUptoCard

/-- THE SECOND FORM's CARD OF 'davenportlaw03.NumeralParts'. -/
def numeralPartsUptoCard : Claim7 := { stood := { row := numeralPartsUptoRow, standIns := [], harness := (true, "646f533cfe5758506878696ddca138620becfbbc10177e59b5b0676d67118b38"), looks := true }, kinds := [], alts := [], laidByText := true, laidKinds := [.data, .data, .data, .sentinel, .sentinel], laidTests := true, laidLooks := .later }
def NumeralPartsUptoCardSaid : Prop := Claim7.holds Tryd.pinned (.plain (OpenSpec.upto numeralPartsSpec)) numeralPartsUptoCard
end Rows
end Go.Proofs.YtchmchbgbchipaaDoor
