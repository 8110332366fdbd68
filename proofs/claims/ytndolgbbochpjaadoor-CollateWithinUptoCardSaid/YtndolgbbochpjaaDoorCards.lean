/-
  DERIVED. GIVEN WITH THE SEED: THE CARDS: each row of YtndolgbbochpjaaDoorRows.lean that lists a variable, with what it lists TIED to the program's text (the seventh form; the later family's looks); each row that meets fmt, with fmt's text TOLD by the authors' own Lean function (tested against real Go, not proved from fmt's source: count such statements apart). THE CARD IS WHAT COUNTS. Prove the row's statement (the work); the ties are given (YtndolgbbochpjaaDoorTie.lean); close each card by the builder's one call (the guide's Derived/Test/ToyasCard.lean, 'card_holds'). Laid BY PROGRAM, IN A SANDBOX (cutbox-door.mjs). By AI agents, Wed Nov 11 2026. No macro, syntax, notation, axiom, sorry.
-/
import Derived.Test.YtndolgbbochpjaaDoorRows
import GoSem.ClaimSeven
namespace Go.Proofs.YtndolgbbochpjaaDoor
namespace Rows

/-- THE TIED CARD OF 'davenportlaw07.CollateCompares'. -/
def collateComparesCard : Claim7 := { stood := { row := collateComparesRow, standIns := [], harness := (true, "12c9d5b0cde09912b3cf8206c5b0b0c92ed10d81c0e577d958d98d56ed4a3c31"), looks := false }, kinds := [], alts := [], laidByText := true, laidKinds := [.data, .data, .data], laidTests := true, laidLooks := .later }
def CollateComparesCardSaid : Prop := Claim7.holds Tryd.pinned (.plain (OpenSpec.ofChange collateComparesSpec)) collateComparesCard

/-- THE TIED CARD OF 'davenportlaw07.CollateSorts'. -/
def collateSortsCard : Claim7 := { stood := { row := collateSortsRow, standIns := [], harness := (true, "12c9d5b0cde09912b3cf8206c5b0b0c92ed10d81c0e577d958d98d56ed4a3c31"), looks := false }, kinds := [], alts := [], laidByText := true, laidKinds := [.data, .data, .data], laidTests := true, laidLooks := .later }
def CollateSortsCardSaid : Prop := Claim7.holds Tryd.pinned (.plain (OpenSpec.ofChange collateSortsSpec)) collateSortsCard

/-- THE TIED CARD OF 'davenportlaw07.CollateFronts'. -/
def collateFrontsCard : Claim7 := { stood := { row := collateFrontsRow, standIns := [], harness := (true, "12c9d5b0cde09912b3cf8206c5b0b0c92ed10d81c0e577d958d98d56ed4a3c31"), looks := false }, kinds := [], alts := [], laidByText := true, laidKinds := [.data, .data, .data], laidTests := true, laidLooks := .later }
def CollateFrontsCardSaid : Prop := Claim7.holds Tryd.pinned (.plain (OpenSpec.ofChange collateFrontsSpec)) collateFrontsCard

/-- THE TIED CARD OF 'davenportlaw07.CollateOrders'. -/
def collateOrdersCard : Claim7 := { stood := { row := collateOrdersRow, standIns := [], harness := (true, "12c9d5b0cde09912b3cf8206c5b0b0c92ed10d81c0e577d958d98d56ed4a3c31"), looks := false }, kinds := [], alts := [], laidByText := true, laidKinds := [.data, .data, .data], laidTests := true, laidLooks := .later }
def CollateOrdersCardSaid : Prop := Claim7.holds Tryd.pinned (.plain (OpenSpec.ofChange collateOrdersSpec)) collateOrdersCard

/-- THE TIED CARD OF 'davenportlaw07.CollateWithin'. -/
def collateWithinCard : Claim7 := { stood := { row := collateWithinRow, standIns := [], harness := (true, "12c9d5b0cde09912b3cf8206c5b0b0c92ed10d81c0e577d958d98d56ed4a3c31"), looks := false }, kinds := [], alts := [], laidByText := true, laidKinds := [.data, .data, .data], laidTests := true, laidLooks := .later }
def CollateWithinCardSaid : Prop := Claim7.holds Tryd.pinned (.plain (OpenSpec.ofChange collateWithinSpec)) collateWithinCard

/-- THE TIED CARD OF 'davenportlaw07.CollateStands'. -/
def collateStandsCard : Claim7 := { stood := { row := collateStandsRow, standIns := [], harness := (true, "12c9d5b0cde09912b3cf8206c5b0b0c92ed10d81c0e577d958d98d56ed4a3c31"), looks := false }, kinds := [], alts := [], laidByText := true, laidKinds := [.data, .data, .data], laidTests := true, laidLooks := .later }
def CollateStandsCardSaid : Prop := Claim7.holds Tryd.pinned (.plain (OpenSpec.ofChange collateStandsSpec)) collateStandsCard

/-- THE TIED CARD OF 'davenportlaw07.CollateCuts'. -/
def collateCutsCard : Claim7 := { stood := { row := collateCutsRow, standIns := [], harness := (true, "12c9d5b0cde09912b3cf8206c5b0b0c92ed10d81c0e577d958d98d56ed4a3c31"), looks := false }, kinds := [], alts := [], laidByText := true, laidKinds := [.data, .data, .data], laidTests := true, laidLooks := .later }
def CollateCutsCardSaid : Prop := Claim7.holds Tryd.pinned (.plain (OpenSpec.ofChange collateCutsSpec)) collateCutsCard

/-- THE SECOND FORM's CARD OF 'davenportlaw07.CollateCompares'. -/
def collateComparesUptoCard : Claim7 := { stood := { row := collateComparesUptoRow, standIns := [], harness := (true, "12c9d5b0cde09912b3cf8206c5b0b0c92ed10d81c0e577d958d98d56ed4a3c31"), looks := false }, kinds := [], alts := [], laidByText := true, laidKinds := [.data, .data, .data], laidTests := true, laidLooks := .later }
def CollateComparesUptoCardSaid : Prop := Claim7.holds Tryd.pinned (.plain (OpenSpec.upto collateComparesSpec)) collateComparesUptoCard

/-- THE SECOND FORM's CARD OF 'davenportlaw07.CollateSorts'. -/
def collateSortsUptoCard : Claim7 := { stood := { row := collateSortsUptoRow, standIns := [], harness := (true, "12c9d5b0cde09912b3cf8206c5b0b0c92ed10d81c0e577d958d98d56ed4a3c31"), looks := false }, kinds := [], alts := [], laidByText := true, laidKinds := [.data, .data, .data], laidTests := true, laidLooks := .later }
def CollateSortsUptoCardSaid : Prop := Claim7.holds Tryd.pinned (.plain (OpenSpec.upto collateSortsSpec)) collateSortsUptoCard

/-- THE SECOND FORM's CARD OF 'davenportlaw07.CollateFronts'. -/
def collateFrontsUptoCard : Claim7 := { stood := { row := collateFrontsUptoRow, standIns := [], harness := (true, "12c9d5b0cde09912b3cf8206c5b0b0c92ed10d81c0e577d958d98d56ed4a3c31"), looks := false }, kinds := [], alts := [], laidByText := true, laidKinds := [.data, .data, .data], laidTests := true, laidLooks := .later }
def CollateFrontsUptoCardSaid : Prop := Claim7.holds Tryd.pinned (.plain (OpenSpec.upto collateFrontsSpec)) collateFrontsUptoCard

/-- THE SECOND FORM's CARD OF 'davenportlaw07.CollateOrders'. -/
def collateOrdersUptoCard : Claim7 := { stood := { row := collateOrdersUptoRow, standIns := [], harness := (true, "12c9d5b0cde09912b3cf8206c5b0b0c92ed10d81c0e577d958d98d56ed4a3c31"), looks := false }, kinds := [], alts := [], laidByText := true, laidKinds := [.data, .data, .data], laidTests := true, laidLooks := .later }
def CollateOrdersUptoCardSaid : Prop := Claim7.holds Tryd.pinned (.plain (OpenSpec.upto collateOrdersSpec)) collateOrdersUptoCard

/-- THE SECOND FORM's CARD OF 'davenportlaw07.CollateWithin'. -/
def collateWithinUptoCard : Claim7 := { stood := { row := collateWithinUptoRow, standIns := [], harness := (true, "12c9d5b0cde09912b3cf8206c5b0b0c92ed10d81c0e577d958d98d56ed4a3c31"), looks := false }, kinds := [], alts := [], laidByText := true, laidKinds := [.data, .data, .data], laidTests := true, laidLooks := .later }
def CollateWithinUptoCardSaid : Prop := Claim7.holds Tryd.pinned (.plain (OpenSpec.upto collateWithinSpec)) collateWithinUptoCard

/-- THE SECOND FORM's CARD OF 'davenportlaw07.CollateStands'. -/
def collateStandsUptoCard : Claim7 := { stood := { row := collateStandsUptoRow, standIns := [], harness := (true, "12c9d5b0cde09912b3cf8206c5b0b0c92ed10d81c0e577d958d98d56ed4a3c31"), looks := false }, kinds := [], alts := [], laidByText := true, laidKinds := [.data, .data, .data], laidTests := true, laidLooks := .later }
def CollateStandsUptoCardSaid : Prop := Claim7.holds Tryd.pinned (.plain (OpenSpec.upto collateStandsSpec)) collateStandsUptoCard

/-- THE SECOND FORM's CARD OF 'davenportlaw07.CollateCuts'. -/
def collateCutsUptoCard : Claim7 := { stood := { row := collateCutsUptoRow, standIns := [], harness := (true, "12c9d5b0cde09912b3cf8206c5b0b0c92ed10d81c0e577d958d98d56ed4a3c31"), looks := false }, kinds := [], alts := [], laidByText := true, laidKinds := [.data, .data, .data], laidTests := true, laidLooks := .later }
def CollateCutsUptoCardSaid : Prop := Claim7.holds Tryd.pinned (.plain (OpenSpec.upto collateCutsSpec)) collateCutsUptoCard
end Rows
end Go.Proofs.YtndolgbbochpjaaDoor
