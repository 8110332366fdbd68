/-
  DERIVED. GIVEN WITH THE SEED: THE CARDS: each row of YtlknmpnjhbdlhaaDoorRows.lean that lists a variable, with what it lists TIED to the program's text (the seventh form; the later family's looks); each row that meets fmt, with fmt's text TOLD by the authors' own Lean function (tested against real Go, not proved from fmt's source: count such statements apart). THE CARD IS WHAT COUNTS. Prove the row's statement (the work); the ties are given (YtlknmpnjhbdlhaaDoorTie.lean); close each card by the builder's one call (the guide's Derived/Test/ToyasCard.lean, 'card_holds'). Laid BY PROGRAM, IN A SANDBOX (cutbox-door.mjs). By AI agents, Wed Nov 11 2026. No macro, syntax, notation, axiom, sorry.
-/
import Derived.Test.YtlknmpnjhbdlhaaDoorRows
import GoSem.ClaimSeven
namespace Go.Proofs.YtlknmpnjhbdlhaaDoor
namespace Rows

/-- THE TIED CARD OF 'davenportlaw12.HeaderCodes'. -/
def headerCodesCard : Claim7 := { stood := { row := headerCodesRow, standIns := [], harness := (true, "174e6d7381e1a26cb490cee4e7b0c122b09f85c4726edacc373af2892a778710"), looks := false }, kinds := [], alts := [], laidByText := true, laidKinds := [.data], laidTests := true, laidLooks := .later }
def HeaderCodesCardSaid : Prop := Claim7.holds Tryd.pinned (.plain (OpenSpec.ofChange headerCodesSpec)) headerCodesCard

/-- THE TIED CARD OF 'davenportlaw12.HeaderPuts'. -/
def headerPutsCard : Claim7 := { stood := { row := headerPutsRow, standIns := [], harness := (true, "174e6d7381e1a26cb490cee4e7b0c122b09f85c4726edacc373af2892a778710"), looks := false }, kinds := [], alts := [], laidByText := true, laidKinds := [.data], laidTests := true, laidLooks := .later }
def HeaderPutsCardSaid : Prop := Claim7.holds Tryd.pinned (.plain (OpenSpec.ofChange headerPutsSpec)) headerPutsCard

/-- THE TIED CARD OF 'davenportlaw12.HeaderFinds'. -/
def headerFindsCard : Claim7 := { stood := { row := headerFindsRow, standIns := [], harness := (true, "174e6d7381e1a26cb490cee4e7b0c122b09f85c4726edacc373af2892a778710"), looks := false }, kinds := [], alts := [], laidByText := true, laidKinds := [.data], laidTests := true, laidLooks := .later }
def HeaderFindsCardSaid : Prop := Claim7.holds Tryd.pinned (.plain (OpenSpec.ofChange headerFindsSpec)) headerFindsCard

/-- THE TIED CARD OF 'davenportlaw12.HeaderLast'. -/
def headerLastCard : Claim7 := { stood := { row := headerLastRow, standIns := [], harness := (true, "174e6d7381e1a26cb490cee4e7b0c122b09f85c4726edacc373af2892a778710"), looks := false }, kinds := [], alts := [], laidByText := true, laidKinds := [.data], laidTests := true, laidLooks := .later }
def HeaderLastCardSaid : Prop := Claim7.holds Tryd.pinned (.plain (OpenSpec.ofChange headerLastSpec)) headerLastCard

/-- THE TIED CARD OF 'davenportlaw12.HeaderTorn'. -/
def headerTornCard : Claim7 := { stood := { row := headerTornRow, standIns := [], harness := (true, "174e6d7381e1a26cb490cee4e7b0c122b09f85c4726edacc373af2892a778710"), looks := false }, kinds := [], alts := [], laidByText := true, laidKinds := [.data], laidTests := true, laidLooks := .later }
def HeaderTornCardSaid : Prop := Claim7.holds Tryd.pinned (.plain (OpenSpec.ofChange headerTornSpec)) headerTornCard

/-- THE TIED CARD OF 'davenportlaw12.HeaderTurned'. -/
def headerTurnedCard : Claim7 := { stood := { row := headerTurnedRow, standIns := [], harness := (true, "174e6d7381e1a26cb490cee4e7b0c122b09f85c4726edacc373af2892a778710"), looks := false }, kinds := [], alts := [], laidByText := true, laidKinds := [.data], laidTests := true, laidLooks := .later }
def HeaderTurnedCardSaid : Prop := Claim7.holds Tryd.pinned (.plain (OpenSpec.ofChange headerTurnedSpec)) headerTurnedCard

/-- THE SECOND FORM's CARD OF 'davenportlaw12.HeaderCodes'. -/
def headerCodesUptoCard : Claim7 := { stood := { row := headerCodesUptoRow, standIns := [], harness := (true, "174e6d7381e1a26cb490cee4e7b0c122b09f85c4726edacc373af2892a778710"), looks := false }, kinds := [], alts := [], laidByText := true, laidKinds := [.data], laidTests := true, laidLooks := .later }
def HeaderCodesUptoCardSaid : Prop := Claim7.holds Tryd.pinned (.plain (OpenSpec.upto headerCodesSpec)) headerCodesUptoCard

/-- THE SECOND FORM's CARD OF 'davenportlaw12.HeaderPuts'. -/
def headerPutsUptoCard : Claim7 := { stood := { row := headerPutsUptoRow, standIns := [], harness := (true, "174e6d7381e1a26cb490cee4e7b0c122b09f85c4726edacc373af2892a778710"), looks := false }, kinds := [], alts := [], laidByText := true, laidKinds := [.data], laidTests := true, laidLooks := .later }
def HeaderPutsUptoCardSaid : Prop := Claim7.holds Tryd.pinned (.plain (OpenSpec.upto headerPutsSpec)) headerPutsUptoCard

/-- THE SECOND FORM's CARD OF 'davenportlaw12.HeaderFinds'. -/
def headerFindsUptoCard : Claim7 := { stood := { row := headerFindsUptoRow, standIns := [], harness := (true, "174e6d7381e1a26cb490cee4e7b0c122b09f85c4726edacc373af2892a778710"), looks := false }, kinds := [], alts := [], laidByText := true, laidKinds := [.data], laidTests := true, laidLooks := .later }
def HeaderFindsUptoCardSaid : Prop := Claim7.holds Tryd.pinned (.plain (OpenSpec.upto headerFindsSpec)) headerFindsUptoCard

/-- THE SECOND FORM's CARD OF 'davenportlaw12.HeaderLast'. -/
def headerLastUptoCard : Claim7 := { stood := { row := headerLastUptoRow, standIns := [], harness := (true, "174e6d7381e1a26cb490cee4e7b0c122b09f85c4726edacc373af2892a778710"), looks := false }, kinds := [], alts := [], laidByText := true, laidKinds := [.data], laidTests := true, laidLooks := .later }
def HeaderLastUptoCardSaid : Prop := Claim7.holds Tryd.pinned (.plain (OpenSpec.upto headerLastSpec)) headerLastUptoCard

/-- THE SECOND FORM's CARD OF 'davenportlaw12.HeaderTorn'. -/
def headerTornUptoCard : Claim7 := { stood := { row := headerTornUptoRow, standIns := [], harness := (true, "174e6d7381e1a26cb490cee4e7b0c122b09f85c4726edacc373af2892a778710"), looks := false }, kinds := [], alts := [], laidByText := true, laidKinds := [.data], laidTests := true, laidLooks := .later }
def HeaderTornUptoCardSaid : Prop := Claim7.holds Tryd.pinned (.plain (OpenSpec.upto headerTornSpec)) headerTornUptoCard

/-- THE SECOND FORM's CARD OF 'davenportlaw12.HeaderTurned'. -/
def headerTurnedUptoCard : Claim7 := { stood := { row := headerTurnedUptoRow, standIns := [], harness := (true, "174e6d7381e1a26cb490cee4e7b0c122b09f85c4726edacc373af2892a778710"), looks := false }, kinds := [], alts := [], laidByText := true, laidKinds := [.data], laidTests := true, laidLooks := .later }
def HeaderTurnedUptoCardSaid : Prop := Claim7.holds Tryd.pinned (.plain (OpenSpec.upto headerTurnedSpec)) headerTurnedUptoCard
end Rows
end Go.Proofs.YtlknmpnjhbdlhaaDoor
