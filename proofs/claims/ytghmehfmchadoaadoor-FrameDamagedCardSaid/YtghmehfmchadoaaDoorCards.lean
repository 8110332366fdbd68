/-
  DERIVED. GIVEN WITH THE SEED: THE CARDS: each row of YtghmehfmchadoaaDoorRows.lean that lists a variable, with what it lists TIED to the program's text (the seventh form; the later family's looks); each row that meets fmt, with fmt's text TOLD by the authors' own Lean function (tested against real Go, not proved from fmt's source: count such statements apart). THE CARD IS WHAT COUNTS. Prove the row's statement (the work); the ties are given (YtghmehfmchadoaaDoorTie.lean); close each card by the builder's one call (the guide's Derived/Test/ToyasCard.lean, 'card_holds'). Laid BY PROGRAM, IN A SANDBOX (cutbox-door.mjs). By AI agents, Wed Nov 11 2026. No macro, syntax, notation, axiom, sorry.
-/
import Derived.Test.YtghmehfmchadoaaDoorRows
import GoSem.ClaimSeven
namespace Go.Proofs.YtghmehfmchadoaaDoor
namespace Rows

/-- THE TIED CARD OF 'davenportlaw11.FramePuts'. -/
def framePutsCard : Claim7 := { stood := { row := framePutsRow, standIns := [], harness := (true, "80beb72ee56ff57f155ee56d8009df8f62a2986703138f249b712492d23d7bf6"), looks := false }, kinds := [], alts := [], laidByText := true, laidKinds := [.data], laidTests := true, laidLooks := .later }
def FramePutsCardSaid : Prop := Claim7.holds Tryd.pinned (.plain (OpenSpec.ofChange framePutsSpec)) framePutsCard

/-- THE TIED CARD OF 'davenportlaw11.FrameGets'. -/
def frameGetsCard : Claim7 := { stood := { row := frameGetsRow, standIns := [], harness := (true, "80beb72ee56ff57f155ee56d8009df8f62a2986703138f249b712492d23d7bf6"), looks := false }, kinds := [], alts := [], laidByText := true, laidKinds := [.data], laidTests := true, laidLooks := .later }
def FrameGetsCardSaid : Prop := Claim7.holds Tryd.pinned (.plain (OpenSpec.ofChange frameGetsSpec)) frameGetsCard

/-- THE TIED CARD OF 'davenportlaw11.FrameTorn'. -/
def frameTornCard : Claim7 := { stood := { row := frameTornRow, standIns := [], harness := (true, "80beb72ee56ff57f155ee56d8009df8f62a2986703138f249b712492d23d7bf6"), looks := false }, kinds := [], alts := [], laidByText := true, laidKinds := [.data], laidTests := true, laidLooks := .later }
def FrameTornCardSaid : Prop := Claim7.holds Tryd.pinned (.plain (OpenSpec.ofChange frameTornSpec)) frameTornCard

/-- THE TIED CARD OF 'davenportlaw11.FrameDamaged'. -/
def frameDamagedCard : Claim7 := { stood := { row := frameDamagedRow, standIns := [], harness := (true, "80beb72ee56ff57f155ee56d8009df8f62a2986703138f249b712492d23d7bf6"), looks := false }, kinds := [], alts := [], laidByText := true, laidKinds := [.data], laidTests := true, laidLooks := .later }
def FrameDamagedCardSaid : Prop := Claim7.holds Tryd.pinned (.plain (OpenSpec.ofChange frameDamagedSpec)) frameDamagedCard

/-- THE TIED CARD OF 'davenportlaw11.FrameFree'. -/
def frameFreeCard : Claim7 := { stood := { row := frameFreeRow, standIns := [], harness := (true, "80beb72ee56ff57f155ee56d8009df8f62a2986703138f249b712492d23d7bf6"), looks := false }, kinds := [], alts := [], laidByText := true, laidKinds := [.data], laidTests := true, laidLooks := .later }
def FrameFreeCardSaid : Prop := Claim7.holds Tryd.pinned (.plain (OpenSpec.ofChange frameFreeSpec)) frameFreeCard

/-- THE SECOND FORM's CARD OF 'davenportlaw11.FramePuts'. -/
def framePutsUptoCard : Claim7 := { stood := { row := framePutsUptoRow, standIns := [], harness := (true, "80beb72ee56ff57f155ee56d8009df8f62a2986703138f249b712492d23d7bf6"), looks := false }, kinds := [], alts := [], laidByText := true, laidKinds := [.data], laidTests := true, laidLooks := .later }
def FramePutsUptoCardSaid : Prop := Claim7.holds Tryd.pinned (.plain (OpenSpec.upto framePutsSpec)) framePutsUptoCard

/-- THE SECOND FORM's CARD OF 'davenportlaw11.FrameGets'. -/
def frameGetsUptoCard : Claim7 := { stood := { row := frameGetsUptoRow, standIns := [], harness := (true, "80beb72ee56ff57f155ee56d8009df8f62a2986703138f249b712492d23d7bf6"), looks := false }, kinds := [], alts := [], laidByText := true, laidKinds := [.data], laidTests := true, laidLooks := .later }
def FrameGetsUptoCardSaid : Prop := Claim7.holds Tryd.pinned (.plain (OpenSpec.upto frameGetsSpec)) frameGetsUptoCard

/-- THE SECOND FORM's CARD OF 'davenportlaw11.FrameTorn'. -/
def frameTornUptoCard : Claim7 := { stood := { row := frameTornUptoRow, standIns := [], harness := (true, "80beb72ee56ff57f155ee56d8009df8f62a2986703138f249b712492d23d7bf6"), looks := false }, kinds := [], alts := [], laidByText := true, laidKinds := [.data], laidTests := true, laidLooks := .later }
def FrameTornUptoCardSaid : Prop := Claim7.holds Tryd.pinned (.plain (OpenSpec.upto frameTornSpec)) frameTornUptoCard

/-- THE SECOND FORM's CARD OF 'davenportlaw11.FrameDamaged'. -/
def frameDamagedUptoCard : Claim7 := { stood := { row := frameDamagedUptoRow, standIns := [], harness := (true, "80beb72ee56ff57f155ee56d8009df8f62a2986703138f249b712492d23d7bf6"), looks := false }, kinds := [], alts := [], laidByText := true, laidKinds := [.data], laidTests := true, laidLooks := .later }
def FrameDamagedUptoCardSaid : Prop := Claim7.holds Tryd.pinned (.plain (OpenSpec.upto frameDamagedSpec)) frameDamagedUptoCard

/-- THE SECOND FORM's CARD OF 'davenportlaw11.FrameFree'. -/
def frameFreeUptoCard : Claim7 := { stood := { row := frameFreeUptoRow, standIns := [], harness := (true, "80beb72ee56ff57f155ee56d8009df8f62a2986703138f249b712492d23d7bf6"), looks := false }, kinds := [], alts := [], laidByText := true, laidKinds := [.data], laidTests := true, laidLooks := .later }
def FrameFreeUptoCardSaid : Prop := Claim7.holds Tryd.pinned (.plain (OpenSpec.upto frameFreeSpec)) frameFreeUptoCard
end Rows
end Go.Proofs.YtghmehfmchadoaaDoor
