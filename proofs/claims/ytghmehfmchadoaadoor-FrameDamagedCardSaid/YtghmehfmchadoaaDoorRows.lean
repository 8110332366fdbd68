/-
  NARROWER THAN 'FOR EVERY INPUT', by the rows' own cells (each row's printed sentence says how): FramePuts: laid · FrameGets: laid · FrameTorn: laid · FrameDamaged: laid · FrameFree: laid.
  DERIVED. THE GIVEN ROWS OF THIS SEAT. 5 by the template 'for every input the law returns true; each argument reads behind the call as it read before'; 0 by the template 'total and deterministic' (their statements: YtghmehfmchadoaaDoorTotals.lean).
  GIVEN WITH THE SEED: the statements are not yours to turn. If you find one false, say at which input.
  Laid BY PROGRAM, IN A SANDBOX (cutbox-rows.mjs): the forced cells as the released guide's own fill.sh prints them over the translation 78fcc5ffa1520d78… (all of the seat's roots in one cut). By AI agents, Wed Nov 11 2026. No macro, syntax, notation, axiom, sorry.
-/
import Derived.Test.YtghmehfmchadoaaDoorChecked
import GoSem.Claim
import GoSem.ClaimJoined
import GoSem.ClaimMapViews
import Derived.JoinedTies
import Derived.KernelRfl
namespace Go.Proofs.YtghmehfmchadoaaDoor
/- THE CELL 'sum', in the pinned program and in every row, IS THE sha256 OF THE DUMP (.gsa) THAT YtghmehfmchadoaaDoorProg.lean LOADS. Nothing in Lean hashes anything: it is a label: what it is worth is what the hold of that sum in a sandbox is worth. -/
noncomputable def Tryd.pinned : Pinned := { name := "ytghmehfmchadoaadoor", sum := "78fcc5ffa1520d78bf0feb1533038993d131117dcf8a0e598ec3d9949282f415", checked := Tryd.checked }
namespace Rows
def none {H : Type} : Left H := { results := [], args := [] }

/- WHAT THE LISTED PACKAGE-LEVEL VARIABLES READ AS WHEN THE CALL BEGINS. Each datum BY PROGRAM (the guide's laid-datum.mjs) off the statement by which the dump's own 'gosem.cut.vars' lays the variable. In a bare row this is a premise. The card (YtghmehfmchadoaaDoorCards.lean) ties it to the program's text. -/
def laid_davenport_crc_quarters {H : Type} : DataW H := .agg [.lit (.int .u32 0), .lit (.int .u32 274646895), .lit (.int .u32 549293790), .lit (.int .u32 820201905), .lit (.int .u32 1098587580), .lit (.int .u32 1361435347), .lit (.int .u32 1640403810), .lit (.int .u32 1905808397), .lit (.int .u32 2197175160), .lit (.int .u32 2460548119), .lit (.int .u32 2722870694), .lit (.int .u32 2987750089), .lit (.int .u32 3280807620), .lit (.int .u32 3553878443), .lit (.int .u32 3811616794), .lit (.int .u32 4084100981)]

/-- 'davenportlaw11.FramePuts': WHATEVER THE INPUT: true; the input reads as it did. -/
def framePutsSpec : ChangeSpec := { name := "framePuts", fn := fun _ => fun
  | [d1, d2] => { results := [.lit (.bool true)], args := [d1, d2] }
  | _ => none }
def framePutsRow : OpenClaim := { program := "ytghmehfmchadoaadoor", sum := "78fcc5ffa1520d78bf0feb1533038993d131117dcf8a0e598ec3d9949282f415", func := "davenport/davenportlaw11.FramePuts", spec := "framePuts", unfollowed := true, recurses := true, named := ["davenport/crc.quarters"], apart := false, laid := [("davenport/crc.quarters", laid_davenport_crc_quarters)] }
def FramePutsSaid : Prop := framePutsRow.holds Tryd.pinned (OpenSpec.ofChange framePutsSpec)

/-- ITS FALSE NEIGHBOUR: 'it returns false'. Refute it at one input. -/
def framePutsWrong : ChangeSpec := { name := "framePuts", fn := fun _ => fun
  | [d1, d2] => { results := [.lit (.bool false)], args := [d1, d2] }
  | _ => none }
def FramePutsWrongFalsely : Prop := framePutsRow.holds Tryd.pinned (OpenSpec.ofChange framePutsWrong)

/-- 'davenportlaw11.FrameGets': WHATEVER THE INPUT: true; the input reads as it did. -/
def frameGetsSpec : ChangeSpec := { name := "frameGets", fn := fun _ => fun
  | [d1, d2] => { results := [.lit (.bool true)], args := [d1, d2] }
  | _ => none }
def frameGetsRow : OpenClaim := { program := "ytghmehfmchadoaadoor", sum := "78fcc5ffa1520d78bf0feb1533038993d131117dcf8a0e598ec3d9949282f415", func := "davenport/davenportlaw11.FrameGets", spec := "frameGets", unfollowed := true, recurses := true, named := ["davenport/crc.quarters"], apart := false, laid := [("davenport/crc.quarters", laid_davenport_crc_quarters)] }
def FrameGetsSaid : Prop := frameGetsRow.holds Tryd.pinned (OpenSpec.ofChange frameGetsSpec)

/-- ITS FALSE NEIGHBOUR: 'it returns false'. Refute it at one input. -/
def frameGetsWrong : ChangeSpec := { name := "frameGets", fn := fun _ => fun
  | [d1, d2] => { results := [.lit (.bool false)], args := [d1, d2] }
  | _ => none }
def FrameGetsWrongFalsely : Prop := frameGetsRow.holds Tryd.pinned (OpenSpec.ofChange frameGetsWrong)

/-- 'davenportlaw11.FrameTorn': WHATEVER THE INPUT: true; the input reads as it did. -/
def frameTornSpec : ChangeSpec := { name := "frameTorn", fn := fun _ => fun
  | [d1, d2, d3] => { results := [.lit (.bool true)], args := [d1, d2, d3] }
  | _ => none }
def frameTornRow : OpenClaim := { program := "ytghmehfmchadoaadoor", sum := "78fcc5ffa1520d78bf0feb1533038993d131117dcf8a0e598ec3d9949282f415", func := "davenport/davenportlaw11.FrameTorn", spec := "frameTorn", unfollowed := true, recurses := true, named := ["davenport/crc.quarters"], apart := false, laid := [("davenport/crc.quarters", laid_davenport_crc_quarters)] }
def FrameTornSaid : Prop := frameTornRow.holds Tryd.pinned (OpenSpec.ofChange frameTornSpec)

/-- ITS FALSE NEIGHBOUR: 'it returns false'. Refute it at one input. -/
def frameTornWrong : ChangeSpec := { name := "frameTorn", fn := fun _ => fun
  | [d1, d2, d3] => { results := [.lit (.bool false)], args := [d1, d2, d3] }
  | _ => none }
def FrameTornWrongFalsely : Prop := frameTornRow.holds Tryd.pinned (OpenSpec.ofChange frameTornWrong)

/-- 'davenportlaw11.FrameDamaged': WHATEVER THE INPUT: true; the input reads as it did. -/
def frameDamagedSpec : ChangeSpec := { name := "frameDamaged", fn := fun _ => fun
  | [d1, d2, d3, d4] => { results := [.lit (.bool true)], args := [d1, d2, d3, d4] }
  | _ => none }
def frameDamagedRow : OpenClaim := { program := "ytghmehfmchadoaadoor", sum := "78fcc5ffa1520d78bf0feb1533038993d131117dcf8a0e598ec3d9949282f415", func := "davenport/davenportlaw11.FrameDamaged", spec := "frameDamaged", unfollowed := true, recurses := true, named := ["davenport/crc.quarters"], apart := false, laid := [("davenport/crc.quarters", laid_davenport_crc_quarters)] }
def FrameDamagedSaid : Prop := frameDamagedRow.holds Tryd.pinned (OpenSpec.ofChange frameDamagedSpec)

/-- ITS FALSE NEIGHBOUR: 'it returns false'. Refute it at one input. -/
def frameDamagedWrong : ChangeSpec := { name := "frameDamaged", fn := fun _ => fun
  | [d1, d2, d3, d4] => { results := [.lit (.bool false)], args := [d1, d2, d3, d4] }
  | _ => none }
def FrameDamagedWrongFalsely : Prop := frameDamagedRow.holds Tryd.pinned (OpenSpec.ofChange frameDamagedWrong)

/-- 'davenportlaw11.FrameFree': WHATEVER THE INPUT: true; the input reads as it did. -/
def frameFreeSpec : ChangeSpec := { name := "frameFree", fn := fun _ => fun
  | [d1, d2, d3] => { results := [.lit (.bool true)], args := [d1, d2, d3] }
  | _ => none }
def frameFreeRow : OpenClaim := { program := "ytghmehfmchadoaadoor", sum := "78fcc5ffa1520d78bf0feb1533038993d131117dcf8a0e598ec3d9949282f415", func := "davenport/davenportlaw11.FrameFree", spec := "frameFree", inPlace := ["internal/bytealg.MakeNoZero"], unfollowed := true, recurses := true, named := ["davenport/crc.quarters"], apart := false, laid := [("davenport/crc.quarters", laid_davenport_crc_quarters)] }
def FrameFreeSaid : Prop := frameFreeRow.holds Tryd.pinned (OpenSpec.ofChange frameFreeSpec)

/-- ITS FALSE NEIGHBOUR: 'it returns false'. Refute it at one input. -/
def frameFreeWrong : ChangeSpec := { name := "frameFree", fn := fun _ => fun
  | [d1, d2, d3] => { results := [.lit (.bool false)], args := [d1, d2, d3] }
  | _ => none }
def FrameFreeWrongFalsely : Prop := frameFreeRow.holds Tryd.pinned (OpenSpec.ofChange frameFreeWrong)

/- THE SECOND FORM. 'bulk': how many values and letters a reading holds, each counted each time it is reached (what is shared counts as often as it is met; a slice's spare places count too). A statement '..UptoSaid' is the law's where the arguments, and the package variables that the reading takes, are together of bulk at most 1048576: NARROWER than '..Said'. Prove '..Said' where nothing that the law and all that it calls make is longer than what came in: it says more and counts as full. Else prove '..UptoSaid'. A law counts once. -/
mutual
def uptoBulk {H : Type} : DataW H → Nat
  | .lit (.string bytes) => bytes.length + 1
  | .lit _ => 1
  | .nil => 1
  | .ptr d => uptoBulk d + 1
  | .slice elems spare => uptoBulkAll elems + uptoBulkAll spare + 1
  | .agg parts => uptoBulkAll parts + 1
  | .iface _ d => uptoBulk d + 1
  | .map entries => uptoBulkEntries entries + 1
  | .held _ => 1
def uptoBulkAll {H : Type} : List (DataW H) → Nat
  | [] => 0
  | d :: r => uptoBulk d + uptoBulkAll r
def uptoBulkEntries {H : Type} : List (Lit × DataW H) → Nat
  | [] => 0
  | x :: r => uptoBulkEntry x + uptoBulkEntries r
def uptoBulkEntry {H : Type} : Lit × DataW H → Nat
  | (.string bytes, d) => bytes.length + uptoBulk d + 1
  | (_, d) => uptoBulk d + 1
 end
def uptoSmall : (H : Type) → List (DataW H) → Bool := fun _ ds => decide (uptoBulkAll ds ≤ 1048576)
def OpenSpec.upto (s : _root_.Go.ChangeSpec) : _root_.Go.OpenSpec := { _root_.Go.OpenSpec.ofChange s with cond := some uptoSmall }

/-- 'davenportlaw11.FramePuts', WHERE WHAT IT READS IS OF BULK AT MOST 1048576: true; the input reads as it did. -/
def framePutsUptoRow : OpenClaim := { program := "ytghmehfmchadoaadoor", sum := "78fcc5ffa1520d78bf0feb1533038993d131117dcf8a0e598ec3d9949282f415", func := "davenport/davenportlaw11.FramePuts", spec := "framePuts", unfollowed := true, recurses := true, named := ["davenport/crc.quarters"], apart := false, laid := [("davenport/crc.quarters", laid_davenport_crc_quarters)], narrowed := true }
def FramePutsUptoSaid : Prop := framePutsUptoRow.holds Tryd.pinned (OpenSpec.upto framePutsSpec)

/-- 'davenportlaw11.FrameGets', WHERE WHAT IT READS IS OF BULK AT MOST 1048576: true; the input reads as it did. -/
def frameGetsUptoRow : OpenClaim := { program := "ytghmehfmchadoaadoor", sum := "78fcc5ffa1520d78bf0feb1533038993d131117dcf8a0e598ec3d9949282f415", func := "davenport/davenportlaw11.FrameGets", spec := "frameGets", unfollowed := true, recurses := true, named := ["davenport/crc.quarters"], apart := false, laid := [("davenport/crc.quarters", laid_davenport_crc_quarters)], narrowed := true }
def FrameGetsUptoSaid : Prop := frameGetsUptoRow.holds Tryd.pinned (OpenSpec.upto frameGetsSpec)

/-- 'davenportlaw11.FrameTorn', WHERE WHAT IT READS IS OF BULK AT MOST 1048576: true; the input reads as it did. -/
def frameTornUptoRow : OpenClaim := { program := "ytghmehfmchadoaadoor", sum := "78fcc5ffa1520d78bf0feb1533038993d131117dcf8a0e598ec3d9949282f415", func := "davenport/davenportlaw11.FrameTorn", spec := "frameTorn", unfollowed := true, recurses := true, named := ["davenport/crc.quarters"], apart := false, laid := [("davenport/crc.quarters", laid_davenport_crc_quarters)], narrowed := true }
def FrameTornUptoSaid : Prop := frameTornUptoRow.holds Tryd.pinned (OpenSpec.upto frameTornSpec)

/-- 'davenportlaw11.FrameDamaged', WHERE WHAT IT READS IS OF BULK AT MOST 1048576: true; the input reads as it did. -/
def frameDamagedUptoRow : OpenClaim := { program := "ytghmehfmchadoaadoor", sum := "78fcc5ffa1520d78bf0feb1533038993d131117dcf8a0e598ec3d9949282f415", func := "davenport/davenportlaw11.FrameDamaged", spec := "frameDamaged", unfollowed := true, recurses := true, named := ["davenport/crc.quarters"], apart := false, laid := [("davenport/crc.quarters", laid_davenport_crc_quarters)], narrowed := true }
def FrameDamagedUptoSaid : Prop := frameDamagedUptoRow.holds Tryd.pinned (OpenSpec.upto frameDamagedSpec)

/-- 'davenportlaw11.FrameFree', WHERE WHAT IT READS IS OF BULK AT MOST 1048576: true; the input reads as it did. -/
def frameFreeUptoRow : OpenClaim := { program := "ytghmehfmchadoaadoor", sum := "78fcc5ffa1520d78bf0feb1533038993d131117dcf8a0e598ec3d9949282f415", func := "davenport/davenportlaw11.FrameFree", spec := "frameFree", inPlace := ["internal/bytealg.MakeNoZero"], unfollowed := true, recurses := true, named := ["davenport/crc.quarters"], apart := false, laid := [("davenport/crc.quarters", laid_davenport_crc_quarters)], narrowed := true }
def FrameFreeUptoSaid : Prop := frameFreeUptoRow.holds Tryd.pinned (OpenSpec.upto frameFreeSpec)

end Rows
end Go.Proofs.YtghmehfmchadoaaDoor
