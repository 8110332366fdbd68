/-
  NARROWER THAN 'FOR EVERY INPUT', by the rows' own cells (each row's printed sentence says how): HeaderCodes: laid · HeaderPuts: laid · HeaderFinds: laid · HeaderLast: laid · HeaderTorn: laid · HeaderTurned: laid.
  DERIVED. THE GIVEN ROWS OF THIS SEAT. 6 by the template 'for every input the law returns true; each argument reads behind the call as it read before'; 0 by the template 'total and deterministic' (their statements: YtlknmpnjhbdlhaaDoorTotals.lean).
  GIVEN WITH THE SEED: the statements are not yours to turn. If you find one false, say at which input.
  Laid BY PROGRAM, IN A SANDBOX (cutbox-rows.mjs): the forced cells as the released guide's own fill.sh prints them over the translation 76870539ddf8ebb5… (all of the seat's roots in one cut). By AI agents, Wed Nov 11 2026. No macro, syntax, notation, axiom, sorry.
-/
import Derived.Test.YtlknmpnjhbdlhaaDoorChecked
import GoSem.Claim
import GoSem.ClaimJoined
import GoSem.ClaimMapViews
import Derived.JoinedTies
import Derived.KernelRfl
namespace Go.Proofs.YtlknmpnjhbdlhaaDoor
/- THE CELL 'sum', in the pinned program and in every row, IS THE sha256 OF THE DUMP (.gsa) THAT YtlknmpnjhbdlhaaDoorProg.lean LOADS. Nothing in Lean hashes anything: it is a label: what it is worth is what the hold of that sum in a sandbox is worth. -/
noncomputable def Tryd.pinned : Pinned := { name := "ytlknmpnjhbdlhaadoor", sum := "76870539ddf8ebb5efff61bd73d692be23f39d572cbb7bffc5410b421f4843fc", checked := Tryd.checked }
namespace Rows
def none {H : Type} : Left H := { results := [], args := [] }

/- WHAT THE LISTED PACKAGE-LEVEL VARIABLES READ AS WHEN THE CALL BEGINS. Each datum BY PROGRAM (the guide's laid-datum.mjs) off the statement by which the dump's own 'gosem.cut.vars' lays the variable. In a bare row this is a premise. The card (YtlknmpnjhbdlhaaDoorCards.lean) ties it to the program's text. -/
def laid_davenport_crc_quarters {H : Type} : DataW H := .agg [.lit (.int .u32 0), .lit (.int .u32 274646895), .lit (.int .u32 549293790), .lit (.int .u32 820201905), .lit (.int .u32 1098587580), .lit (.int .u32 1361435347), .lit (.int .u32 1640403810), .lit (.int .u32 1905808397), .lit (.int .u32 2197175160), .lit (.int .u32 2460548119), .lit (.int .u32 2722870694), .lit (.int .u32 2987750089), .lit (.int .u32 3280807620), .lit (.int .u32 3553878443), .lit (.int .u32 3811616794), .lit (.int .u32 4084100981)]

/-- 'davenportlaw12.HeaderCodes': WHATEVER THE INPUT: true; the input reads as it did. -/
def headerCodesSpec : ChangeSpec := { name := "headerCodes", fn := fun _ => fun
  | [d1, d2] => { results := [.lit (.bool true)], args := [d1, d2] }
  | _ => none }
def headerCodesRow : OpenClaim := { program := "ytlknmpnjhbdlhaadoor", sum := "76870539ddf8ebb5efff61bd73d692be23f39d572cbb7bffc5410b421f4843fc", func := "davenport/davenportlaw12.HeaderCodes", spec := "headerCodes", unfollowed := true, recurses := true, named := ["davenport/crc.quarters"], apart := false, laid := [("davenport/crc.quarters", laid_davenport_crc_quarters)] }
def HeaderCodesSaid : Prop := headerCodesRow.holds Tryd.pinned (OpenSpec.ofChange headerCodesSpec)

/-- ITS FALSE NEIGHBOUR: 'it returns false'. Refute it at one input. -/
def headerCodesWrong : ChangeSpec := { name := "headerCodes", fn := fun _ => fun
  | [d1, d2] => { results := [.lit (.bool false)], args := [d1, d2] }
  | _ => none }
def HeaderCodesWrongFalsely : Prop := headerCodesRow.holds Tryd.pinned (OpenSpec.ofChange headerCodesWrong)

/-- 'davenportlaw12.HeaderPuts': WHATEVER THE INPUT: true; the input reads as it did. -/
def headerPutsSpec : ChangeSpec := { name := "headerPuts", fn := fun _ => fun
  | [d1, d2] => { results := [.lit (.bool true)], args := [d1, d2] }
  | _ => none }
def headerPutsRow : OpenClaim := { program := "ytlknmpnjhbdlhaadoor", sum := "76870539ddf8ebb5efff61bd73d692be23f39d572cbb7bffc5410b421f4843fc", func := "davenport/davenportlaw12.HeaderPuts", spec := "headerPuts", unfollowed := true, recurses := true, named := ["davenport/crc.quarters"], apart := false, laid := [("davenport/crc.quarters", laid_davenport_crc_quarters)] }
def HeaderPutsSaid : Prop := headerPutsRow.holds Tryd.pinned (OpenSpec.ofChange headerPutsSpec)

/-- ITS FALSE NEIGHBOUR: 'it returns false'. Refute it at one input. -/
def headerPutsWrong : ChangeSpec := { name := "headerPuts", fn := fun _ => fun
  | [d1, d2] => { results := [.lit (.bool false)], args := [d1, d2] }
  | _ => none }
def HeaderPutsWrongFalsely : Prop := headerPutsRow.holds Tryd.pinned (OpenSpec.ofChange headerPutsWrong)

/-- 'davenportlaw12.HeaderFinds': WHATEVER THE INPUT: true; the input reads as it did. -/
def headerFindsSpec : ChangeSpec := { name := "headerFinds", fn := fun _ => fun
  | [d1, d2] => { results := [.lit (.bool true)], args := [d1, d2] }
  | _ => none }
def headerFindsRow : OpenClaim := { program := "ytlknmpnjhbdlhaadoor", sum := "76870539ddf8ebb5efff61bd73d692be23f39d572cbb7bffc5410b421f4843fc", func := "davenport/davenportlaw12.HeaderFinds", spec := "headerFinds", unfollowed := true, recurses := true, named := ["davenport/crc.quarters"], apart := false, laid := [("davenport/crc.quarters", laid_davenport_crc_quarters)] }
def HeaderFindsSaid : Prop := headerFindsRow.holds Tryd.pinned (OpenSpec.ofChange headerFindsSpec)

/-- ITS FALSE NEIGHBOUR: 'it returns false'. Refute it at one input. -/
def headerFindsWrong : ChangeSpec := { name := "headerFinds", fn := fun _ => fun
  | [d1, d2] => { results := [.lit (.bool false)], args := [d1, d2] }
  | _ => none }
def HeaderFindsWrongFalsely : Prop := headerFindsRow.holds Tryd.pinned (OpenSpec.ofChange headerFindsWrong)

/-- 'davenportlaw12.HeaderLast': WHATEVER THE INPUT: true; the input reads as it did. -/
def headerLastSpec : ChangeSpec := { name := "headerLast", fn := fun _ => fun
  | [d] => { results := [.lit (.bool true)], args := [d] }
  | _ => none }
def headerLastRow : OpenClaim := { program := "ytlknmpnjhbdlhaadoor", sum := "76870539ddf8ebb5efff61bd73d692be23f39d572cbb7bffc5410b421f4843fc", func := "davenport/davenportlaw12.HeaderLast", spec := "headerLast", unfollowed := true, recurses := true, named := ["davenport/crc.quarters"], apart := false, laid := [("davenport/crc.quarters", laid_davenport_crc_quarters)] }
def HeaderLastSaid : Prop := headerLastRow.holds Tryd.pinned (OpenSpec.ofChange headerLastSpec)

/-- ITS FALSE NEIGHBOUR: 'it returns false'. Refute it at one input. -/
def headerLastWrong : ChangeSpec := { name := "headerLast", fn := fun _ => fun
  | [d] => { results := [.lit (.bool false)], args := [d] }
  | _ => none }
def HeaderLastWrongFalsely : Prop := headerLastRow.holds Tryd.pinned (OpenSpec.ofChange headerLastWrong)

/-- 'davenportlaw12.HeaderTorn': WHATEVER THE INPUT: true; the input reads as it did. -/
def headerTornSpec : ChangeSpec := { name := "headerTorn", fn := fun _ => fun
  | [d1, d2, d3] => { results := [.lit (.bool true)], args := [d1, d2, d3] }
  | _ => none }
def headerTornRow : OpenClaim := { program := "ytlknmpnjhbdlhaadoor", sum := "76870539ddf8ebb5efff61bd73d692be23f39d572cbb7bffc5410b421f4843fc", func := "davenport/davenportlaw12.HeaderTorn", spec := "headerTorn", unfollowed := true, recurses := true, named := ["davenport/crc.quarters"], apart := false, laid := [("davenport/crc.quarters", laid_davenport_crc_quarters)] }
def HeaderTornSaid : Prop := headerTornRow.holds Tryd.pinned (OpenSpec.ofChange headerTornSpec)

/-- ITS FALSE NEIGHBOUR: 'it returns false'. Refute it at one input. -/
def headerTornWrong : ChangeSpec := { name := "headerTorn", fn := fun _ => fun
  | [d1, d2, d3] => { results := [.lit (.bool false)], args := [d1, d2, d3] }
  | _ => none }
def HeaderTornWrongFalsely : Prop := headerTornRow.holds Tryd.pinned (OpenSpec.ofChange headerTornWrong)

/-- 'davenportlaw12.HeaderTurned': WHATEVER THE INPUT: true; the input reads as it did. -/
def headerTurnedSpec : ChangeSpec := { name := "headerTurned", fn := fun _ => fun
  | [d1, d2, d3] => { results := [.lit (.bool true)], args := [d1, d2, d3] }
  | _ => none }
def headerTurnedRow : OpenClaim := { program := "ytlknmpnjhbdlhaadoor", sum := "76870539ddf8ebb5efff61bd73d692be23f39d572cbb7bffc5410b421f4843fc", func := "davenport/davenportlaw12.HeaderTurned", spec := "headerTurned", unfollowed := true, recurses := true, named := ["davenport/crc.quarters"], apart := false, laid := [("davenport/crc.quarters", laid_davenport_crc_quarters)] }
def HeaderTurnedSaid : Prop := headerTurnedRow.holds Tryd.pinned (OpenSpec.ofChange headerTurnedSpec)

/-- ITS FALSE NEIGHBOUR: 'it returns false'. Refute it at one input. -/
def headerTurnedWrong : ChangeSpec := { name := "headerTurned", fn := fun _ => fun
  | [d1, d2, d3] => { results := [.lit (.bool false)], args := [d1, d2, d3] }
  | _ => none }
def HeaderTurnedWrongFalsely : Prop := headerTurnedRow.holds Tryd.pinned (OpenSpec.ofChange headerTurnedWrong)

/- THE SECOND FORM. 'bulk': how many values and letters a reading holds, each counted each time it is reached (what is shared counts as often as it is met; a slice's spare places count too). A statement '..UptoSaid' is the law's where the arguments, and the package variables that the reading takes, are together of bulk at most 1048576: NARROWER than '..Said'. Prove '..Said' where nothing that the law and all that it calls make is longer than what came in: it says more and counts as full. Else prove '..UptoSaid'. A law counts once. -/
mutual
def uptoBulk {H : Type} : DataW H → Nat
  | .lit (.string bytes) => bytes.length + 1
  | .lit _ => 1
  | .nil => 1
  | .ptr d => uptoBulk d + 1
  | .slice elems spare => uptoBulkAll elems + uptoBulkAll spare + 1
  | .agg parts => uptoBulkAll parts + 1
  | .iface _ d => uptoBulk d + 1
  | .map entries => uptoBulkEntries entries + 1
  | .held _ => 1
def uptoBulkAll {H : Type} : List (DataW H) → Nat
  | [] => 0
  | d :: r => uptoBulk d + uptoBulkAll r
def uptoBulkEntries {H : Type} : List (Lit × DataW H) → Nat
  | [] => 0
  | x :: r => uptoBulkEntry x + uptoBulkEntries r
def uptoBulkEntry {H : Type} : Lit × DataW H → Nat
  | (.string bytes, d) => bytes.length + uptoBulk d + 1
  | (_, d) => uptoBulk d + 1
 end
def uptoSmall : (H : Type) → List (DataW H) → Bool := fun _ ds => decide (uptoBulkAll ds ≤ 1048576)
def OpenSpec.upto (s : _root_.Go.ChangeSpec) : _root_.Go.OpenSpec := { _root_.Go.OpenSpec.ofChange s with cond := some uptoSmall }

/-- 'davenportlaw12.HeaderCodes', WHERE WHAT IT READS IS OF BULK AT MOST 1048576: true; the input reads as it did. -/
def headerCodesUptoRow : OpenClaim := { program := "ytlknmpnjhbdlhaadoor", sum := "76870539ddf8ebb5efff61bd73d692be23f39d572cbb7bffc5410b421f4843fc", func := "davenport/davenportlaw12.HeaderCodes", spec := "headerCodes", unfollowed := true, recurses := true, named := ["davenport/crc.quarters"], apart := false, laid := [("davenport/crc.quarters", laid_davenport_crc_quarters)], narrowed := true }
def HeaderCodesUptoSaid : Prop := headerCodesUptoRow.holds Tryd.pinned (OpenSpec.upto headerCodesSpec)

/-- 'davenportlaw12.HeaderPuts', WHERE WHAT IT READS IS OF BULK AT MOST 1048576: true; the input reads as it did. -/
def headerPutsUptoRow : OpenClaim := { program := "ytlknmpnjhbdlhaadoor", sum := "76870539ddf8ebb5efff61bd73d692be23f39d572cbb7bffc5410b421f4843fc", func := "davenport/davenportlaw12.HeaderPuts", spec := "headerPuts", unfollowed := true, recurses := true, named := ["davenport/crc.quarters"], apart := false, laid := [("davenport/crc.quarters", laid_davenport_crc_quarters)], narrowed := true }
def HeaderPutsUptoSaid : Prop := headerPutsUptoRow.holds Tryd.pinned (OpenSpec.upto headerPutsSpec)

/-- 'davenportlaw12.HeaderFinds', WHERE WHAT IT READS IS OF BULK AT MOST 1048576: true; the input reads as it did. -/
def headerFindsUptoRow : OpenClaim := { program := "ytlknmpnjhbdlhaadoor", sum := "76870539ddf8ebb5efff61bd73d692be23f39d572cbb7bffc5410b421f4843fc", func := "davenport/davenportlaw12.HeaderFinds", spec := "headerFinds", unfollowed := true, recurses := true, named := ["davenport/crc.quarters"], apart := false, laid := [("davenport/crc.quarters", laid_davenport_crc_quarters)], narrowed := true }
def HeaderFindsUptoSaid : Prop := headerFindsUptoRow.holds Tryd.pinned (OpenSpec.upto headerFindsSpec)

/-- 'davenportlaw12.HeaderLast', WHERE WHAT IT READS IS OF BULK AT MOST 1048576: true; the input reads as it did. -/
def headerLastUptoRow : OpenClaim := { program := "ytlknmpnjhbdlhaadoor", sum := "76870539ddf8ebb5efff61bd73d692be23f39d572cbb7bffc5410b421f4843fc", func := "davenport/davenportlaw12.HeaderLast", spec := "headerLast", unfollowed := true, recurses := true, named := ["davenport/crc.quarters"], apart := false, laid := [("davenport/crc.quarters", laid_davenport_crc_quarters)], narrowed := true }
def HeaderLastUptoSaid : Prop := headerLastUptoRow.holds Tryd.pinned (OpenSpec.upto headerLastSpec)

/-- 'davenportlaw12.HeaderTorn', WHERE WHAT IT READS IS OF BULK AT MOST 1048576: true; the input reads as it did. -/
def headerTornUptoRow : OpenClaim := { program := "ytlknmpnjhbdlhaadoor", sum := "76870539ddf8ebb5efff61bd73d692be23f39d572cbb7bffc5410b421f4843fc", func := "davenport/davenportlaw12.HeaderTorn", spec := "headerTorn", unfollowed := true, recurses := true, named := ["davenport/crc.quarters"], apart := false, laid := [("davenport/crc.quarters", laid_davenport_crc_quarters)], narrowed := true }
def HeaderTornUptoSaid : Prop := headerTornUptoRow.holds Tryd.pinned (OpenSpec.upto headerTornSpec)

/-- 'davenportlaw12.HeaderTurned', WHERE WHAT IT READS IS OF BULK AT MOST 1048576: true; the input reads as it did. -/
def headerTurnedUptoRow : OpenClaim := { program := "ytlknmpnjhbdlhaadoor", sum := "76870539ddf8ebb5efff61bd73d692be23f39d572cbb7bffc5410b421f4843fc", func := "davenport/davenportlaw12.HeaderTurned", spec := "headerTurned", unfollowed := true, recurses := true, named := ["davenport/crc.quarters"], apart := false, laid := [("davenport/crc.quarters", laid_davenport_crc_quarters)], narrowed := true }
def HeaderTurnedUptoSaid : Prop := headerTurnedUptoRow.holds Tryd.pinned (OpenSpec.upto headerTurnedSpec)

end Rows
end Go.Proofs.YtlknmpnjhbdlhaaDoor
