/-
  NARROWER THAN 'FOR EVERY INPUT', by the rows' own cells (each row's printed sentence says how): MonoidComes: laid · MonoidSmall: laid.
  DERIVED. THE GIVEN ROWS OF THIS SEAT. 2 by the template 'for every input the law returns true; each argument reads behind the call as it read before'; 0 by the template 'total and deterministic' (their statements: YtinaecmpigenoaaDoorTotals.lean).
  GIVEN WITH THE SEED: the statements are not yours to turn. If you find one false, say at which input.
  Laid BY PROGRAM, IN A SANDBOX (cutbox-rows.mjs): the forced cells as the released guide's own fill.sh prints them over the translation 54c16511b5cd39b0… (all of the seat's roots in one cut). By AI agents, Wed Nov 11 2026. No macro, syntax, notation, axiom, sorry.
-/
import Derived.Test.YtinaecmpigenoaaDoorChecked
import GoSem.Claim
import GoSem.ClaimJoined
import GoSem.ClaimMapViews
import Derived.JoinedTies
import Derived.KernelRfl
namespace Go.Proofs.YtinaecmpigenoaaDoor
/- THE CELL 'sum', in the pinned program and in every row, IS THE sha256 OF THE DUMP (.gsa) THAT YtinaecmpigenoaaDoorProg.lean LOADS. Nothing in Lean hashes anything: it is a label: what it is worth is what the hold of that sum in a sandbox is worth. -/
noncomputable def Tryd.pinned : Pinned := { name := "ytinaecmpigenoaadoor", sum := "54c16511b5cd39b0aec241e48d0f32dad4af7ce4439fa3291d0507e8b8c24a70", checked := Tryd.checked }
namespace Rows
def none {H : Type} : Left H := { results := [], args := [] }

/- WHAT THE LISTED PACKAGE-LEVEL VARIABLES READ AS WHEN THE CALL BEGINS. Each datum BY PROGRAM (the guide's laid-datum.mjs) off the statement by which the dump's own 'gosem.cut.vars' lays the variable. In a bare row this is a premise. The card (YtinaecmpigenoaaDoorCards.lean) ties it to the program's text. -/
def laid_davenport_utf_forms {H : Type} : DataW H := .agg [.agg [.lit (.int .i64 0), .lit (.int .i64 127), .lit (.int .i64 1), .lit (.int .i64 0)], .agg [.lit (.int .i64 128), .lit (.int .i64 2047), .lit (.int .i64 2), .lit (.int .i64 192)], .agg [.lit (.int .i64 2048), .lit (.int .i64 65535), .lit (.int .i64 3), .lit (.int .i64 224)], .agg [.lit (.int .i64 65536), .lit (.int .i64 1114111), .lit (.int .i64 4), .lit (.int .i64 240)]]
def laid_davenport_value_shapes {H : Type} : DataW H := .agg [.agg [.lit (.bool false), .lit (.bool false), .lit (.int .i64 0), .lit (.bool false), .lit (.bool false), .lit (.bool false)], .agg [.lit (.bool true), .lit (.bool false), .lit (.int .i64 0), .lit (.bool false), .lit (.bool false), .lit (.bool false)], .agg [.lit (.bool true), .lit (.bool false), .lit (.int .i64 1), .lit (.bool false), .lit (.bool false), .lit (.bool false)], .agg [.lit (.bool true), .lit (.bool true), .lit (.int .i64 0), .lit (.bool false), .lit (.bool false), .lit (.bool false)], .agg [.lit (.bool true), .lit (.bool false), .lit (.int .i64 0), .lit (.bool true), .lit (.bool false), .lit (.bool false)], .agg [.lit (.bool true), .lit (.bool false), .lit (.int .i64 0), .lit (.bool false), .lit (.bool false), .lit (.bool true)], .agg [.lit (.bool true), .lit (.bool false), .lit (.int .i64 0), .lit (.bool false), .lit (.bool true), .lit (.bool true)]]

/-- 'davenportlaw13.MonoidComes': WHATEVER THE INPUT: true; the input reads as it did. -/
def monoidComesSpec : ChangeSpec := { name := "monoidComes", fn := fun _ => fun
  | [d] => { results := [.lit (.bool true)], args := [d] }
  | _ => none }
def monoidComesRow : OpenClaim := { program := "ytinaecmpigenoaadoor", sum := "54c16511b5cd39b0aec241e48d0f32dad4af7ce4439fa3291d0507e8b8c24a70", func := "davenport/davenportlaw13.MonoidComes", spec := "monoidComes", inPlace := ["math/bits.Add64"], unfollowed := true, recurses := true, named := ["davenport/value.shapes", "davenport/utf.forms"], apart := false, laid := [("davenport/utf.forms", laid_davenport_utf_forms), ("davenport/value.shapes", laid_davenport_value_shapes)] }
def MonoidComesSaid : Prop := monoidComesRow.holds Tryd.pinned (OpenSpec.ofChange monoidComesSpec)

/-- ITS FALSE NEIGHBOUR: 'it returns false'. Refute it at one input. -/
def monoidComesWrong : ChangeSpec := { name := "monoidComes", fn := fun _ => fun
  | [d] => { results := [.lit (.bool false)], args := [d] }
  | _ => none }
def MonoidComesWrongFalsely : Prop := monoidComesRow.holds Tryd.pinned (OpenSpec.ofChange monoidComesWrong)

/-- 'davenportlaw13.MonoidSmall': WHATEVER THE INPUT: true; the input reads as it did. -/
def monoidSmallSpec : ChangeSpec := { name := "monoidSmall", fn := fun _ => fun
  | [d] => { results := [.lit (.bool true)], args := [d] }
  | _ => none }
def monoidSmallRow : OpenClaim := { program := "ytinaecmpigenoaadoor", sum := "54c16511b5cd39b0aec241e48d0f32dad4af7ce4439fa3291d0507e8b8c24a70", func := "davenport/davenportlaw13.MonoidSmall", spec := "monoidSmall", inPlace := ["math/bits.Add64"], unfollowed := true, recurses := true, named := ["davenport/value.shapes", "davenport/utf.forms"], apart := false, laid := [("davenport/utf.forms", laid_davenport_utf_forms), ("davenport/value.shapes", laid_davenport_value_shapes)] }
def MonoidSmallSaid : Prop := monoidSmallRow.holds Tryd.pinned (OpenSpec.ofChange monoidSmallSpec)

/-- ITS FALSE NEIGHBOUR: 'it returns false'. Refute it at one input. -/
def monoidSmallWrong : ChangeSpec := { name := "monoidSmall", fn := fun _ => fun
  | [d] => { results := [.lit (.bool false)], args := [d] }
  | _ => none }
def MonoidSmallWrongFalsely : Prop := monoidSmallRow.holds Tryd.pinned (OpenSpec.ofChange monoidSmallWrong)

/- THE SECOND FORM. 'bulk': how many values and letters a reading holds, each counted each time it is reached (what is shared counts as often as it is met; a slice's spare places count too). A statement '..UptoSaid' is the law's where the arguments, and the package variables that the reading takes, are together of bulk at most 1048576: NARROWER than '..Said'. Prove '..Said' where nothing that the law and all that it calls make is longer than what came in: it says more and counts as full. Else prove '..UptoSaid'. A law counts once. -/
mutual
def uptoBulk {H : Type} : DataW H → Nat
  | .lit (.string bytes) => bytes.length + 1
  | .lit _ => 1
  | .nil => 1
  | .ptr d => uptoBulk d + 1
  | .slice elems spare => uptoBulkAll elems + uptoBulkAll spare + 1
  | .agg parts => uptoBulkAll parts + 1
  | .iface _ d => uptoBulk d + 1
  | .map entries => uptoBulkEntries entries + 1
  | .held _ => 1
def uptoBulkAll {H : Type} : List (DataW H) → Nat
  | [] => 0
  | d :: r => uptoBulk d + uptoBulkAll r
def uptoBulkEntries {H : Type} : List (Lit × DataW H) → Nat
  | [] => 0
  | x :: r => uptoBulkEntry x + uptoBulkEntries r
def uptoBulkEntry {H : Type} : Lit × DataW H → Nat
  | (.string bytes, d) => bytes.length + uptoBulk d + 1
  | (_, d) => uptoBulk d + 1
 end
def uptoSmall : (H : Type) → List (DataW H) → Bool := fun _ ds => decide (uptoBulkAll ds ≤ 1048576)
def OpenSpec.upto (s : _root_.Go.ChangeSpec) : _root_.Go.OpenSpec := { _root_.Go.OpenSpec.ofChange s with cond := some uptoSmall }

/-- 'davenportlaw13.MonoidComes', WHERE WHAT IT READS IS OF BULK AT MOST 1048576: true; the input reads as it did. -/
def monoidComesUptoRow : OpenClaim := { program := "ytinaecmpigenoaadoor", sum := "54c16511b5cd39b0aec241e48d0f32dad4af7ce4439fa3291d0507e8b8c24a70", func := "davenport/davenportlaw13.MonoidComes", spec := "monoidComes", inPlace := ["math/bits.Add64"], unfollowed := true, recurses := true, named := ["davenport/value.shapes", "davenport/utf.forms"], apart := false, laid := [("davenport/utf.forms", laid_davenport_utf_forms), ("davenport/value.shapes", laid_davenport_value_shapes)], narrowed := true }
def MonoidComesUptoSaid : Prop := monoidComesUptoRow.holds Tryd.pinned (OpenSpec.upto monoidComesSpec)

/-- 'davenportlaw13.MonoidSmall', WHERE WHAT IT READS IS OF BULK AT MOST 1048576: true; the input reads as it did. -/
def monoidSmallUptoRow : OpenClaim := { program := "ytinaecmpigenoaadoor", sum := "54c16511b5cd39b0aec241e48d0f32dad4af7ce4439fa3291d0507e8b8c24a70", func := "davenport/davenportlaw13.MonoidSmall", spec := "monoidSmall", inPlace := ["math/bits.Add64"], unfollowed := true, recurses := true, named := ["davenport/value.shapes", "davenport/utf.forms"], apart := false, laid := [("davenport/utf.forms", laid_davenport_utf_forms), ("davenport/value.shapes", laid_davenport_value_shapes)], narrowed := true }
def MonoidSmallUptoSaid : Prop := monoidSmallUptoRow.holds Tryd.pinned (OpenSpec.upto monoidSmallSpec)

end Rows
end Go.Proofs.YtinaecmpigenoaaDoor
