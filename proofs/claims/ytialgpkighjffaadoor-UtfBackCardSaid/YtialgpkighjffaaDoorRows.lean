/-
  NARROWER THAN 'FOR EVERY INPUT', by the rows' own cells (each row's printed sentence says how): UtfPuts: laid · UtfNexts: laid · UtfTexts: laid · UtfBack: laid · UtfAlone: laid · UtfOrders: laid · UtfJoins: laid.
  DERIVED. THE GIVEN ROWS OF THIS SEAT. 7 by the template 'for every input the law returns true; each argument reads behind the call as it read before'; 0 by the template 'total and deterministic' (their statements: YtialgpkighjffaaDoorTotals.lean).
  GIVEN WITH THE SEED: the statements are not yours to turn. If you find one false, say at which input.
  Laid BY PROGRAM, IN A SANDBOX (cutbox-rows.mjs): the forced cells as the released guide's own fill.sh prints them over the translation 90ba06ca375c4065… (all of the seat's roots in one cut). By AI agents, Wed Nov 11 2026. No macro, syntax, notation, axiom, sorry.
-/
import Derived.Test.YtialgpkighjffaaDoorChecked
import GoSem.Claim
import GoSem.ClaimJoined
import GoSem.ClaimMapViews
import Derived.JoinedTies
import Derived.KernelRfl
namespace Go.Proofs.YtialgpkighjffaaDoor
/- THE CELL 'sum', in the pinned program and in every row, IS THE sha256 OF THE DUMP (.gsa) THAT YtialgpkighjffaaDoorProg.lean LOADS. Nothing in Lean hashes anything: it is a label: what it is worth is what the hold of that sum in a sandbox is worth. -/
noncomputable def Tryd.pinned : Pinned := { name := "ytialgpkighjffaadoor", sum := "90ba06ca375c40653666d39a75018e9b4d7c628621df74f63fb4dc603f9ac588", checked := Tryd.checked }
namespace Rows
def none {H : Type} : Left H := { results := [], args := [] }

/- WHAT THE LISTED PACKAGE-LEVEL VARIABLES READ AS WHEN THE CALL BEGINS. Each datum BY PROGRAM (the guide's laid-datum.mjs) off the statement by which the dump's own 'gosem.cut.vars' lays the variable. In a bare row this is a premise. The card (YtialgpkighjffaaDoorCards.lean) ties it to the program's text. -/
def laid_davenport_utf_forms {H : Type} : DataW H := .agg [.agg [.lit (.int .i64 0), .lit (.int .i64 127), .lit (.int .i64 1), .lit (.int .i64 0)], .agg [.lit (.int .i64 128), .lit (.int .i64 2047), .lit (.int .i64 2), .lit (.int .i64 192)], .agg [.lit (.int .i64 2048), .lit (.int .i64 65535), .lit (.int .i64 3), .lit (.int .i64 224)], .agg [.lit (.int .i64 65536), .lit (.int .i64 1114111), .lit (.int .i64 4), .lit (.int .i64 240)]]

/-- 'davenportlaw01.UtfPuts': WHATEVER THE INPUT: true; the input reads as it did. -/
def utfPutsSpec : ChangeSpec := { name := "utfPuts", fn := fun _ => fun
  | [d1, d2] => { results := [.lit (.bool true)], args := [d1, d2] }
  | _ => none }
def utfPutsRow : OpenClaim := { program := "ytialgpkighjffaadoor", sum := "90ba06ca375c40653666d39a75018e9b4d7c628621df74f63fb4dc603f9ac588", func := "davenport/davenportlaw01.UtfPuts", spec := "utfPuts", unfollowed := true, recurses := true, named := ["davenport/utf.forms"], apart := false, laid := [("davenport/utf.forms", laid_davenport_utf_forms)] }
def UtfPutsSaid : Prop := utfPutsRow.holds Tryd.pinned (OpenSpec.ofChange utfPutsSpec)

/-- ITS FALSE NEIGHBOUR: 'it returns false'. Refute it at one input. -/
def utfPutsWrong : ChangeSpec := { name := "utfPuts", fn := fun _ => fun
  | [d1, d2] => { results := [.lit (.bool false)], args := [d1, d2] }
  | _ => none }
def UtfPutsWrongFalsely : Prop := utfPutsRow.holds Tryd.pinned (OpenSpec.ofChange utfPutsWrong)

/-- 'davenportlaw01.UtfNexts': WHATEVER THE INPUT: true; the input reads as it did. -/
def utfNextsSpec : ChangeSpec := { name := "utfNexts", fn := fun _ => fun
  | [d1, d2] => { results := [.lit (.bool true)], args := [d1, d2] }
  | _ => none }
def utfNextsRow : OpenClaim := { program := "ytialgpkighjffaadoor", sum := "90ba06ca375c40653666d39a75018e9b4d7c628621df74f63fb4dc603f9ac588", func := "davenport/davenportlaw01.UtfNexts", spec := "utfNexts", unfollowed := true, recurses := true, named := ["davenport/utf.forms"], apart := false, laid := [("davenport/utf.forms", laid_davenport_utf_forms)] }
def UtfNextsSaid : Prop := utfNextsRow.holds Tryd.pinned (OpenSpec.ofChange utfNextsSpec)

/-- ITS FALSE NEIGHBOUR: 'it returns false'. Refute it at one input. -/
def utfNextsWrong : ChangeSpec := { name := "utfNexts", fn := fun _ => fun
  | [d1, d2] => { results := [.lit (.bool false)], args := [d1, d2] }
  | _ => none }
def UtfNextsWrongFalsely : Prop := utfNextsRow.holds Tryd.pinned (OpenSpec.ofChange utfNextsWrong)

/-- 'davenportlaw01.UtfTexts': WHATEVER THE INPUT: true; the input reads as it did. -/
def utfTextsSpec : ChangeSpec := { name := "utfTexts", fn := fun _ => fun
  | [d1, d2] => { results := [.lit (.bool true)], args := [d1, d2] }
  | _ => none }
def utfTextsRow : OpenClaim := { program := "ytialgpkighjffaadoor", sum := "90ba06ca375c40653666d39a75018e9b4d7c628621df74f63fb4dc603f9ac588", func := "davenport/davenportlaw01.UtfTexts", spec := "utfTexts", unfollowed := true, recurses := true, named := ["davenport/utf.forms"], apart := false, laid := [("davenport/utf.forms", laid_davenport_utf_forms)] }
def UtfTextsSaid : Prop := utfTextsRow.holds Tryd.pinned (OpenSpec.ofChange utfTextsSpec)

/-- ITS FALSE NEIGHBOUR: 'it returns false'. Refute it at one input. -/
def utfTextsWrong : ChangeSpec := { name := "utfTexts", fn := fun _ => fun
  | [d1, d2] => { results := [.lit (.bool false)], args := [d1, d2] }
  | _ => none }
def UtfTextsWrongFalsely : Prop := utfTextsRow.holds Tryd.pinned (OpenSpec.ofChange utfTextsWrong)

/-- 'davenportlaw01.UtfBack': WHATEVER THE INPUT: true; the input reads as it did. -/
def utfBackSpec : ChangeSpec := { name := "utfBack", fn := fun _ => fun
  | [d] => { results := [.lit (.bool true)], args := [d] }
  | _ => none }
def utfBackRow : OpenClaim := { program := "ytialgpkighjffaadoor", sum := "90ba06ca375c40653666d39a75018e9b4d7c628621df74f63fb4dc603f9ac588", func := "davenport/davenportlaw01.UtfBack", spec := "utfBack", unfollowed := true, recurses := true, named := ["davenport/utf.forms"], apart := false, laid := [("davenport/utf.forms", laid_davenport_utf_forms)] }
def UtfBackSaid : Prop := utfBackRow.holds Tryd.pinned (OpenSpec.ofChange utfBackSpec)

/-- ITS FALSE NEIGHBOUR: 'it returns false'. Refute it at one input. -/
def utfBackWrong : ChangeSpec := { name := "utfBack", fn := fun _ => fun
  | [d] => { results := [.lit (.bool false)], args := [d] }
  | _ => none }
def UtfBackWrongFalsely : Prop := utfBackRow.holds Tryd.pinned (OpenSpec.ofChange utfBackWrong)

/-- 'davenportlaw01.UtfAlone': WHATEVER THE INPUT: true; the input reads as it did. -/
def utfAloneSpec : ChangeSpec := { name := "utfAlone", fn := fun _ => fun
  | [d1, d2] => { results := [.lit (.bool true)], args := [d1, d2] }
  | _ => none }
def utfAloneRow : OpenClaim := { program := "ytialgpkighjffaadoor", sum := "90ba06ca375c40653666d39a75018e9b4d7c628621df74f63fb4dc603f9ac588", func := "davenport/davenportlaw01.UtfAlone", spec := "utfAlone", unfollowed := true, recurses := true, named := ["davenport/utf.forms"], apart := false, laid := [("davenport/utf.forms", laid_davenport_utf_forms)] }
def UtfAloneSaid : Prop := utfAloneRow.holds Tryd.pinned (OpenSpec.ofChange utfAloneSpec)

/-- ITS FALSE NEIGHBOUR: 'it returns false'. Refute it at one input. -/
def utfAloneWrong : ChangeSpec := { name := "utfAlone", fn := fun _ => fun
  | [d1, d2] => { results := [.lit (.bool false)], args := [d1, d2] }
  | _ => none }
def UtfAloneWrongFalsely : Prop := utfAloneRow.holds Tryd.pinned (OpenSpec.ofChange utfAloneWrong)

/-- 'davenportlaw01.UtfOrders': WHATEVER THE INPUT: true; the input reads as it did. -/
def utfOrdersSpec : ChangeSpec := { name := "utfOrders", fn := fun _ => fun
  | [d1, d2] => { results := [.lit (.bool true)], args := [d1, d2] }
  | _ => none }
def utfOrdersRow : OpenClaim := { program := "ytialgpkighjffaadoor", sum := "90ba06ca375c40653666d39a75018e9b4d7c628621df74f63fb4dc603f9ac588", func := "davenport/davenportlaw01.UtfOrders", spec := "utfOrders", unfollowed := true, recurses := true, named := ["davenport/utf.forms"], apart := false, laid := [("davenport/utf.forms", laid_davenport_utf_forms)] }
def UtfOrdersSaid : Prop := utfOrdersRow.holds Tryd.pinned (OpenSpec.ofChange utfOrdersSpec)

/-- ITS FALSE NEIGHBOUR: 'it returns false'. Refute it at one input. -/
def utfOrdersWrong : ChangeSpec := { name := "utfOrders", fn := fun _ => fun
  | [d1, d2] => { results := [.lit (.bool false)], args := [d1, d2] }
  | _ => none }
def UtfOrdersWrongFalsely : Prop := utfOrdersRow.holds Tryd.pinned (OpenSpec.ofChange utfOrdersWrong)

/-- 'davenportlaw01.UtfJoins': WHATEVER THE INPUT: true; the input reads as it did. -/
def utfJoinsSpec : ChangeSpec := { name := "utfJoins", fn := fun _ => fun
  | [d1, d2] => { results := [.lit (.bool true)], args := [d1, d2] }
  | _ => none }
def utfJoinsRow : OpenClaim := { program := "ytialgpkighjffaadoor", sum := "90ba06ca375c40653666d39a75018e9b4d7c628621df74f63fb4dc603f9ac588", func := "davenport/davenportlaw01.UtfJoins", spec := "utfJoins", unfollowed := true, recurses := true, named := ["davenport/utf.forms"], apart := false, laid := [("davenport/utf.forms", laid_davenport_utf_forms)] }
def UtfJoinsSaid : Prop := utfJoinsRow.holds Tryd.pinned (OpenSpec.ofChange utfJoinsSpec)

/-- ITS FALSE NEIGHBOUR: 'it returns false'. Refute it at one input. -/
def utfJoinsWrong : ChangeSpec := { name := "utfJoins", fn := fun _ => fun
  | [d1, d2] => { results := [.lit (.bool false)], args := [d1, d2] }
  | _ => none }
def UtfJoinsWrongFalsely : Prop := utfJoinsRow.holds Tryd.pinned (OpenSpec.ofChange utfJoinsWrong)

/- THE SECOND FORM. 'bulk': how many values and letters a reading holds, each counted each time it is reached (what is shared counts as often as it is met; a slice's spare places count too). A statement '..UptoSaid' is the law's where the arguments, and the package variables that the reading takes, are together of bulk at most 1048576: NARROWER than '..Said'. Prove '..Said' where nothing that the law and all that it calls make is longer than what came in: it says more and counts as full. Else prove '..UptoSaid'. A law counts once. -/
mutual
def uptoBulk {H : Type} : DataW H → Nat
  | .lit (.string bytes) => bytes.length + 1
  | .lit _ => 1
  | .nil => 1
  | .ptr d => uptoBulk d + 1
  | .slice elems spare => uptoBulkAll elems + uptoBulkAll spare + 1
  | .agg parts => uptoBulkAll parts + 1
  | .iface _ d => uptoBulk d + 1
  | .map entries => uptoBulkEntries entries + 1
  | .held _ => 1
def uptoBulkAll {H : Type} : List (DataW H) → Nat
  | [] => 0
  | d :: r => uptoBulk d + uptoBulkAll r
def uptoBulkEntries {H : Type} : List (Lit × DataW H) → Nat
  | [] => 0
  | x :: r => uptoBulkEntry x + uptoBulkEntries r
def uptoBulkEntry {H : Type} : Lit × DataW H → Nat
  | (.string bytes, d) => bytes.length + uptoBulk d + 1
  | (_, d) => uptoBulk d + 1
 end
def uptoSmall : (H : Type) → List (DataW H) → Bool := fun _ ds => decide (uptoBulkAll ds ≤ 1048576)
def OpenSpec.upto (s : _root_.Go.ChangeSpec) : _root_.Go.OpenSpec := { _root_.Go.OpenSpec.ofChange s with cond := some uptoSmall }

/-- 'davenportlaw01.UtfPuts', WHERE WHAT IT READS IS OF BULK AT MOST 1048576: true; the input reads as it did. -/
def utfPutsUptoRow : OpenClaim := { program := "ytialgpkighjffaadoor", sum := "90ba06ca375c40653666d39a75018e9b4d7c628621df74f63fb4dc603f9ac588", func := "davenport/davenportlaw01.UtfPuts", spec := "utfPuts", unfollowed := true, recurses := true, named := ["davenport/utf.forms"], apart := false, laid := [("davenport/utf.forms", laid_davenport_utf_forms)], narrowed := true }
def UtfPutsUptoSaid : Prop := utfPutsUptoRow.holds Tryd.pinned (OpenSpec.upto utfPutsSpec)

/-- 'davenportlaw01.UtfNexts', WHERE WHAT IT READS IS OF BULK AT MOST 1048576: true; the input reads as it did. -/
def utfNextsUptoRow : OpenClaim := { program := "ytialgpkighjffaadoor", sum := "90ba06ca375c40653666d39a75018e9b4d7c628621df74f63fb4dc603f9ac588", func := "davenport/davenportlaw01.UtfNexts", spec := "utfNexts", unfollowed := true, recurses := true, named := ["davenport/utf.forms"], apart := false, laid := [("davenport/utf.forms", laid_davenport_utf_forms)], narrowed := true }
def UtfNextsUptoSaid : Prop := utfNextsUptoRow.holds Tryd.pinned (OpenSpec.upto utfNextsSpec)

/-- 'davenportlaw01.UtfTexts', WHERE WHAT IT READS IS OF BULK AT MOST 1048576: true; the input reads as it did. -/
def utfTextsUptoRow : OpenClaim := { program := "ytialgpkighjffaadoor", sum := "90ba06ca375c40653666d39a75018e9b4d7c628621df74f63fb4dc603f9ac588", func := "davenport/davenportlaw01.UtfTexts", spec := "utfTexts", unfollowed := true, recurses := true, named := ["davenport/utf.forms"], apart := false, laid := [("davenport/utf.forms", laid_davenport_utf_forms)], narrowed := true }
def UtfTextsUptoSaid : Prop := utfTextsUptoRow.holds Tryd.pinned (OpenSpec.upto utfTextsSpec)

/-- 'davenportlaw01.UtfBack', WHERE WHAT IT READS IS OF BULK AT MOST 1048576: true; the input reads as it did. -/
def utfBackUptoRow : OpenClaim := { program := "ytialgpkighjffaadoor", sum := "90ba06ca375c40653666d39a75018e9b4d7c628621df74f63fb4dc603f9ac588", func := "davenport/davenportlaw01.UtfBack", spec := "utfBack", unfollowed := true, recurses := true, named := ["davenport/utf.forms"], apart := false, laid := [("davenport/utf.forms", laid_davenport_utf_forms)], narrowed := true }
def UtfBackUptoSaid : Prop := utfBackUptoRow.holds Tryd.pinned (OpenSpec.upto utfBackSpec)

/-- 'davenportlaw01.UtfAlone', WHERE WHAT IT READS IS OF BULK AT MOST 1048576: true; the input reads as it did. -/
def utfAloneUptoRow : OpenClaim := { program := "ytialgpkighjffaadoor", sum := "90ba06ca375c40653666d39a75018e9b4d7c628621df74f63fb4dc603f9ac588", func := "davenport/davenportlaw01.UtfAlone", spec := "utfAlone", unfollowed := true, recurses := true, named := ["davenport/utf.forms"], apart := false, laid := [("davenport/utf.forms", laid_davenport_utf_forms)], narrowed := true }
def UtfAloneUptoSaid : Prop := utfAloneUptoRow.holds Tryd.pinned (OpenSpec.upto utfAloneSpec)

/-- 'davenportlaw01.UtfOrders', WHERE WHAT IT READS IS OF BULK AT MOST 1048576: true; the input reads as it did. -/
def utfOrdersUptoRow : OpenClaim := { program := "ytialgpkighjffaadoor", sum := "90ba06ca375c40653666d39a75018e9b4d7c628621df74f63fb4dc603f9ac588", func := "davenport/davenportlaw01.UtfOrders", spec := "utfOrders", unfollowed := true, recurses := true, named := ["davenport/utf.forms"], apart := false, laid := [("davenport/utf.forms", laid_davenport_utf_forms)], narrowed := true }
def UtfOrdersUptoSaid : Prop := utfOrdersUptoRow.holds Tryd.pinned (OpenSpec.upto utfOrdersSpec)

/-- 'davenportlaw01.UtfJoins', WHERE WHAT IT READS IS OF BULK AT MOST 1048576: true; the input reads as it did. -/
def utfJoinsUptoRow : OpenClaim := { program := "ytialgpkighjffaadoor", sum := "90ba06ca375c40653666d39a75018e9b4d7c628621df74f63fb4dc603f9ac588", func := "davenport/davenportlaw01.UtfJoins", spec := "utfJoins", unfollowed := true, recurses := true, named := ["davenport/utf.forms"], apart := false, laid := [("davenport/utf.forms", laid_davenport_utf_forms)], narrowed := true }
def UtfJoinsUptoSaid : Prop := utfJoinsUptoRow.holds Tryd.pinned (OpenSpec.upto utfJoinsSpec)

end Rows
end Go.Proofs.YtialgpkighjffaaDoor
