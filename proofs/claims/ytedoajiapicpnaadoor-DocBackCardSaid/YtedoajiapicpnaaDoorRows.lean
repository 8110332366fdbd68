/-
  NARROWER THAN 'FOR EVERY INPUT', by the rows' own cells (each row's printed sentence says how): DocIds: laid · DocNexts: laid · DocTexts: laid · DocCodes: laid · DocBack: laid · DocGrows: laid · DocOnce: laid · DocParts: laid.
  DERIVED. THE GIVEN ROWS OF THIS SEAT. 8 by the template 'for every input the law returns true; each argument reads behind the call as it read before'; 0 by the template 'total and deterministic' (their statements: YtedoajiapicpnaaDoorTotals.lean).
  GIVEN WITH THE SEED: the statements are not yours to turn. If you find one false, say at which input.
  Laid BY PROGRAM, IN A SANDBOX (cutbox-rows.mjs): the forced cells as the released guide's own fill.sh prints them over the translation 58b04efbf048a14f… (all of the seat's roots in one cut). By AI agents, Wed Nov 11 2026. No macro, syntax, notation, axiom, sorry.
-/
import Derived.Test.YtedoajiapicpnaaDoorChecked
import GoSem.PinnedTables
import GoSem.Claim
import GoSem.ClaimJoined
import GoSem.ClaimMapViews
import Derived.JoinedTies
import Derived.KernelRfl
namespace Go.Proofs.YtedoajiapicpnaaDoor
/- THE CELL 'sum', in the pinned program and in every row, IS THE sha256 OF THE DUMP (.gsa) THAT YtedoajiapicpnaaDoorProg.lean LOADS. Nothing in Lean hashes anything: it is a label: what it is worth is what the hold of that sum in a sandbox is worth. -/
noncomputable def Tryd.pinned : Pinned := { name := "ytedoajiapicpnaadoor", sum := "58b04efbf048a14f25de07ca4ab05ce231861d7d77cbaae7e6f6b399de1917c2", checked := Tryd.checked }
namespace Rows
def none {H : Type} : Left H := { results := [], args := [] }

/- WHAT THE LISTED PACKAGE-LEVEL VARIABLES READ AS WHEN THE CALL BEGINS. Each datum BY PROGRAM (the guide's laid-datum.mjs) off the statement by which the dump's own 'gosem.cut.vars' lays the variable. In a bare row this is a premise. The card (YtedoajiapicpnaaDoorCards.lean) ties it to the program's text. -/
def laid_davenport_crc_quarters {H : Type} : DataW H := .agg [.lit (.int .u32 0), .lit (.int .u32 274646895), .lit (.int .u32 549293790), .lit (.int .u32 820201905), .lit (.int .u32 1098587580), .lit (.int .u32 1361435347), .lit (.int .u32 1640403810), .lit (.int .u32 1905808397), .lit (.int .u32 2197175160), .lit (.int .u32 2460548119), .lit (.int .u32 2722870694), .lit (.int .u32 2987750089), .lit (.int .u32 3280807620), .lit (.int .u32 3553878443), .lit (.int .u32 3811616794), .lit (.int .u32 4084100981)]
def laid_unicode_utf8_acceptRanges {H : Type} : DataW H := .agg [.agg [.lit (.int .u8 128), .lit (.int .u8 191)], .agg [.lit (.int .u8 160), .lit (.int .u8 191)], .agg [.lit (.int .u8 128), .lit (.int .u8 159)], .agg [.lit (.int .u8 144), .lit (.int .u8 191)], .agg [.lit (.int .u8 128), .lit (.int .u8 143)], .agg [.lit (.int .u8 0), .lit (.int .u8 0)], .agg [.lit (.int .u8 0), .lit (.int .u8 0)], .agg [.lit (.int .u8 0), .lit (.int .u8 0)], .agg [.lit (.int .u8 0), .lit (.int .u8 0)], .agg [.lit (.int .u8 0), .lit (.int .u8 0)], .agg [.lit (.int .u8 0), .lit (.int .u8 0)], .agg [.lit (.int .u8 0), .lit (.int .u8 0)], .agg [.lit (.int .u8 0), .lit (.int .u8 0)], .agg [.lit (.int .u8 0), .lit (.int .u8 0)], .agg [.lit (.int .u8 0), .lit (.int .u8 0)], .agg [.lit (.int .u8 0), .lit (.int .u8 0)]]
/-- One of Go's own tables, pinned by name: the form's constant. -/
def laid_unicode_CaseRanges : DataW Unit := Go.Pinned.caseRanges
/-- One of Go's own tables, pinned by name: the form's constant. -/
def laid_unicode_utf8_first : DataW Unit := Go.Pinned.utf8First

/-- 'davenportlaw19.DocIds': WHATEVER THE INPUT: true; the input reads as it did. -/
def docIdsSpec : ChangeSpec := { name := "docIds", fn := fun _ => fun
  | [d] => { results := [.lit (.bool true)], args := [d] }
  | _ => none }
def docIdsRow : OpenClaim := { program := "ytedoajiapicpnaadoor", sum := "58b04efbf048a14f25de07ca4ab05ce231861d7d77cbaae7e6f6b399de1917c2", func := "davenport/davenportlaw19.DocIds", spec := "docIds", unfollowed := true, recurses := true, named := ["davenport/crc.quarters"], apart := false, laid := [("davenport/crc.quarters", laid_davenport_crc_quarters)] }
def DocIdsSaid : Prop := docIdsRow.holds Tryd.pinned (OpenSpec.ofChange docIdsSpec)

/-- ITS FALSE NEIGHBOUR: 'it returns false'. Refute it at one input. -/
def docIdsWrong : ChangeSpec := { name := "docIds", fn := fun _ => fun
  | [d] => { results := [.lit (.bool false)], args := [d] }
  | _ => none }
def DocIdsWrongFalsely : Prop := docIdsRow.holds Tryd.pinned (OpenSpec.ofChange docIdsWrong)

/-- 'davenportlaw19.DocNexts': WHATEVER THE INPUT: true; the input reads as it did. -/
def docNextsSpec : ChangeSpec := { name := "docNexts", fn := fun _ => fun
  | [d1, d2] => { results := [.lit (.bool true)], args := [d1, d2] }
  | _ => none }
def docNextsRow : OpenClaim := { program := "ytedoajiapicpnaadoor", sum := "58b04efbf048a14f25de07ca4ab05ce231861d7d77cbaae7e6f6b399de1917c2", func := "davenport/davenportlaw19.DocNexts", spec := "docNexts", unfollowed := true, recurses := true, named := ["davenport/crc.quarters"], apart := false, laid := [("davenport/crc.quarters", laid_davenport_crc_quarters)] }
def DocNextsSaid : Prop := docNextsRow.holds Tryd.pinned (OpenSpec.ofChange docNextsSpec)

/-- ITS FALSE NEIGHBOUR: 'it returns false'. Refute it at one input. -/
def docNextsWrong : ChangeSpec := { name := "docNexts", fn := fun _ => fun
  | [d1, d2] => { results := [.lit (.bool false)], args := [d1, d2] }
  | _ => none }
def DocNextsWrongFalsely : Prop := docNextsRow.holds Tryd.pinned (OpenSpec.ofChange docNextsWrong)

/-- 'davenportlaw19.DocTexts': WHATEVER THE INPUT: true; the input reads as it did. -/
def docTextsSpec : ChangeSpec := { name := "docTexts", fn := fun _ => fun
  | [d1, d2] => { results := [.lit (.bool true)], args := [d1, d2] }
  | _ => none }
def docTextsRow : OpenClaim := { program := "ytedoajiapicpnaadoor", sum := "58b04efbf048a14f25de07ca4ab05ce231861d7d77cbaae7e6f6b399de1917c2", func := "davenport/davenportlaw19.DocTexts", spec := "docTexts", unfollowed := true, recurses := true, named := ["davenport/crc.quarters"], apart := false, laid := [("davenport/crc.quarters", laid_davenport_crc_quarters)] }
def DocTextsSaid : Prop := docTextsRow.holds Tryd.pinned (OpenSpec.ofChange docTextsSpec)

/-- ITS FALSE NEIGHBOUR: 'it returns false'. Refute it at one input. -/
def docTextsWrong : ChangeSpec := { name := "docTexts", fn := fun _ => fun
  | [d1, d2] => { results := [.lit (.bool false)], args := [d1, d2] }
  | _ => none }
def DocTextsWrongFalsely : Prop := docTextsRow.holds Tryd.pinned (OpenSpec.ofChange docTextsWrong)

/-- 'davenportlaw19.DocCodes': WHATEVER THE INPUT: true; the input reads as it did. -/
def docCodesSpec : ChangeSpec := { name := "docCodes", fn := fun _ => fun
  | [d1, d2] => { results := [.lit (.bool true)], args := [d1, d2] }
  | _ => none }
def docCodesRow : OpenClaim := { program := "ytedoajiapicpnaadoor", sum := "58b04efbf048a14f25de07ca4ab05ce231861d7d77cbaae7e6f6b399de1917c2", func := "davenport/davenportlaw19.DocCodes", spec := "docCodes", unfollowed := true, recurses := true, named := ["davenport/crc.quarters"], apart := false, laid := [("davenport/crc.quarters", laid_davenport_crc_quarters)] }
def DocCodesSaid : Prop := docCodesRow.holds Tryd.pinned (OpenSpec.ofChange docCodesSpec)

/-- ITS FALSE NEIGHBOUR: 'it returns false'. Refute it at one input. -/
def docCodesWrong : ChangeSpec := { name := "docCodes", fn := fun _ => fun
  | [d1, d2] => { results := [.lit (.bool false)], args := [d1, d2] }
  | _ => none }
def DocCodesWrongFalsely : Prop := docCodesRow.holds Tryd.pinned (OpenSpec.ofChange docCodesWrong)

/-- 'davenportlaw19.DocBack': WHATEVER THE INPUT: true; the input reads as it did. -/
def docBackSpec : ChangeSpec := { name := "docBack", fn := fun _ => fun
  | [d1, d2] => { results := [.lit (.bool true)], args := [d1, d2] }
  | _ => none }
def docBackRow : OpenClaim := { program := "ytedoajiapicpnaadoor", sum := "58b04efbf048a14f25de07ca4ab05ce231861d7d77cbaae7e6f6b399de1917c2", func := "davenport/davenportlaw19.DocBack", spec := "docBack", inPlace := ["internal/abi.NoEscape", "internal/bytealg.MakeNoZero"], unfollowed := true, recurses := true, named := ["davenport/crc.quarters", "unicode/utf8.first", "unicode/utf8.acceptRanges", "unicode.CaseRanges"], apart := false, laid := [("unicode/utf8.acceptRanges", laid_unicode_utf8_acceptRanges), ("davenport/crc.quarters", laid_davenport_crc_quarters), ("unicode.CaseRanges", laid_unicode_CaseRanges), ("unicode/utf8.first", laid_unicode_utf8_first)] }
def DocBackSaid : Prop := docBackRow.holds Tryd.pinned (OpenSpec.ofChange docBackSpec)

/-- ITS FALSE NEIGHBOUR: 'it returns false'. Refute it at one input. -/
def docBackWrong : ChangeSpec := { name := "docBack", fn := fun _ => fun
  | [d1, d2] => { results := [.lit (.bool false)], args := [d1, d2] }
  | _ => none }
def DocBackWrongFalsely : Prop := docBackRow.holds Tryd.pinned (OpenSpec.ofChange docBackWrong)

/-- 'davenportlaw19.DocGrows': WHATEVER THE INPUT: true; the input reads as it did. -/
def docGrowsSpec : ChangeSpec := { name := "docGrows", fn := fun _ => fun
  | [d1, d2, d3, d4] => { results := [.lit (.bool true)], args := [d1, d2, d3, d4] }
  | _ => none }
def docGrowsRow : OpenClaim := { program := "ytedoajiapicpnaadoor", sum := "58b04efbf048a14f25de07ca4ab05ce231861d7d77cbaae7e6f6b399de1917c2", func := "davenport/davenportlaw19.DocGrows", spec := "docGrows", unfollowed := true, recurses := true, named := ["davenport/crc.quarters"], apart := false, laid := [("davenport/crc.quarters", laid_davenport_crc_quarters)] }
def DocGrowsSaid : Prop := docGrowsRow.holds Tryd.pinned (OpenSpec.ofChange docGrowsSpec)

/-- ITS FALSE NEIGHBOUR: 'it returns false'. Refute it at one input. -/
def docGrowsWrong : ChangeSpec := { name := "docGrows", fn := fun _ => fun
  | [d1, d2, d3, d4] => { results := [.lit (.bool false)], args := [d1, d2, d3, d4] }
  | _ => none }
def DocGrowsWrongFalsely : Prop := docGrowsRow.holds Tryd.pinned (OpenSpec.ofChange docGrowsWrong)

/-- 'davenportlaw19.DocOnce': WHATEVER THE INPUT: true; the input reads as it did. -/
def docOnceSpec : ChangeSpec := { name := "docOnce", fn := fun _ => fun
  | [d1, d2] => { results := [.lit (.bool true)], args := [d1, d2] }
  | _ => none }
def docOnceRow : OpenClaim := { program := "ytedoajiapicpnaadoor", sum := "58b04efbf048a14f25de07ca4ab05ce231861d7d77cbaae7e6f6b399de1917c2", func := "davenport/davenportlaw19.DocOnce", spec := "docOnce", unfollowed := true, recurses := true, named := ["davenport/crc.quarters"], apart := false, laid := [("davenport/crc.quarters", laid_davenport_crc_quarters)] }
def DocOnceSaid : Prop := docOnceRow.holds Tryd.pinned (OpenSpec.ofChange docOnceSpec)

/-- ITS FALSE NEIGHBOUR: 'it returns false'. Refute it at one input. -/
def docOnceWrong : ChangeSpec := { name := "docOnce", fn := fun _ => fun
  | [d1, d2] => { results := [.lit (.bool false)], args := [d1, d2] }
  | _ => none }
def DocOnceWrongFalsely : Prop := docOnceRow.holds Tryd.pinned (OpenSpec.ofChange docOnceWrong)

/-- 'davenportlaw19.DocParts': WHATEVER THE INPUT: true; the input reads as it did. -/
def docPartsSpec : ChangeSpec := { name := "docParts", fn := fun _ => fun
  | [d1, d2, d3] => { results := [.lit (.bool true)], args := [d1, d2, d3] }
  | _ => none }
def docPartsRow : OpenClaim := { program := "ytedoajiapicpnaadoor", sum := "58b04efbf048a14f25de07ca4ab05ce231861d7d77cbaae7e6f6b399de1917c2", func := "davenport/davenportlaw19.DocParts", spec := "docParts", unfollowed := true, recurses := true, named := ["davenport/crc.quarters"], apart := false, laid := [("davenport/crc.quarters", laid_davenport_crc_quarters)] }
def DocPartsSaid : Prop := docPartsRow.holds Tryd.pinned (OpenSpec.ofChange docPartsSpec)

/-- ITS FALSE NEIGHBOUR: 'it returns false'. Refute it at one input. -/
def docPartsWrong : ChangeSpec := { name := "docParts", fn := fun _ => fun
  | [d1, d2, d3] => { results := [.lit (.bool false)], args := [d1, d2, d3] }
  | _ => none }
def DocPartsWrongFalsely : Prop := docPartsRow.holds Tryd.pinned (OpenSpec.ofChange docPartsWrong)

/- THE SECOND FORM. 'bulk': how many values and letters a reading holds, each counted each time it is reached (what is shared counts as often as it is met; a slice's spare places count too). A statement '..UptoSaid' is the law's where the arguments, and the package variables that the reading takes, are together of bulk at most 1048576: NARROWER than '..Said'. Prove '..Said' where nothing that the law and all that it calls make is longer than what came in: it says more and counts as full. Else prove '..UptoSaid'. A law counts once. -/
mutual
def uptoBulk {H : Type} : DataW H → Nat
  | .lit (.string bytes) => bytes.length + 1
  | .lit _ => 1
  | .nil => 1
  | .ptr d => uptoBulk d + 1
  | .slice elems spare => uptoBulkAll elems + uptoBulkAll spare + 1
  | .agg parts => uptoBulkAll parts + 1
  | .iface _ d => uptoBulk d + 1
  | .map entries => uptoBulkEntries entries + 1
  | .held _ => 1
def uptoBulkAll {H : Type} : List (DataW H) → Nat
  | [] => 0
  | d :: r => uptoBulk d + uptoBulkAll r
def uptoBulkEntries {H : Type} : List (Lit × DataW H) → Nat
  | [] => 0
  | x :: r => uptoBulkEntry x + uptoBulkEntries r
def uptoBulkEntry {H : Type} : Lit × DataW H → Nat
  | (.string bytes, d) => bytes.length + uptoBulk d + 1
  | (_, d) => uptoBulk d + 1
 end
def uptoSmall : (H : Type) → List (DataW H) → Bool := fun _ ds => decide (uptoBulkAll ds ≤ 1048576)
def OpenSpec.upto (s : _root_.Go.ChangeSpec) : _root_.Go.OpenSpec := { _root_.Go.OpenSpec.ofChange s with cond := some uptoSmall }

/-- 'davenportlaw19.DocIds', WHERE WHAT IT READS IS OF BULK AT MOST 1048576: true; the input reads as it did. -/
def docIdsUptoRow : OpenClaim := { program := "ytedoajiapicpnaadoor", sum := "58b04efbf048a14f25de07ca4ab05ce231861d7d77cbaae7e6f6b399de1917c2", func := "davenport/davenportlaw19.DocIds", spec := "docIds", unfollowed := true, recurses := true, named := ["davenport/crc.quarters"], apart := false, laid := [("davenport/crc.quarters", laid_davenport_crc_quarters)], narrowed := true }
def DocIdsUptoSaid : Prop := docIdsUptoRow.holds Tryd.pinned (OpenSpec.upto docIdsSpec)

/-- 'davenportlaw19.DocNexts', WHERE WHAT IT READS IS OF BULK AT MOST 1048576: true; the input reads as it did. -/
def docNextsUptoRow : OpenClaim := { program := "ytedoajiapicpnaadoor", sum := "58b04efbf048a14f25de07ca4ab05ce231861d7d77cbaae7e6f6b399de1917c2", func := "davenport/davenportlaw19.DocNexts", spec := "docNexts", unfollowed := true, recurses := true, named := ["davenport/crc.quarters"], apart := false, laid := [("davenport/crc.quarters", laid_davenport_crc_quarters)], narrowed := true }
def DocNextsUptoSaid : Prop := docNextsUptoRow.holds Tryd.pinned (OpenSpec.upto docNextsSpec)

/-- 'davenportlaw19.DocTexts', WHERE WHAT IT READS IS OF BULK AT MOST 1048576: true; the input reads as it did. -/
def docTextsUptoRow : OpenClaim := { program := "ytedoajiapicpnaadoor", sum := "58b04efbf048a14f25de07ca4ab05ce231861d7d77cbaae7e6f6b399de1917c2", func := "davenport/davenportlaw19.DocTexts", spec := "docTexts", unfollowed := true, recurses := true, named := ["davenport/crc.quarters"], apart := false, laid := [("davenport/crc.quarters", laid_davenport_crc_quarters)], narrowed := true }
def DocTextsUptoSaid : Prop := docTextsUptoRow.holds Tryd.pinned (OpenSpec.upto docTextsSpec)

/-- 'davenportlaw19.DocCodes', WHERE WHAT IT READS IS OF BULK AT MOST 1048576: true; the input reads as it did. -/
def docCodesUptoRow : OpenClaim := { program := "ytedoajiapicpnaadoor", sum := "58b04efbf048a14f25de07ca4ab05ce231861d7d77cbaae7e6f6b399de1917c2", func := "davenport/davenportlaw19.DocCodes", spec := "docCodes", unfollowed := true, recurses := true, named := ["davenport/crc.quarters"], apart := false, laid := [("davenport/crc.quarters", laid_davenport_crc_quarters)], narrowed := true }
def DocCodesUptoSaid : Prop := docCodesUptoRow.holds Tryd.pinned (OpenSpec.upto docCodesSpec)

/-- 'davenportlaw19.DocBack', WHERE WHAT IT READS IS OF BULK AT MOST 1048576: true; the input reads as it did. -/
def docBackUptoRow : OpenClaim := { program := "ytedoajiapicpnaadoor", sum := "58b04efbf048a14f25de07ca4ab05ce231861d7d77cbaae7e6f6b399de1917c2", func := "davenport/davenportlaw19.DocBack", spec := "docBack", inPlace := ["internal/abi.NoEscape", "internal/bytealg.MakeNoZero"], unfollowed := true, recurses := true, named := ["davenport/crc.quarters", "unicode/utf8.first", "unicode/utf8.acceptRanges", "unicode.CaseRanges"], apart := false, laid := [("unicode/utf8.acceptRanges", laid_unicode_utf8_acceptRanges), ("davenport/crc.quarters", laid_davenport_crc_quarters), ("unicode.CaseRanges", laid_unicode_CaseRanges), ("unicode/utf8.first", laid_unicode_utf8_first)], narrowed := true }
def DocBackUptoSaid : Prop := docBackUptoRow.holds Tryd.pinned (OpenSpec.upto docBackSpec)

/-- 'davenportlaw19.DocGrows', WHERE WHAT IT READS IS OF BULK AT MOST 1048576: true; the input reads as it did. -/
def docGrowsUptoRow : OpenClaim := { program := "ytedoajiapicpnaadoor", sum := "58b04efbf048a14f25de07ca4ab05ce231861d7d77cbaae7e6f6b399de1917c2", func := "davenport/davenportlaw19.DocGrows", spec := "docGrows", unfollowed := true, recurses := true, named := ["davenport/crc.quarters"], apart := false, laid := [("davenport/crc.quarters", laid_davenport_crc_quarters)], narrowed := true }
def DocGrowsUptoSaid : Prop := docGrowsUptoRow.holds Tryd.pinned (OpenSpec.upto docGrowsSpec)

/-- 'davenportlaw19.DocOnce', WHERE WHAT IT READS IS OF BULK AT MOST 1048576: true; the input reads as it did. -/
def docOnceUptoRow : OpenClaim := { program := "ytedoajiapicpnaadoor", sum := "58b04efbf048a14f25de07ca4ab05ce231861d7d77cbaae7e6f6b399de1917c2", func := "davenport/davenportlaw19.DocOnce", spec := "docOnce", unfollowed := true, recurses := true, named := ["davenport/crc.quarters"], apart := false, laid := [("davenport/crc.quarters", laid_davenport_crc_quarters)], narrowed := true }
def DocOnceUptoSaid : Prop := docOnceUptoRow.holds Tryd.pinned (OpenSpec.upto docOnceSpec)

/-- 'davenportlaw19.DocParts', WHERE WHAT IT READS IS OF BULK AT MOST 1048576: true; the input reads as it did. -/
def docPartsUptoRow : OpenClaim := { program := "ytedoajiapicpnaadoor", sum := "58b04efbf048a14f25de07ca4ab05ce231861d7d77cbaae7e6f6b399de1917c2", func := "davenport/davenportlaw19.DocParts", spec := "docParts", unfollowed := true, recurses := true, named := ["davenport/crc.quarters"], apart := false, laid := [("davenport/crc.quarters", laid_davenport_crc_quarters)], narrowed := true }
def DocPartsUptoSaid : Prop := docPartsUptoRow.holds Tryd.pinned (OpenSpec.upto docPartsSpec)

end Rows
end Go.Proofs.YtedoajiapicpnaaDoor
