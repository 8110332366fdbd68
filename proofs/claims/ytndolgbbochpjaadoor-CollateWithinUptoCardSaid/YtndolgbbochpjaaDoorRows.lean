/-
  NARROWER THAN 'FOR EVERY INPUT', by the rows' own cells (each row's printed sentence says how): CollateCompares: loops, laid · CollateSorts: loops, laid · CollateFronts: loops, laid · CollateOrders: loops, laid · CollateWithin: loops, laid · CollateStands: loops, laid · CollateCuts: loops, laid.
  DERIVED. THE GIVEN ROWS OF THIS SEAT. 7 by the template 'for every input the law returns true; each argument reads behind the call as it read before'; 0 by the template 'total and deterministic' (their statements: YtndolgbbochpjaaDoorTotals.lean).
  GIVEN WITH THE SEED: the statements are not yours to turn. If you find one false, say at which input.
  Laid BY PROGRAM, IN A SANDBOX (cutbox-rows.mjs): the forced cells as the released guide's own fill.sh prints them over the translation 0b4e57da06faaa44… (all of the seat's roots in one cut). By AI agents, Wed Nov 11 2026. No macro, syntax, notation, axiom, sorry.
-/
import Derived.Test.YtndolgbbochpjaaDoorChecked
import GoSem.Claim
import GoSem.ClaimJoined
import GoSem.ClaimMapViews
import Derived.JoinedTies
import Derived.KernelRfl
namespace Go.Proofs.YtndolgbbochpjaaDoor
/- THE CELL 'sum', in the pinned program and in every row, IS THE sha256 OF THE DUMP (.gsa) THAT YtndolgbbochpjaaDoorProg.lean LOADS. Nothing in Lean hashes anything: it is a label: what it is worth is what the hold of that sum in a sandbox is worth. -/
noncomputable def Tryd.pinned : Pinned := { name := "ytndolgbbochpjaadoor", sum := "0b4e57da06faaa44ee6d56621666b4a8cb9822afb1ab0d98bda90bbd27c51813", checked := Tryd.checked }
namespace Rows
def none {H : Type} : Left H := { results := [], args := [] }

/- WHAT THE LISTED PACKAGE-LEVEL VARIABLES READ AS WHEN THE CALL BEGINS. Each datum BY PROGRAM (the guide's laid-datum.mjs) off the statement by which the dump's own 'gosem.cut.vars' lays the variable. In a bare row this is a premise. The card (YtndolgbbochpjaaDoorCards.lean) ties it to the program's text. -/
def laid_davenport_utf_forms {H : Type} : DataW H := .agg [.agg [.lit (.int .i64 0), .lit (.int .i64 127), .lit (.int .i64 1), .lit (.int .i64 0)], .agg [.lit (.int .i64 128), .lit (.int .i64 2047), .lit (.int .i64 2), .lit (.int .i64 192)], .agg [.lit (.int .i64 2048), .lit (.int .i64 65535), .lit (.int .i64 3), .lit (.int .i64 224)], .agg [.lit (.int .i64 65536), .lit (.int .i64 1114111), .lit (.int .i64 4), .lit (.int .i64 240)]]
def laid_davenport_value_shapes {H : Type} : DataW H := .agg [.agg [.lit (.bool false), .lit (.bool false), .lit (.int .i64 0), .lit (.bool false), .lit (.bool false), .lit (.bool false)], .agg [.lit (.bool true), .lit (.bool false), .lit (.int .i64 0), .lit (.bool false), .lit (.bool false), .lit (.bool false)], .agg [.lit (.bool true), .lit (.bool false), .lit (.int .i64 1), .lit (.bool false), .lit (.bool false), .lit (.bool false)], .agg [.lit (.bool true), .lit (.bool true), .lit (.int .i64 0), .lit (.bool false), .lit (.bool false), .lit (.bool false)], .agg [.lit (.bool true), .lit (.bool false), .lit (.int .i64 0), .lit (.bool true), .lit (.bool false), .lit (.bool false)], .agg [.lit (.bool true), .lit (.bool false), .lit (.int .i64 0), .lit (.bool false), .lit (.bool false), .lit (.bool true)], .agg [.lit (.bool true), .lit (.bool false), .lit (.int .i64 0), .lit (.bool false), .lit (.bool true), .lit (.bool true)]]
def laid_davenport_collate_ranks {H : Type} : DataW H := .agg [.lit (.int .i64 0), .lit (.int .i64 1), .lit (.int .i64 2), .lit (.int .i64 4), .lit (.int .i64 5), .lit (.int .i64 6), .lit (.int .i64 7)]

/-- 'davenportlaw07.CollateCompares': WHATEVER THE INPUT: true; the input reads as it did. -/
def collateComparesSpec : ChangeSpec := { name := "collateCompares", fn := fun _ => fun
  | [d1, d2] => { results := [.lit (.bool true)], args := [d1, d2] }
  | _ => none }
def collateComparesRow : OpenClaim := { program := "ytndolgbbochpjaadoor", sum := "0b4e57da06faaa44ee6d56621666b4a8cb9822afb1ab0d98bda90bbd27c51813", func := "davenport/davenportlaw07.CollateCompares", spec := "collateCompares", unfollowed := true, recurses := true, named := ["davenport/collate.ranks", "davenport/value.shapes", "davenport/utf.forms"], loops := true, apart := false, laid := [("davenport/utf.forms", laid_davenport_utf_forms), ("davenport/value.shapes", laid_davenport_value_shapes), ("davenport/collate.ranks", laid_davenport_collate_ranks)] }
def CollateComparesSaid : Prop := collateComparesRow.holds Tryd.pinned (OpenSpec.ofChange collateComparesSpec)

/-- ITS FALSE NEIGHBOUR: 'it returns false'. Refute it at one input. -/
def collateComparesWrong : ChangeSpec := { name := "collateCompares", fn := fun _ => fun
  | [d1, d2] => { results := [.lit (.bool false)], args := [d1, d2] }
  | _ => none }
def CollateComparesWrongFalsely : Prop := collateComparesRow.holds Tryd.pinned (OpenSpec.ofChange collateComparesWrong)

/-- 'davenportlaw07.CollateSorts': WHATEVER THE INPUT: true; the input reads as it did. -/
def collateSortsSpec : ChangeSpec := { name := "collateSorts", fn := fun _ => fun
  | [d1, d2] => { results := [.lit (.bool true)], args := [d1, d2] }
  | _ => none }
def collateSortsRow : OpenClaim := { program := "ytndolgbbochpjaadoor", sum := "0b4e57da06faaa44ee6d56621666b4a8cb9822afb1ab0d98bda90bbd27c51813", func := "davenport/davenportlaw07.CollateSorts", spec := "collateSorts", unfollowed := true, recurses := true, named := ["davenport/collate.ranks", "davenport/value.shapes", "davenport/utf.forms"], loops := true, apart := false, laid := [("davenport/utf.forms", laid_davenport_utf_forms), ("davenport/value.shapes", laid_davenport_value_shapes), ("davenport/collate.ranks", laid_davenport_collate_ranks)] }
def CollateSortsSaid : Prop := collateSortsRow.holds Tryd.pinned (OpenSpec.ofChange collateSortsSpec)

/-- ITS FALSE NEIGHBOUR: 'it returns false'. Refute it at one input. -/
def collateSortsWrong : ChangeSpec := { name := "collateSorts", fn := fun _ => fun
  | [d1, d2] => { results := [.lit (.bool false)], args := [d1, d2] }
  | _ => none }
def CollateSortsWrongFalsely : Prop := collateSortsRow.holds Tryd.pinned (OpenSpec.ofChange collateSortsWrong)

/-- 'davenportlaw07.CollateFronts': WHATEVER THE INPUT: true; the input reads as it did. -/
def collateFrontsSpec : ChangeSpec := { name := "collateFronts", fn := fun _ => fun
  | [d1, d2] => { results := [.lit (.bool true)], args := [d1, d2] }
  | _ => none }
def collateFrontsRow : OpenClaim := { program := "ytndolgbbochpjaadoor", sum := "0b4e57da06faaa44ee6d56621666b4a8cb9822afb1ab0d98bda90bbd27c51813", func := "davenport/davenportlaw07.CollateFronts", spec := "collateFronts", unfollowed := true, recurses := true, named := ["davenport/collate.ranks", "davenport/value.shapes", "davenport/utf.forms"], loops := true, apart := false, laid := [("davenport/utf.forms", laid_davenport_utf_forms), ("davenport/value.shapes", laid_davenport_value_shapes), ("davenport/collate.ranks", laid_davenport_collate_ranks)] }
def CollateFrontsSaid : Prop := collateFrontsRow.holds Tryd.pinned (OpenSpec.ofChange collateFrontsSpec)

/-- ITS FALSE NEIGHBOUR: 'it returns false'. Refute it at one input. -/
def collateFrontsWrong : ChangeSpec := { name := "collateFronts", fn := fun _ => fun
  | [d1, d2] => { results := [.lit (.bool false)], args := [d1, d2] }
  | _ => none }
def CollateFrontsWrongFalsely : Prop := collateFrontsRow.holds Tryd.pinned (OpenSpec.ofChange collateFrontsWrong)

/-- 'davenportlaw07.CollateOrders': WHATEVER THE INPUT: true; the input reads as it did. -/
def collateOrdersSpec : ChangeSpec := { name := "collateOrders", fn := fun _ => fun
  | [d1, d2, d3] => { results := [.lit (.bool true)], args := [d1, d2, d3] }
  | _ => none }
def collateOrdersRow : OpenClaim := { program := "ytndolgbbochpjaadoor", sum := "0b4e57da06faaa44ee6d56621666b4a8cb9822afb1ab0d98bda90bbd27c51813", func := "davenport/davenportlaw07.CollateOrders", spec := "collateOrders", unfollowed := true, recurses := true, named := ["davenport/collate.ranks", "davenport/value.shapes", "davenport/utf.forms"], loops := true, apart := false, laid := [("davenport/utf.forms", laid_davenport_utf_forms), ("davenport/value.shapes", laid_davenport_value_shapes), ("davenport/collate.ranks", laid_davenport_collate_ranks)] }
def CollateOrdersSaid : Prop := collateOrdersRow.holds Tryd.pinned (OpenSpec.ofChange collateOrdersSpec)

/-- ITS FALSE NEIGHBOUR: 'it returns false'. Refute it at one input. -/
def collateOrdersWrong : ChangeSpec := { name := "collateOrders", fn := fun _ => fun
  | [d1, d2, d3] => { results := [.lit (.bool false)], args := [d1, d2, d3] }
  | _ => none }
def CollateOrdersWrongFalsely : Prop := collateOrdersRow.holds Tryd.pinned (OpenSpec.ofChange collateOrdersWrong)

/-- 'davenportlaw07.CollateWithin': WHATEVER THE INPUT: true; the input reads as it did. -/
def collateWithinSpec : ChangeSpec := { name := "collateWithin", fn := fun _ => fun
  | [d1, d2, d3, d4, d5] => { results := [.lit (.bool true)], args := [d1, d2, d3, d4, d5] }
  | _ => none }
def collateWithinRow : OpenClaim := { program := "ytndolgbbochpjaadoor", sum := "0b4e57da06faaa44ee6d56621666b4a8cb9822afb1ab0d98bda90bbd27c51813", func := "davenport/davenportlaw07.CollateWithin", spec := "collateWithin", unfollowed := true, recurses := true, named := ["davenport/collate.ranks", "davenport/value.shapes", "davenport/utf.forms"], loops := true, apart := false, laid := [("davenport/utf.forms", laid_davenport_utf_forms), ("davenport/value.shapes", laid_davenport_value_shapes), ("davenport/collate.ranks", laid_davenport_collate_ranks)] }
def CollateWithinSaid : Prop := collateWithinRow.holds Tryd.pinned (OpenSpec.ofChange collateWithinSpec)

/-- ITS FALSE NEIGHBOUR: 'it returns false'. Refute it at one input. -/
def collateWithinWrong : ChangeSpec := { name := "collateWithin", fn := fun _ => fun
  | [d1, d2, d3, d4, d5] => { results := [.lit (.bool false)], args := [d1, d2, d3, d4, d5] }
  | _ => none }
def CollateWithinWrongFalsely : Prop := collateWithinRow.holds Tryd.pinned (OpenSpec.ofChange collateWithinWrong)

/-- 'davenportlaw07.CollateStands': WHATEVER THE INPUT: true; the input reads as it did. -/
def collateStandsSpec : ChangeSpec := { name := "collateStands", fn := fun _ => fun
  | [d] => { results := [.lit (.bool true)], args := [d] }
  | _ => none }
def collateStandsRow : OpenClaim := { program := "ytndolgbbochpjaadoor", sum := "0b4e57da06faaa44ee6d56621666b4a8cb9822afb1ab0d98bda90bbd27c51813", func := "davenport/davenportlaw07.CollateStands", spec := "collateStands", unfollowed := true, recurses := true, named := ["davenport/collate.ranks", "davenport/value.shapes", "davenport/utf.forms"], loops := true, apart := false, laid := [("davenport/utf.forms", laid_davenport_utf_forms), ("davenport/value.shapes", laid_davenport_value_shapes), ("davenport/collate.ranks", laid_davenport_collate_ranks)] }
def CollateStandsSaid : Prop := collateStandsRow.holds Tryd.pinned (OpenSpec.ofChange collateStandsSpec)

/-- ITS FALSE NEIGHBOUR: 'it returns false'. Refute it at one input. -/
def collateStandsWrong : ChangeSpec := { name := "collateStands", fn := fun _ => fun
  | [d] => { results := [.lit (.bool false)], args := [d] }
  | _ => none }
def CollateStandsWrongFalsely : Prop := collateStandsRow.holds Tryd.pinned (OpenSpec.ofChange collateStandsWrong)

/-- 'davenportlaw07.CollateCuts': WHATEVER THE INPUT: true; the input reads as it did. -/
def collateCutsSpec : ChangeSpec := { name := "collateCuts", fn := fun _ => fun
  | [d1, d2, d3, d4] => { results := [.lit (.bool true)], args := [d1, d2, d3, d4] }
  | _ => none }
def collateCutsRow : OpenClaim := { program := "ytndolgbbochpjaadoor", sum := "0b4e57da06faaa44ee6d56621666b4a8cb9822afb1ab0d98bda90bbd27c51813", func := "davenport/davenportlaw07.CollateCuts", spec := "collateCuts", unfollowed := true, recurses := true, named := ["davenport/collate.ranks", "davenport/value.shapes", "davenport/utf.forms"], loops := true, apart := false, laid := [("davenport/utf.forms", laid_davenport_utf_forms), ("davenport/value.shapes", laid_davenport_value_shapes), ("davenport/collate.ranks", laid_davenport_collate_ranks)] }
def CollateCutsSaid : Prop := collateCutsRow.holds Tryd.pinned (OpenSpec.ofChange collateCutsSpec)

/-- ITS FALSE NEIGHBOUR: 'it returns false'. Refute it at one input. -/
def collateCutsWrong : ChangeSpec := { name := "collateCuts", fn := fun _ => fun
  | [d1, d2, d3, d4] => { results := [.lit (.bool false)], args := [d1, d2, d3, d4] }
  | _ => none }
def CollateCutsWrongFalsely : Prop := collateCutsRow.holds Tryd.pinned (OpenSpec.ofChange collateCutsWrong)

/- THE SECOND FORM. 'bulk': how many values and letters a reading holds, each counted each time it is reached (what is shared counts as often as it is met; a slice's spare places count too). A statement '..UptoSaid' is the law's where the arguments, and the package variables that the reading takes, are together of bulk at most 1048576: NARROWER than '..Said'. Prove '..Said' where nothing that the law and all that it calls make is longer than what came in: it says more and counts as full. Else prove '..UptoSaid'. A law counts once. -/
mutual
def uptoBulk {H : Type} : DataW H → Nat
  | .lit (.string bytes) => bytes.length + 1
  | .lit _ => 1
  | .nil => 1
  | .ptr d => uptoBulk d + 1
  | .slice elems spare => uptoBulkAll elems + uptoBulkAll spare + 1
  | .agg parts => uptoBulkAll parts + 1
  | .iface _ d => uptoBulk d + 1
  | .map entries => uptoBulkEntries entries + 1
  | .held _ => 1
def uptoBulkAll {H : Type} : List (DataW H) → Nat
  | [] => 0
  | d :: r => uptoBulk d + uptoBulkAll r
def uptoBulkEntries {H : Type} : List (Lit × DataW H) → Nat
  | [] => 0
  | x :: r => uptoBulkEntry x + uptoBulkEntries r
def uptoBulkEntry {H : Type} : Lit × DataW H → Nat
  | (.string bytes, d) => bytes.length + uptoBulk d + 1
  | (_, d) => uptoBulk d + 1
 end
def uptoSmall : (H : Type) → List (DataW H) → Bool := fun _ ds => decide (uptoBulkAll ds ≤ 1048576)
def OpenSpec.upto (s : _root_.Go.ChangeSpec) : _root_.Go.OpenSpec := { _root_.Go.OpenSpec.ofChange s with cond := some uptoSmall }

/-- 'davenportlaw07.CollateCompares', WHERE WHAT IT READS IS OF BULK AT MOST 1048576: true; the input reads as it did. -/
def collateComparesUptoRow : OpenClaim := { program := "ytndolgbbochpjaadoor", sum := "0b4e57da06faaa44ee6d56621666b4a8cb9822afb1ab0d98bda90bbd27c51813", func := "davenport/davenportlaw07.CollateCompares", spec := "collateCompares", unfollowed := true, recurses := true, named := ["davenport/collate.ranks", "davenport/value.shapes", "davenport/utf.forms"], loops := true, apart := false, laid := [("davenport/utf.forms", laid_davenport_utf_forms), ("davenport/value.shapes", laid_davenport_value_shapes), ("davenport/collate.ranks", laid_davenport_collate_ranks)], narrowed := true }
def CollateComparesUptoSaid : Prop := collateComparesUptoRow.holds Tryd.pinned (OpenSpec.upto collateComparesSpec)

/-- 'davenportlaw07.CollateSorts', WHERE WHAT IT READS IS OF BULK AT MOST 1048576: true; the input reads as it did. -/
def collateSortsUptoRow : OpenClaim := { program := "ytndolgbbochpjaadoor", sum := "0b4e57da06faaa44ee6d56621666b4a8cb9822afb1ab0d98bda90bbd27c51813", func := "davenport/davenportlaw07.CollateSorts", spec := "collateSorts", unfollowed := true, recurses := true, named := ["davenport/collate.ranks", "davenport/value.shapes", "davenport/utf.forms"], loops := true, apart := false, laid := [("davenport/utf.forms", laid_davenport_utf_forms), ("davenport/value.shapes", laid_davenport_value_shapes), ("davenport/collate.ranks", laid_davenport_collate_ranks)], narrowed := true }
def CollateSortsUptoSaid : Prop := collateSortsUptoRow.holds Tryd.pinned (OpenSpec.upto collateSortsSpec)

/-- 'davenportlaw07.CollateFronts', WHERE WHAT IT READS IS OF BULK AT MOST 1048576: true; the input reads as it did. -/
def collateFrontsUptoRow : OpenClaim := { program := "ytndolgbbochpjaadoor", sum := "0b4e57da06faaa44ee6d56621666b4a8cb9822afb1ab0d98bda90bbd27c51813", func := "davenport/davenportlaw07.CollateFronts", spec := "collateFronts", unfollowed := true, recurses := true, named := ["davenport/collate.ranks", "davenport/value.shapes", "davenport/utf.forms"], loops := true, apart := false, laid := [("davenport/utf.forms", laid_davenport_utf_forms), ("davenport/value.shapes", laid_davenport_value_shapes), ("davenport/collate.ranks", laid_davenport_collate_ranks)], narrowed := true }
def CollateFrontsUptoSaid : Prop := collateFrontsUptoRow.holds Tryd.pinned (OpenSpec.upto collateFrontsSpec)

/-- 'davenportlaw07.CollateOrders', WHERE WHAT IT READS IS OF BULK AT MOST 1048576: true; the input reads as it did. -/
def collateOrdersUptoRow : OpenClaim := { program := "ytndolgbbochpjaadoor", sum := "0b4e57da06faaa44ee6d56621666b4a8cb9822afb1ab0d98bda90bbd27c51813", func := "davenport/davenportlaw07.CollateOrders", spec := "collateOrders", unfollowed := true, recurses := true, named := ["davenport/collate.ranks", "davenport/value.shapes", "davenport/utf.forms"], loops := true, apart := false, laid := [("davenport/utf.forms", laid_davenport_utf_forms), ("davenport/value.shapes", laid_davenport_value_shapes), ("davenport/collate.ranks", laid_davenport_collate_ranks)], narrowed := true }
def CollateOrdersUptoSaid : Prop := collateOrdersUptoRow.holds Tryd.pinned (OpenSpec.upto collateOrdersSpec)

/-- 'davenportlaw07.CollateWithin', WHERE WHAT IT READS IS OF BULK AT MOST 1048576: true; the input reads as it did. -/
def collateWithinUptoRow : OpenClaim := { program := "ytndolgbbochpjaadoor", sum := "0b4e57da06faaa44ee6d56621666b4a8cb9822afb1ab0d98bda90bbd27c51813", func := "davenport/davenportlaw07.CollateWithin", spec := "collateWithin", unfollowed := true, recurses := true, named := ["davenport/collate.ranks", "davenport/value.shapes", "davenport/utf.forms"], loops := true, apart := false, laid := [("davenport/utf.forms", laid_davenport_utf_forms), ("davenport/value.shapes", laid_davenport_value_shapes), ("davenport/collate.ranks", laid_davenport_collate_ranks)], narrowed := true }
def CollateWithinUptoSaid : Prop := collateWithinUptoRow.holds Tryd.pinned (OpenSpec.upto collateWithinSpec)

/-- 'davenportlaw07.CollateStands', WHERE WHAT IT READS IS OF BULK AT MOST 1048576: true; the input reads as it did. -/
def collateStandsUptoRow : OpenClaim := { program := "ytndolgbbochpjaadoor", sum := "0b4e57da06faaa44ee6d56621666b4a8cb9822afb1ab0d98bda90bbd27c51813", func := "davenport/davenportlaw07.CollateStands", spec := "collateStands", unfollowed := true, recurses := true, named := ["davenport/collate.ranks", "davenport/value.shapes", "davenport/utf.forms"], loops := true, apart := false, laid := [("davenport/utf.forms", laid_davenport_utf_forms), ("davenport/value.shapes", laid_davenport_value_shapes), ("davenport/collate.ranks", laid_davenport_collate_ranks)], narrowed := true }
def CollateStandsUptoSaid : Prop := collateStandsUptoRow.holds Tryd.pinned (OpenSpec.upto collateStandsSpec)

/-- 'davenportlaw07.CollateCuts', WHERE WHAT IT READS IS OF BULK AT MOST 1048576: true; the input reads as it did. -/
def collateCutsUptoRow : OpenClaim := { program := "ytndolgbbochpjaadoor", sum := "0b4e57da06faaa44ee6d56621666b4a8cb9822afb1ab0d98bda90bbd27c51813", func := "davenport/davenportlaw07.CollateCuts", spec := "collateCuts", unfollowed := true, recurses := true, named := ["davenport/collate.ranks", "davenport/value.shapes", "davenport/utf.forms"], loops := true, apart := false, laid := [("davenport/utf.forms", laid_davenport_utf_forms), ("davenport/value.shapes", laid_davenport_value_shapes), ("davenport/collate.ranks", laid_davenport_collate_ranks)], narrowed := true }
def CollateCutsUptoSaid : Prop := collateCutsUptoRow.holds Tryd.pinned (OpenSpec.upto collateCutsSpec)

end Rows
end Go.Proofs.YtndolgbbochpjaaDoor
