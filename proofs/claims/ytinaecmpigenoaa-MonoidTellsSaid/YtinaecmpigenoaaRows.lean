/-
  No cell of these rows narrows 'for every input' (looked for: loops, veiled, ifaces, maps, wideKeys, modest, calm, conditions, laid).
  DERIVED. THE GIVEN ROWS OF THIS SEAT. 5 by the template 'for every input the law returns true; each argument reads behind the call as it read before'; 0 by the template 'total and deterministic' (their statements: YtinaecmpigenoaaTotals.lean).
  GIVEN WITH THE SEED: the statements are not yours to turn. If you find one false, say at which input.
  Laid BY PROGRAM, IN A SANDBOX (cutbox-rows.mjs): the forced cells as the released guide's own fill.sh prints them over the translation 2acb93933f4cc833… (all of the seat's roots in one cut). By AI agents, Wed Nov 11 2026. No macro, syntax, notation, axiom, sorry.
-/
import Derived.Test.YtinaecmpigenoaaChecked
import GoSem.Claim
import GoSem.ClaimJoined
import GoSem.ClaimMapViews
import Derived.JoinedTies
import Derived.KernelRfl
namespace Go.Proofs.Ytinaecmpigenoaa
/- THE CELL 'sum', in the pinned program and in every row, IS THE sha256 OF THE DUMP (.gsa) THAT YtinaecmpigenoaaProg.lean LOADS. Nothing in Lean hashes anything: it is a label: what it is worth is what the hold of that sum in a sandbox is worth. -/
noncomputable def Try.pinned : Pinned := { name := "ytinaecmpigenoaa", sum := "2acb93933f4cc833780d3d3bb0ceae0a1109e89b3e083a78455be10324880c0f", checked := Try.checked }
namespace Rows
def none {H : Type} : Left H := { results := [], args := [] }

/-- 'davenportlaw13.MonoidChecks': WHATEVER THE INPUT: true; the input reads as it did. -/
def monoidChecksSpec : ChangeSpec := { name := "monoidChecks", fn := fun _ => fun
  | [d1, d2] => { results := [.lit (.bool true)], args := [d1, d2] }
  | _ => none }
def monoidChecksRow : OpenClaim := { program := "ytinaecmpigenoaa", sum := "2acb93933f4cc833780d3d3bb0ceae0a1109e89b3e083a78455be10324880c0f", func := "davenport/davenportlaw13.MonoidChecks", spec := "monoidChecks", inPlace := ["math/bits.Add64"], unfollowed := true, recurses := true, apart := false }
def MonoidChecksSaid : Prop := monoidChecksRow.holds Try.pinned (OpenSpec.ofChange monoidChecksSpec)

/-- ITS FALSE NEIGHBOUR: 'it returns false'. Refute it at one input. -/
def monoidChecksWrong : ChangeSpec := { name := "monoidChecks", fn := fun _ => fun
  | [d1, d2] => { results := [.lit (.bool false)], args := [d1, d2] }
  | _ => none }
def MonoidChecksWrongFalsely : Prop := monoidChecksRow.holds Try.pinned (OpenSpec.ofChange monoidChecksWrong)

/-- 'davenportlaw13.MonoidJoins': WHATEVER THE INPUT: true; the input reads as it did. -/
def monoidJoinsSpec : ChangeSpec := { name := "monoidJoins", fn := fun _ => fun
  | [d] => { results := [.lit (.bool true)], args := [d] }
  | _ => none }
def monoidJoinsRow : OpenClaim := { program := "ytinaecmpigenoaa", sum := "2acb93933f4cc833780d3d3bb0ceae0a1109e89b3e083a78455be10324880c0f", func := "davenport/davenportlaw13.MonoidJoins", spec := "monoidJoins", inPlace := ["math/bits.Add64"], unfollowed := true, recurses := true, apart := false }
def MonoidJoinsSaid : Prop := monoidJoinsRow.holds Try.pinned (OpenSpec.ofChange monoidJoinsSpec)

/-- ITS FALSE NEIGHBOUR: 'it returns false'. Refute it at one input. -/
def monoidJoinsWrong : ChangeSpec := { name := "monoidJoins", fn := fun _ => fun
  | [d] => { results := [.lit (.bool false)], args := [d] }
  | _ => none }
def MonoidJoinsWrongFalsely : Prop := monoidJoinsRow.holds Try.pinned (OpenSpec.ofChange monoidJoinsWrong)

/-- 'davenportlaw13.MonoidTells': WHATEVER THE INPUT: true; the input reads as it did. -/
def monoidTellsSpec : ChangeSpec := { name := "monoidTells", fn := fun _ => fun
  | [d1, d2, d3] => { results := [.lit (.bool true)], args := [d1, d2, d3] }
  | _ => none }
def monoidTellsRow : OpenClaim := { program := "ytinaecmpigenoaa", sum := "2acb93933f4cc833780d3d3bb0ceae0a1109e89b3e083a78455be10324880c0f", func := "davenport/davenportlaw13.MonoidTells", spec := "monoidTells", inPlace := ["math/bits.Add64"], unfollowed := true, recurses := true, apart := false }
def MonoidTellsSaid : Prop := monoidTellsRow.holds Try.pinned (OpenSpec.ofChange monoidTellsSpec)

/-- ITS FALSE NEIGHBOUR: 'it returns false'. Refute it at one input. -/
def monoidTellsWrong : ChangeSpec := { name := "monoidTells", fn := fun _ => fun
  | [d1, d2, d3] => { results := [.lit (.bool false)], args := [d1, d2, d3] }
  | _ => none }
def MonoidTellsWrongFalsely : Prop := monoidTellsRow.holds Try.pinned (OpenSpec.ofChange monoidTellsWrong)

/-- 'davenportlaw13.MonoidParts': WHATEVER THE INPUT: true; the input reads as it did. -/
def monoidPartsSpec : ChangeSpec := { name := "monoidParts", fn := fun _ => fun
  | [d1, d2] => { results := [.lit (.bool true)], args := [d1, d2] }
  | _ => none }
def monoidPartsRow : OpenClaim := { program := "ytinaecmpigenoaa", sum := "2acb93933f4cc833780d3d3bb0ceae0a1109e89b3e083a78455be10324880c0f", func := "davenport/davenportlaw13.MonoidParts", spec := "monoidParts", inPlace := ["math/bits.Add64"], unfollowed := true, recurses := true, apart := false }
def MonoidPartsSaid : Prop := monoidPartsRow.holds Try.pinned (OpenSpec.ofChange monoidPartsSpec)

/-- ITS FALSE NEIGHBOUR: 'it returns false'. Refute it at one input. -/
def monoidPartsWrong : ChangeSpec := { name := "monoidParts", fn := fun _ => fun
  | [d1, d2] => { results := [.lit (.bool false)], args := [d1, d2] }
  | _ => none }
def MonoidPartsWrongFalsely : Prop := monoidPartsRow.holds Try.pinned (OpenSpec.ofChange monoidPartsWrong)

/-- 'davenportlaw13.MonoidBounds': WHATEVER THE INPUT: true; the input reads as it did. -/
def monoidBoundsSpec : ChangeSpec := { name := "monoidBounds", fn := fun _ => fun
  | [d1, d2] => { results := [.lit (.bool true)], args := [d1, d2] }
  | _ => none }
def monoidBoundsRow : OpenClaim := { program := "ytinaecmpigenoaa", sum := "2acb93933f4cc833780d3d3bb0ceae0a1109e89b3e083a78455be10324880c0f", func := "davenport/davenportlaw13.MonoidBounds", spec := "monoidBounds", inPlace := ["math/bits.Add64"], unfollowed := true, recurses := true, apart := false }
def MonoidBoundsSaid : Prop := monoidBoundsRow.holds Try.pinned (OpenSpec.ofChange monoidBoundsSpec)

/-- ITS FALSE NEIGHBOUR: 'it returns false'. Refute it at one input. -/
def monoidBoundsWrong : ChangeSpec := { name := "monoidBounds", fn := fun _ => fun
  | [d1, d2] => { results := [.lit (.bool false)], args := [d1, d2] }
  | _ => none }
def MonoidBoundsWrongFalsely : Prop := monoidBoundsRow.holds Try.pinned (OpenSpec.ofChange monoidBoundsWrong)

/- THE SECOND FORM. 'bulk': how many values and letters a reading holds, each counted each time it is reached (what is shared counts as often as it is met; a slice's spare places count too). A statement '..UptoSaid' is the law's where the arguments, and the package variables that the reading takes, are together of bulk at most 1048576: NARROWER than '..Said'. Prove '..Said' where nothing that the law and all that it calls make is longer than what came in: it says more and counts as full. Else prove '..UptoSaid'. A law counts once. -/
mutual
def uptoBulk {H : Type} : DataW H → Nat
  | .lit (.string bytes) => bytes.length + 1
  | .lit _ => 1
  | .nil => 1
  | .ptr d => uptoBulk d + 1
  | .slice elems spare => uptoBulkAll elems + uptoBulkAll spare + 1
  | .agg parts => uptoBulkAll parts + 1
  | .iface _ d => uptoBulk d + 1
  | .map entries => uptoBulkEntries entries + 1
  | .held _ => 1
def uptoBulkAll {H : Type} : List (DataW H) → Nat
  | [] => 0
  | d :: r => uptoBulk d + uptoBulkAll r
def uptoBulkEntries {H : Type} : List (Lit × DataW H) → Nat
  | [] => 0
  | x :: r => uptoBulkEntry x + uptoBulkEntries r
def uptoBulkEntry {H : Type} : Lit × DataW H → Nat
  | (.string bytes, d) => bytes.length + uptoBulk d + 1
  | (_, d) => uptoBulk d + 1
 end
def uptoSmall : (H : Type) → List (DataW H) → Bool := fun _ ds => decide (uptoBulkAll ds ≤ 1048576)
def OpenSpec.upto (s : _root_.Go.ChangeSpec) : _root_.Go.OpenSpec := { _root_.Go.OpenSpec.ofChange s with cond := some uptoSmall }

/-- 'davenportlaw13.MonoidChecks', WHERE WHAT IT READS IS OF BULK AT MOST 1048576: true; the input reads as it did. -/
def monoidChecksUptoRow : OpenClaim := { program := "ytinaecmpigenoaa", sum := "2acb93933f4cc833780d3d3bb0ceae0a1109e89b3e083a78455be10324880c0f", func := "davenport/davenportlaw13.MonoidChecks", spec := "monoidChecks", inPlace := ["math/bits.Add64"], unfollowed := true, recurses := true, apart := false, narrowed := true }
def MonoidChecksUptoSaid : Prop := monoidChecksUptoRow.holds Try.pinned (OpenSpec.upto monoidChecksSpec)

/-- 'davenportlaw13.MonoidJoins', WHERE WHAT IT READS IS OF BULK AT MOST 1048576: true; the input reads as it did. -/
def monoidJoinsUptoRow : OpenClaim := { program := "ytinaecmpigenoaa", sum := "2acb93933f4cc833780d3d3bb0ceae0a1109e89b3e083a78455be10324880c0f", func := "davenport/davenportlaw13.MonoidJoins", spec := "monoidJoins", inPlace := ["math/bits.Add64"], unfollowed := true, recurses := true, apart := false, narrowed := true }
def MonoidJoinsUptoSaid : Prop := monoidJoinsUptoRow.holds Try.pinned (OpenSpec.upto monoidJoinsSpec)

/-- 'davenportlaw13.MonoidTells', WHERE WHAT IT READS IS OF BULK AT MOST 1048576: true; the input reads as it did. -/
def monoidTellsUptoRow : OpenClaim := { program := "ytinaecmpigenoaa", sum := "2acb93933f4cc833780d3d3bb0ceae0a1109e89b3e083a78455be10324880c0f", func := "davenport/davenportlaw13.MonoidTells", spec := "monoidTells", inPlace := ["math/bits.Add64"], unfollowed := true, recurses := true, apart := false, narrowed := true }
def MonoidTellsUptoSaid : Prop := monoidTellsUptoRow.holds Try.pinned (OpenSpec.upto monoidTellsSpec)

/-- 'davenportlaw13.MonoidParts', WHERE WHAT IT READS IS OF BULK AT MOST 1048576: true; the input reads as it did. -/
def monoidPartsUptoRow : OpenClaim := { program := "ytinaecmpigenoaa", sum := "2acb93933f4cc833780d3d3bb0ceae0a1109e89b3e083a78455be10324880c0f", func := "davenport/davenportlaw13.MonoidParts", spec := "monoidParts", inPlace := ["math/bits.Add64"], unfollowed := true, recurses := true, apart := false, narrowed := true }
def MonoidPartsUptoSaid : Prop := monoidPartsUptoRow.holds Try.pinned (OpenSpec.upto monoidPartsSpec)

/-- 'davenportlaw13.MonoidBounds', WHERE WHAT IT READS IS OF BULK AT MOST 1048576: true; the input reads as it did. -/
def monoidBoundsUptoRow : OpenClaim := { program := "ytinaecmpigenoaa", sum := "2acb93933f4cc833780d3d3bb0ceae0a1109e89b3e083a78455be10324880c0f", func := "davenport/davenportlaw13.MonoidBounds", spec := "monoidBounds", inPlace := ["math/bits.Add64"], unfollowed := true, recurses := true, apart := false, narrowed := true }
def MonoidBoundsUptoSaid : Prop := monoidBoundsUptoRow.holds Try.pinned (OpenSpec.upto monoidBoundsSpec)

end Rows
end Go.Proofs.Ytinaecmpigenoaa
