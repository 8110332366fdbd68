/-
  No cell of these rows narrows 'for every input' (looked for: loops, veiled, ifaces, maps, wideKeys, modest, calm, conditions, laid).
  DERIVED. THE GIVEN ROWS OF THIS SEAT. 6 by the template 'for every input the law returns true; each argument reads behind the call as it read before'; 0 by the template 'total and deterministic' (their statements: YthoenmggjbojoaaTotals.lean).
  GIVEN WITH THE SEED: the statements are not yours to turn. If you find one false, say at which input.
  Laid BY PROGRAM, IN A SANDBOX (cutbox-rows.mjs): the forced cells as the released guide's own fill.sh prints them over the translation c0d0e4ead90fa939… (all of the seat's roots in one cut). By AI agents, Wed Nov 11 2026. No macro, syntax, notation, axiom, sorry.
-/
import Derived.Test.YthoenmggjbojoaaChecked
import GoSem.Claim
import GoSem.ClaimJoined
import GoSem.ClaimMapViews
import Derived.JoinedTies
import Derived.KernelRfl
namespace Go.Proofs.Ythoenmggjbojoaa
/- THE CELL 'sum', in the pinned program and in every row, IS THE sha256 OF THE DUMP (.gsa) THAT YthoenmggjbojoaaProg.lean LOADS. Nothing in Lean hashes anything: it is a label: what it is worth is what the hold of that sum in a sandbox is worth. -/
noncomputable def Try.pinned : Pinned := { name := "ythoenmggjbojoaa", sum := "c0d0e4ead90fa939781ea12e6b5ab00e56d9f8617e078d9277e7b1359ab3dc59", checked := Try.checked }
namespace Rows
def none {H : Type} : Left H := { results := [], args := [] }

/-- 'davenportlaw10.FileDoes': WHATEVER THE INPUT: true; the input reads as it did. -/
def fileDoesSpec : ChangeSpec := { name := "fileDoes", fn := fun _ => fun
  | [d1, d2] => { results := [.lit (.bool true)], args := [d1, d2] }
  | _ => none }
def fileDoesRow : OpenClaim := { program := "ythoenmggjbojoaa", sum := "c0d0e4ead90fa939781ea12e6b5ab00e56d9f8617e078d9277e7b1359ab3dc59", func := "davenport/davenportlaw10.FileDoes", spec := "fileDoes", unfollowed := true, recurses := true, apart := false }
def FileDoesSaid : Prop := fileDoesRow.holds Try.pinned (OpenSpec.ofChange fileDoesSpec)

/-- ITS FALSE NEIGHBOUR: 'it returns false'. Refute it at one input. -/
def fileDoesWrong : ChangeSpec := { name := "fileDoes", fn := fun _ => fun
  | [d1, d2] => { results := [.lit (.bool false)], args := [d1, d2] }
  | _ => none }
def FileDoesWrongFalsely : Prop := fileDoesRow.holds Try.pinned (OpenSpec.ofChange fileDoesWrong)

/-- 'davenportlaw10.FileTells': WHATEVER THE INPUT: true; the input reads as it did. -/
def fileTellsSpec : ChangeSpec := { name := "fileTells", fn := fun _ => fun
  | [d1, d2, d3, d4] => { results := [.lit (.bool true)], args := [d1, d2, d3, d4] }
  | _ => none }
def fileTellsRow : OpenClaim := { program := "ythoenmggjbojoaa", sum := "c0d0e4ead90fa939781ea12e6b5ab00e56d9f8617e078d9277e7b1359ab3dc59", func := "davenport/davenportlaw10.FileTells", spec := "fileTells", unfollowed := true, recurses := true, apart := false }
def FileTellsSaid : Prop := fileTellsRow.holds Try.pinned (OpenSpec.ofChange fileTellsSpec)

/-- ITS FALSE NEIGHBOUR: 'it returns false'. Refute it at one input. -/
def fileTellsWrong : ChangeSpec := { name := "fileTells", fn := fun _ => fun
  | [d1, d2, d3, d4] => { results := [.lit (.bool false)], args := [d1, d2, d3, d4] }
  | _ => none }
def FileTellsWrongFalsely : Prop := fileTellsRow.holds Try.pinned (OpenSpec.ofChange fileTellsWrong)

/-- 'davenportlaw10.FileStays': WHATEVER THE INPUT: true; the input reads as it did. -/
def fileStaysSpec : ChangeSpec := { name := "fileStays", fn := fun _ => fun
  | [d] => { results := [.lit (.bool true)], args := [d] }
  | _ => none }
def fileStaysRow : OpenClaim := { program := "ythoenmggjbojoaa", sum := "c0d0e4ead90fa939781ea12e6b5ab00e56d9f8617e078d9277e7b1359ab3dc59", func := "davenport/davenportlaw10.FileStays", spec := "fileStays", unfollowed := true, recurses := true, apart := false }
def FileStaysSaid : Prop := fileStaysRow.holds Try.pinned (OpenSpec.ofChange fileStaysSpec)

/-- ITS FALSE NEIGHBOUR: 'it returns false'. Refute it at one input. -/
def fileStaysWrong : ChangeSpec := { name := "fileStays", fn := fun _ => fun
  | [d] => { results := [.lit (.bool false)], args := [d] }
  | _ => none }
def FileStaysWrongFalsely : Prop := fileStaysRow.holds Try.pinned (OpenSpec.ofChange fileStaysWrong)

/-- 'davenportlaw10.FileLoses': WHATEVER THE INPUT: true; the input reads as it did. -/
def fileLosesSpec : ChangeSpec := { name := "fileLoses", fn := fun _ => fun
  | [d1, d2, d3] => { results := [.lit (.bool true)], args := [d1, d2, d3] }
  | _ => none }
def fileLosesRow : OpenClaim := { program := "ythoenmggjbojoaa", sum := "c0d0e4ead90fa939781ea12e6b5ab00e56d9f8617e078d9277e7b1359ab3dc59", func := "davenport/davenportlaw10.FileLoses", spec := "fileLoses", unfollowed := true, recurses := true, apart := false }
def FileLosesSaid : Prop := fileLosesRow.holds Try.pinned (OpenSpec.ofChange fileLosesSpec)

/-- ITS FALSE NEIGHBOUR: 'it returns false'. Refute it at one input. -/
def fileLosesWrong : ChangeSpec := { name := "fileLoses", fn := fun _ => fun
  | [d1, d2, d3] => { results := [.lit (.bool false)], args := [d1, d2, d3] }
  | _ => none }
def FileLosesWrongFalsely : Prop := fileLosesRow.holds Try.pinned (OpenSpec.ofChange fileLosesWrong)

/-- 'davenportlaw10.FileCounts': WHATEVER THE INPUT: true; the input reads as it did. -/
def fileCountsSpec : ChangeSpec := { name := "fileCounts", fn := fun _ => fun
  | [d1, d2] => { results := [.lit (.bool true)], args := [d1, d2] }
  | _ => none }
def fileCountsRow : OpenClaim := { program := "ythoenmggjbojoaa", sum := "c0d0e4ead90fa939781ea12e6b5ab00e56d9f8617e078d9277e7b1359ab3dc59", func := "davenport/davenportlaw10.FileCounts", spec := "fileCounts", unfollowed := true, recurses := true, apart := false }
def FileCountsSaid : Prop := fileCountsRow.holds Try.pinned (OpenSpec.ofChange fileCountsSpec)

/-- ITS FALSE NEIGHBOUR: 'it returns false'. Refute it at one input. -/
def fileCountsWrong : ChangeSpec := { name := "fileCounts", fn := fun _ => fun
  | [d1, d2] => { results := [.lit (.bool false)], args := [d1, d2] }
  | _ => none }
def FileCountsWrongFalsely : Prop := fileCountsRow.holds Try.pinned (OpenSpec.ofChange fileCountsWrong)

/-- 'davenportlaw10.FileRefuses': WHATEVER THE INPUT: true; the input reads as it did. -/
def fileRefusesSpec : ChangeSpec := { name := "fileRefuses", fn := fun _ => fun
  | [d1, d2] => { results := [.lit (.bool true)], args := [d1, d2] }
  | _ => none }
def fileRefusesRow : OpenClaim := { program := "ythoenmggjbojoaa", sum := "c0d0e4ead90fa939781ea12e6b5ab00e56d9f8617e078d9277e7b1359ab3dc59", func := "davenport/davenportlaw10.FileRefuses", spec := "fileRefuses", unfollowed := true, recurses := true, apart := false }
def FileRefusesSaid : Prop := fileRefusesRow.holds Try.pinned (OpenSpec.ofChange fileRefusesSpec)

/-- ITS FALSE NEIGHBOUR: 'it returns false'. Refute it at one input. -/
def fileRefusesWrong : ChangeSpec := { name := "fileRefuses", fn := fun _ => fun
  | [d1, d2] => { results := [.lit (.bool false)], args := [d1, d2] }
  | _ => none }
def FileRefusesWrongFalsely : Prop := fileRefusesRow.holds Try.pinned (OpenSpec.ofChange fileRefusesWrong)

/- THE SECOND FORM. 'bulk': how many values and letters a reading holds, each counted each time it is reached (what is shared counts as often as it is met; a slice's spare places count too). A statement '..UptoSaid' is the law's where the arguments, and the package variables that the reading takes, are together of bulk at most 1048576: NARROWER than '..Said'. Prove '..Said' where nothing that the law and all that it calls make is longer than what came in: it says more and counts as full. Else prove '..UptoSaid'. A law counts once. -/
mutual
def uptoBulk {H : Type} : DataW H → Nat
  | .lit (.string bytes) => bytes.length + 1
  | .lit _ => 1
  | .nil => 1
  | .ptr d => uptoBulk d + 1
  | .slice elems spare => uptoBulkAll elems + uptoBulkAll spare + 1
  | .agg parts => uptoBulkAll parts + 1
  | .iface _ d => uptoBulk d + 1
  | .map entries => uptoBulkEntries entries + 1
  | .held _ => 1
def uptoBulkAll {H : Type} : List (DataW H) → Nat
  | [] => 0
  | d :: r => uptoBulk d + uptoBulkAll r
def uptoBulkEntries {H : Type} : List (Lit × DataW H) → Nat
  | [] => 0
  | x :: r => uptoBulkEntry x + uptoBulkEntries r
def uptoBulkEntry {H : Type} : Lit × DataW H → Nat
  | (.string bytes, d) => bytes.length + uptoBulk d + 1
  | (_, d) => uptoBulk d + 1
 end
def uptoSmall : (H : Type) → List (DataW H) → Bool := fun _ ds => decide (uptoBulkAll ds ≤ 1048576)
def OpenSpec.upto (s : _root_.Go.ChangeSpec) : _root_.Go.OpenSpec := { _root_.Go.OpenSpec.ofChange s with cond := some uptoSmall }

/-- 'davenportlaw10.FileDoes', WHERE WHAT IT READS IS OF BULK AT MOST 1048576: true; the input reads as it did. -/
def fileDoesUptoRow : OpenClaim := { program := "ythoenmggjbojoaa", sum := "c0d0e4ead90fa939781ea12e6b5ab00e56d9f8617e078d9277e7b1359ab3dc59", func := "davenport/davenportlaw10.FileDoes", spec := "fileDoes", unfollowed := true, recurses := true, apart := false, narrowed := true }
def FileDoesUptoSaid : Prop := fileDoesUptoRow.holds Try.pinned (OpenSpec.upto fileDoesSpec)

/-- 'davenportlaw10.FileTells', WHERE WHAT IT READS IS OF BULK AT MOST 1048576: true; the input reads as it did. -/
def fileTellsUptoRow : OpenClaim := { program := "ythoenmggjbojoaa", sum := "c0d0e4ead90fa939781ea12e6b5ab00e56d9f8617e078d9277e7b1359ab3dc59", func := "davenport/davenportlaw10.FileTells", spec := "fileTells", unfollowed := true, recurses := true, apart := false, narrowed := true }
def FileTellsUptoSaid : Prop := fileTellsUptoRow.holds Try.pinned (OpenSpec.upto fileTellsSpec)

/-- 'davenportlaw10.FileStays', WHERE WHAT IT READS IS OF BULK AT MOST 1048576: true; the input reads as it did. -/
def fileStaysUptoRow : OpenClaim := { program := "ythoenmggjbojoaa", sum := "c0d0e4ead90fa939781ea12e6b5ab00e56d9f8617e078d9277e7b1359ab3dc59", func := "davenport/davenportlaw10.FileStays", spec := "fileStays", unfollowed := true, recurses := true, apart := false, narrowed := true }
def FileStaysUptoSaid : Prop := fileStaysUptoRow.holds Try.pinned (OpenSpec.upto fileStaysSpec)

/-- 'davenportlaw10.FileLoses', WHERE WHAT IT READS IS OF BULK AT MOST 1048576: true; the input reads as it did. -/
def fileLosesUptoRow : OpenClaim := { program := "ythoenmggjbojoaa", sum := "c0d0e4ead90fa939781ea12e6b5ab00e56d9f8617e078d9277e7b1359ab3dc59", func := "davenport/davenportlaw10.FileLoses", spec := "fileLoses", unfollowed := true, recurses := true, apart := false, narrowed := true }
def FileLosesUptoSaid : Prop := fileLosesUptoRow.holds Try.pinned (OpenSpec.upto fileLosesSpec)

/-- 'davenportlaw10.FileCounts', WHERE WHAT IT READS IS OF BULK AT MOST 1048576: true; the input reads as it did. -/
def fileCountsUptoRow : OpenClaim := { program := "ythoenmggjbojoaa", sum := "c0d0e4ead90fa939781ea12e6b5ab00e56d9f8617e078d9277e7b1359ab3dc59", func := "davenport/davenportlaw10.FileCounts", spec := "fileCounts", unfollowed := true, recurses := true, apart := false, narrowed := true }
def FileCountsUptoSaid : Prop := fileCountsUptoRow.holds Try.pinned (OpenSpec.upto fileCountsSpec)

/-- 'davenportlaw10.FileRefuses', WHERE WHAT IT READS IS OF BULK AT MOST 1048576: true; the input reads as it did. -/
def fileRefusesUptoRow : OpenClaim := { program := "ythoenmggjbojoaa", sum := "c0d0e4ead90fa939781ea12e6b5ab00e56d9f8617e078d9277e7b1359ab3dc59", func := "davenport/davenportlaw10.FileRefuses", spec := "fileRefuses", unfollowed := true, recurses := true, apart := false, narrowed := true }
def FileRefusesUptoSaid : Prop := fileRefusesUptoRow.holds Try.pinned (OpenSpec.upto fileRefusesSpec)

end Rows
end Go.Proofs.Ythoenmggjbojoaa
