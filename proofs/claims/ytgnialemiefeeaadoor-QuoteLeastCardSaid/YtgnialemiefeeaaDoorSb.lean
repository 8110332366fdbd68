/-
  '[]byte(s)': a row of the call's own that shows the string's bytes; a string's front. No program in sight.
-/
import Derived.Test.YtgnialemiefeeaaDoorStr
import Derived.Laws.IdiomStrings
namespace Go.Proofs.YtgnialemiefeeaaDoor
open Go.RowKit

theorem below_draw_alloc (w : World) (o : Obj) : Below w.heap.size w (w.drew.alloc o) := below_undrew ((Below.refl w.heap.size w.drew).alloc (Nat.le_refl _) o)
theorem string_bytes {P : Program} {src dst e : TypeId} (hs : P.underlying src = some .string) (hd : P.underlying dst = some (.slice e)) (he : P.underlying e = some (.int .u8)) (s : ByteArray) (l : List UInt8) (hl : s.data.toList = l) (hm : s.size ≤ maxLen) (w : World) :
    ∃ c w', (convert src dst (.string s)).run P w = .ok (.slice (some ⟨w.heap.size, 0, none⟩) l.length c) w' ∧ Bytes w' w'.heap.size (some ⟨w.heap.size, 0, none⟩) l.length l ∧ l.length ≤ c ∧ c ≤ maxLen ∧ Below w.heap.size w w' := by
  have hsz : s.size = l.length := by rw [← hl, Array.length_toList]; rfl
  rw [hsz] at hm
  have hrun := run_bytes_of_string (P := P) w src dst e s hs hd he
  rw [hsz] at hrun
  have hge := grownCap_ge w l.length 0 e
  refine ⟨_, _, hrun, ?_, hge, grownCap_le_maxLen w l.length 0 e hm, below_draw_alloc w _⟩
  refine ⟨by simp, fun hn => ⟨w.heap.size, 0, rfl, by simp [World.alloc, World.drew, -World.alloc_eq, -World.drew_eq], fun j u hu => ?_⟩⟩
  have h2 := World.cell?_alloc_mark w.drew (bytesRow s (grownCap w l.length 0 e)) e ((bytesRow s (grownCap w l.length 0 e)).size, (bytesRow s (grownCap w l.length 0 e)).size + 1) j
  rw [Nat.zero_add]
  refine h2.trans ?_
  have hj : j < l.length := by
    have := (List.getElem?_eq_some_iff.1 hu).1
    simpa using this
  unfold bytesRow
  rw [Array.getElem?_append_left (by simp; rw [← hl] at hj; simpa using hj)]
  rw [List.getElem?_map] at hu
  rw [Array.getElem?_map, ← Array.getElem?_toList, hl, ← hu]
  rfl
/-- A string's front. -/
theorem front_str (s : ByteArray) (l : List UInt8) (k : Nat) (hl : s.data.toList = l) : (s.extract 0 k).data.toList = l.take k := by
  rw [← hl]
  simp [ByteArray.data_extract, Array.toList_extract, List.extract]
theorem str_size (s : ByteArray) (l : List UInt8) (hl : s.data.toList = l) : s.size = l.length := by rw [← hl, Array.length_toList]; rfl
end Go.Proofs.YtgnialemiefeeaaDoor
