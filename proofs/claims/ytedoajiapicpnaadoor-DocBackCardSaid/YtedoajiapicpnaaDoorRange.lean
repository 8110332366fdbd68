/-
  A range over a string: the step at any byte. No program in sight.
-/
import Derived.Test.YtedoajiapicpnaaDoorStr
import Derived.Laws.RangeString
namespace Go.Proofs.YtedoajiapicpnaaDoor
open Go.RowKit

theorem decode_first (s : ByteArray) (pos : Nat) (h : pos < s.size) : s.get! (pos + 0) = s[pos]'h := by
  show s.get! pos = _
  simp [ByteArray.get!, getElem!_pos, h]
  rfl
/-- A byte from 128 on begins no rune below 128. -/
theorem decode_high (s : ByteArray) (pos : Nat) (h : pos < s.size) (ha : 128 ≤ (s[pos]'h).toNat) : 128 ≤ (Utf8.decode s pos).1 ∧ (Utf8.decode s pos).1 < 1114112 ∧ 1 ≤ (Utf8.decode s pos).2 := by
  have e := decode_first s pos h
  have hlt : (s[pos]'h).toNat < 256 := (s[pos]'h).toNat_lt
  unfold Utf8.decode
  simp only [e]
  rw [if_neg (by omega)]
  have hr : Utf8.runeError = 65533 := rfl
  split
  · split
    · rename_i h2
      refine ⟨h2, ?_, by simp⟩
      simp only
      omega
    · simp [hr]
  · split
    · split
      · rename_i h2
        simp only [Bool.and_eq_true, decide_eq_true_eq] at h2
        refine ⟨by simp only; omega, ?_, by simp⟩
        simp only
        omega
      · simp [hr]
    · split
      · split
        · rename_i h2
          simp only [Bool.and_eq_true, decide_eq_true_eq, Utf8.valid] at h2
          refine ⟨by simp only; omega, ?_, by simp⟩
          simp only
          have := h2.2
          simp at this
          omega
        · simp [hr]
      · simp [hr]

/-- The step of a range over a string. -/
theorem run_next_any {P : Program} (w : World) (s : ByteArray) (pos : Nat) (ty : TypeId) (h : pos < s.size) :
    (Instr.next (.pointer (some ⟨w.heap.size, 0, none⟩)) true ty).run P (w.iter s pos) =
      .ok (.tuple #[.bool true, .int .i64 pos, .int .i32 (Utf8.decode s pos).1]) (w.iter s (pos + (Utf8.decode s pos).2)) := by
  simp only [Instr.next, getObj, setObj, Sem.run_bind, Sem.run, World.iter_heap, Result.andThen, h, if_true, World.iter_set]
  simp [goInt]
end Go.Proofs.YtedoajiapicpnaaDoor
