/-
  Layer 1: the forms by index; the least that fits.
-/
import Derived.Test.YtnldiemggabdkaaDoorUtfH
import Derived.WalkLawsBesides
namespace Go.Proofs.YtnldiemggabdkaaDoor
open Go.RowKit

def fl : Nat → Int | 0 => 0 | 1 => 128 | 2 => 2048 | 3 => 65536 | _ => 0
def fh : Nat → Int | 0 => 127 | 1 => 2047 | 2 => 65535 | 3 => 1114111 | _ => 0
def fs : Nat → Int | 0 => 1 | 1 => 2 | 2 => 3 | 3 => 4 | _ => 0
def fd : Nat → Int | 0 => 0 | 1 => 192 | 2 => 224 | 3 => 240 | _ => 0
/-- The form of an index; from 4 on: none. -/
def formK (k : Nat) : Value := .agg #[.int .i64 (fl k), .int .i64 (fh k), .int .i64 (fs k), .int .i64 (fd k)]
def firstK (P : Nat → Bool) : Nat := if P 0 then 0 else if P 1 then 1 else if P 2 then 2 else if P 3 then 3 else 4

set_option maxRecDepth 20000 in
theorem index_form (k : Nat) (hk : k < 4) : ∀ w, (Instr.index 121 (.agg utab.toArray) (.int .i64 (k : Int))).run Tryd.prog w = .ok (.agg #[.int .i64 (fl k), .int .i64 (fh k), .int .i64 (fs k), .int .i64 (fd k)]) w := by
  rcases (show k = 0 ∨ k = 1 ∨ k = 2 ∨ k = 3 by omega) with rfl | rfl | rfl | rfl
  · exact fun _ => by kernel_rfl
  · exact fun _ => by kernel_rfl
  · exact fun _ => by kernel_rfl
  · exact fun _ => by kernel_rfl
set_option maxRecDepth 20000 in
theorem info_tab : (Tryd.prog.info? 121).map (·.size) = some utab.length := by kernel_rfl
theorem first_yes (P : Nat → Bool) (k : Nat) (hk : k < 4) (h : ∀ j, j < k → P j = false) (hq : P k = true) : firstK P = k := by
  unfold firstK
  rcases (show k = 0 ∨ k = 1 ∨ k = 2 ∨ k = 3 by omega) with rfl | rfl | rfl | rfl
  · rw [hq, if_pos rfl]
  · rw [h 0 (by omega), if_neg (by simp), hq, if_pos rfl]
  · rw [h 0 (by omega), if_neg (by simp), h 1 (by omega), if_neg (by simp), hq, if_pos rfl]
  · rw [h 0 (by omega), if_neg (by simp), h 1 (by omega), if_neg (by simp), h 2 (by omega), if_neg (by simp), hq, if_pos rfl]
theorem first_no (P : Nat → Bool) (h : ∀ j, j < 4 → P j = false) : firstK P = 4 := by
  unfold firstK
  rw [h 0 (by omega), if_neg (by simp), h 1 (by omega), if_neg (by simp), h 2 (by omega), if_neg (by simp), h 3 (by omega), if_neg (by simp)]
end Go.Proofs.YtnldiemggabdkaaDoor
