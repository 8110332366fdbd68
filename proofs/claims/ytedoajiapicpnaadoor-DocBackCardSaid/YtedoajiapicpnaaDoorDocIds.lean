/-
  Layer 19: the walk of DocIds.
-/
import Derived.Test.YtedoajiapicpnaaDoorDocZ
import Derived.WalkSpells
namespace Go.Proofs.YtedoajiapicpnaaDoor
open Go.RowKit
attribute [local go_sem ↓] Go.wp_at_zero Go.wp_at_succ

theorem idErr_yes (l : List UInt8) (h : idL l = true) : idErr l = 0 := by unfold idErr; rw [if_pos h]
theorem idErr_no (l : List UInt8) (h : idL l = false) : idErr l = 290 := by unfold idErr; rw [h]; rfl

set_option maxHeartbeats 1000000 in
theorem docIds_walk (w : World) (s : ByteArray) (hs : s.size ≤ maxLen) (htab : Tab w) :
    Calls Tryd.prog 3 #[.string s] w fun e w' => e = .returned (.bool true) ∧ Below w.heap.size w w' := by
  unfold maxLen at hs
  go_enter Tryd.func3, Tryd.ntmps3
  go_wp2_with fail
  refine (wakes_any w htab).mono ?_
  rintro e w1 ⟨rfl, hb1⟩
  by_cases h : s.size ≤ 100
  · have hm : min (s.size : Int) 100 = (s.size : Int) := by omega
    go_wp2_with fail
    refine (refId_any _ _).mono ?_
    rintro e w2 ⟨rfl, rfl⟩
    by_cases hi : idL s.data.toList = true
    · have he := idErr_yes _ hi
      rw [hi]
      clear hi
      go_wp2_with fail
      refine (check_any _ _).mono ?_
      rintro e w3 ⟨rfl, rfl⟩
      rw [he]
      go_wp2
      go_ret
      exact ⟨rfl, hb1⟩
    · have hi2 : idL s.data.toList = false := by simpa using hi
      have he := idErr_no _ hi2
      rw [hi2]
      clear hi hi2
      go_wp2_with fail
      refine (check_any _ _).mono ?_
      rintro e w3 ⟨rfl, rfl⟩
      rw [he]
      go_wp2
      go_ret
      exact ⟨rfl, hb1⟩
  · have hm : min (s.size : Int) 100 = 100 := by omega
    have h2 : 100 < s.size := by omega
    clear h
    go_wp2_with fail
    refine (refId_any _ _).mono ?_
    rintro e w2 ⟨rfl, rfl⟩
    generalize s.extract 0 100 = t at *
    by_cases hi : idL t.data.toList = true
    · have he := idErr_yes _ hi
      rw [hi]
      clear hi
      go_wp2_with fail
      refine (check_any _ _).mono ?_
      rintro e w3 ⟨rfl, rfl⟩
      rw [he]
      go_wp2
      go_ret
      exact ⟨rfl, hb1⟩
    · have hi2 : idL t.data.toList = false := by simpa using hi
      have he := idErr_no _ hi2
      rw [hi2]
      clear hi hi2
      go_wp2_with fail
      refine (check_any _ _).mono ?_
      rintro e w3 ⟨rfl, rfl⟩
      rw [he]
      go_wp2
      go_ret
      exact ⟨rfl, hb1⟩
end Go.Proofs.YtedoajiapicpnaaDoor
