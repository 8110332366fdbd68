/-
  few and Holds.
-/
import Derived.Test.YtjkdbhhcmpmknaaDoorCrcL
import Derived.Deep.RegionHeld3
import Derived.Deep.DrawnRows
namespace Go.Proofs.YtjkdbhhcmpmknaaDoor
open Go.RowKit
attribute [local go_sem ↓] Go.wp_at_zero Go.wp_at_succ

set_option maxHeartbeats 1000000 in
theorem few_any (A : Option Addr) (n c B : Nat) (l : List UInt8) (w : World) (h : Bytes w B A n l) (hA : A = none → c = 0) (hB : B ≤ w.heap.size) (hn : n ≤ c) (hc : c ≤ maxLen) :
    Calls Tryd.prog 10 #[.slice A n c] w (GivesBytes 5 (l.take 400) w) := by
  unfold maxLen at hc
  by_cases h4 : n ≤ 400
  · have hl : l.take 400 = l := List.take_of_length_le (by rw [h.len]; exact h4)
    rw [hl]
    clear hl
    have hm : min (n : Int) 400 = (n : Int) := by omega
    go_enter Tryd.func10, Tryd.ntmps10
    go_wp2_with fail
    refine (clone_any A n c l B _ h hA hB (by omega)).mono ?_
    rintro e w1 ⟨A1, n1, c1, rfl, hown, hb⟩
    go_wp2
    go_ret
    exact ⟨A1, n1, c1, rfl, hown, hb⟩
  · have hm : min (n : Int) 400 = 400 := by omega
    have h5 := h.first (k := 400) (by omega)
    go_enter Tryd.func10, Tryd.ntmps10
    go_wp2_with fail
    refine (clone_any A 400 c (l.take 400) B _ h5 hA hB (by omega)).mono ?_
    rintro e w1 ⟨A1, n1, c1, rfl, hown, hb⟩
    go_wp2
    go_ret
    exact ⟨A1, n1, c1, rfl, hown, hb⟩

/-- A sequence is sealed. -/
def sealedB (l : List UInt8) : Bool := decide (4 ≤ l.length) && sameB (l.drop (l.length - 4)) (Crc.laid (Crc.more 0 (l.take (l.length - 4))))

set_option maxHeartbeats 1000000 in
theorem holds_any (A : Option Addr) (n c B : Nat) (l : List UInt8) (w : World) (htab : Tab w) (h : Bytes w B A n l) (hB : B ≤ w.heap.size) (hn : n ≤ c) (hc : c ≤ maxLen) :
    Calls Tryd.prog 17 #[.slice A n c] w fun e w' => e = .returned (.bool (sealedB l)) ∧ Below w.heap.size w w' := by
  unfold maxLen at hc
  have hl := h.len
  by_cases h4 : 4 ≤ n
  · have hr : sealedB l = sameB (l.drop (n - 4)) (Crc.laid (Crc.more 0 (l.take (n - 4)))) := by
      unfold sealedB
      rw [hl, decide_eq_true h4, Bool.true_and]
    have Hr := Lib.hid hr
    clear hr
    obtain ⟨m, rfl⟩ : ∃ m, n = m + 4 := ⟨n - 4, by omega⟩
    have hcut := h.cut (k := m) (cap := c) (by omega) hn
    have hfst := h.first (k := m) (by omega)
    have hcm : ¬ c = m := by omega
    rw [show m + 4 - m = 4 by omega, if_neg hcm] at hcut
    rw [show m + 4 - 4 = m by omega] at Hr
    clear hl
    have i1 : (0 : Int) ≤ (m : Int) := by omega
    have i2 : (m : Int) ≤ (m : Int) + 4 := by omega
    have i3 : (m : Int) ≤ (c : Int) := by omega
    have i4 : (m : Int) + 4 ≤ (c : Int) := by omega
    go_enter Tryd.func17, Tryd.ntmps17
    go_wp2_with fail
    go_region_held3 (fun w' => True) (trivial) (first
      | (go_at_call 11; refine (sum_any A m c B (l.take m) _ (by exact htab) (by exact hfst) (by exact hB) (by unfold maxLen; omega)).mono ?_; rintro e w1 ⟨rfl, hb1⟩)
      | (go_at_call 23; refine (lay_any _ _ (Crc.more_lt 0 (l.take m))).mono ?_; rintro e w2 ⟨A2, n2, c2, rfl, hown2, hb2⟩)
      | (go_at_call 14; refine (equal_any _ _ 4 _ _ _ (l.drop m) (Crc.laid (Crc.more 0 (l.take m))) B _ _ (by exact (hcut.below ((below_undrew hb1).mono hB)).below (hb2.mono (Nat.le_trans hB hb1.size))) (by exact Bytes.own hown2) (by unfold maxLen; omega) (by have h1 := hown2.1; simp [Crc.laid] at h1; unfold maxLen; omega)).mono ?_; rintro e w3 ⟨rfl, k3, rfl⟩))
    go_wp2
    go_ret
    exact ⟨by rw [Hr.out]; rfl, below_drewN ((below_undrew hb1).trans (hb2.mono hb1.size)) _⟩
  · have hr : sealedB l = false := by
      unfold sealedB
      rw [hl, decide_eq_false h4, Bool.false_and]
    have Hr := Lib.hid hr
    clear hr
    clear hl
    have hd : decide ((0 : Int) ≤ (n : Int) - 4) = false := decide_eq_false (by omega)
    have hd2 : decide ((4 : Int) ≤ (n : Int)) = false := decide_eq_false (by omega)
    have hd3 : decide (4 ≤ n) = false := decide_eq_false h4
    go_enter Tryd.func17, Tryd.ntmps17
    go_wp2_with fail
    go_quiet (fail)
    go_wp2
    go_ret
    exact ⟨by rw [Hr.out]; rfl, below_drewN (Below.refl _ _) _⟩
end Go.Proofs.YtjkdbhhcmpmknaaDoor
