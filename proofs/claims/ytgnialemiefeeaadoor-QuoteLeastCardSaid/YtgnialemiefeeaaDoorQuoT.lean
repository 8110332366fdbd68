/-
  Layer 2, the reference: Digit, Four, Letter, Wrong.
-/
import Derived.Test.YtgnialemiefeeaaDoorQuoB
namespace Go.Proofs.YtgnialemiefeeaaDoor
open Go.RowKit

theorem ret_i {a b : Int} (h : a = b) : Ending.returned (.int .i64 a) = .returned (.int .i64 b) := by rw [h]
/-- The number of a digit, or -1. -/
def digI (c : Nat) : Int := if hexD c < 16 then (hexD c : Int) else -1
theorem digI_yes {c : Nat} (h : hexD c < 16) : digI c = (hexD c : Int) := if_pos h
theorem digI_no {c : Nat} (h : hexD c = 16) : digI c = -1 := if_neg (by omega)
set_option maxRecDepth 20000 in
set_option maxHeartbeats 1000000 in
theorem digit_any (c : Nat) (hc : c < 256) (w : World) :
    Calls Tryd.prog 54 #[.int .u8 (c : Int)] w fun e w' => e = .returned (.int .i64 (digI c)) ∧ w' = w := by
  by_cases c1 : 48 ≤ c ∧ c ≤ 57
  · have HR := Lib.hid (show digI c = (c : Int) - 48 by rw [digI_yes (by unfold hexD; rw [if_pos c1]; omega)]; unfold hexD; rw [if_pos c1]; omega)
    have b1 : (48 : Int) ≤ c := by omega
    have b2 : (c : Int) ≤ 57 := by omega
    clear c1
    go_enter Tryd.func54, Tryd.ntmps54
    go_wp2
    go_ret
    exact ⟨ret_i (by rw [HR.out]), rfl⟩
  · by_cases c2 : 97 ≤ c ∧ c ≤ 102
    · have HR := Lib.hid (show digI c = (c : Int) - 97 + 10 by rw [digI_yes (by unfold hexD; rw [if_neg c1, if_pos c2]; omega)]; unfold hexD; rw [if_neg c1, if_pos c2]; omega)
      have b0 : (48 : Int) ≤ c := by omega
      have b1 : ((c : Int) ≤ 57) = False := by simp; omega
      have b2 : (97 : Int) ≤ c := by omega
      have b3 : (c : Int) ≤ 102 := by omega
      clear c1 c2
      go_enter Tryd.func54, Tryd.ntmps54
      go_wp2
      go_ret
      exact ⟨ret_i (by rw [HR.out]), rfl⟩
    · by_cases c3 : 65 ≤ c ∧ c ≤ 70
      · have HR := Lib.hid (show digI c = (c : Int) - 65 + 10 by rw [digI_yes (by unfold hexD; rw [if_neg c1, if_neg c2, if_pos c3]; omega)]; unfold hexD; rw [if_neg c1, if_neg c2, if_pos c3]; omega)
        have b0 : (48 : Int) ≤ c := by omega
        have b1 : ((c : Int) ≤ 57) = False := by simp; omega
        have b2 : ((97 : Int) ≤ c) = False := by simp; omega
        have b3 : (65 : Int) ≤ c := by omega
        have b4 : (c : Int) ≤ 70 := by omega
        clear c1 c2 c3
        go_enter Tryd.func54, Tryd.ntmps54
        go_wp2
        go_ret
        exact ⟨ret_i (by rw [HR.out]), rfl⟩
      · have HR := Lib.hid (show digI c = -1 from digI_no (by unfold hexD; rw [if_neg c1, if_neg c2, if_neg c3]))
        have Hc : c < 48 ∨ (57 < c ∧ c < 65) ∨ (70 < c ∧ c < 97) ∨ 102 < c := by omega
        clear c1 c2 c3
        rcases Hc with h1 | ⟨h1, h2⟩ | ⟨h1, h2⟩ | h1
        · have k0 : ((48 : Int) ≤ c) = False := by simp; omega
          have k1 : ((97 : Int) ≤ c) = False := by simp; omega
          have k2 : ((65 : Int) ≤ c) = False := by simp; omega
          go_enter Tryd.func54, Tryd.ntmps54
          go_wp2
          go_ret
          exact ⟨ret_i (by rw [HR.out]), rfl⟩
        · have k0 : (48 : Int) ≤ c := by omega
          have k1 : ((c : Int) ≤ 57) = False := by simp; omega
          have k2 : ((97 : Int) ≤ c) = False := by simp; omega
          have k3 : ((65 : Int) ≤ c) = False := by simp; omega
          go_enter Tryd.func54, Tryd.ntmps54
          go_wp2
          go_ret
          exact ⟨ret_i (by rw [HR.out]), rfl⟩
        · have k0 : (48 : Int) ≤ c := by omega
          have k1 : ((c : Int) ≤ 57) = False := by simp; omega
          have k2 : ((97 : Int) ≤ c) = False := by simp; omega
          have k3 : (65 : Int) ≤ c := by omega
          have k4 : ((c : Int) ≤ 70) = False := by simp; omega
          go_enter Tryd.func54, Tryd.ntmps54
          go_wp2
          go_ret
          exact ⟨ret_i (by rw [HR.out]), rfl⟩
        · have k0 : (48 : Int) ≤ c := by omega
          have k1 : ((c : Int) ≤ 57) = False := by simp; omega
          have k2 : (97 : Int) ≤ c := by omega
          have k3 : ((c : Int) ≤ 102) = False := by simp; omega
          have k4 : (65 : Int) ≤ c := by omega
          have k5 : ((c : Int) ≤ 70) = False := by simp; omega
          go_enter Tryd.func54, Tryd.ntmps54
          go_wp2
          go_ret
          exact ⟨ret_i (by rw [HR.out]), rfl⟩

set_option maxRecDepth 20000 in
set_option maxHeartbeats 1000000 in
theorem wrong_any (A : Option Addr) (m c0 B p : Nat) (l : List UInt8) (w : World) (hl : Bytes w B A m l) (hm : m ≤ maxLen) (hp : p ≤ m) :
    Calls Tryd.prog 15 #[.slice A m c0, .int .i64 p] w fun e w' => e = .returned (.int .i64 (faultN l p)) ∧ w' = w := by
  unfold maxLen at hm
  have hp0 : (0 : Int) ≤ p := by omega
  by_cases h : p = m
  · have HR := Lib.hid (show faultN l p = 6 from if_pos (by rw [hl.len]; omega))
    subst h
    clear hl
    go_enter Tryd.func15, Tryd.ntmps15
    go_wp2
    go_ret
    exact ⟨ret_i (by rw [HR.out]), rfl⟩
  · have hn : ¬ l.length ≤ p := by rw [hl.len]; omega
    have h' : ((p : Int) == (m : Int)) = false := by rw [beq_eq_false_iff_ne]; omega
    have h3 : (p : Int) < m := by omega
    obtain ⟨b, off, rfl, hbB, hc0⟩ := hl.cell (k := p) (by omega)
    rw [show at8 l p = ((at0 l p : Nat) : Int) from rfl] at hc0
    have hx0 := at0_lt l p
    by_cases hc : 128 ≤ at0 l p
    · have HR := Lib.hid (show faultN l p = 110 by unfold faultN; rw [if_neg hn, if_pos hc])
      clear hl hn h
      generalize at0 l p = x at *
      have hc' : (128 : Int) ≤ x := by omega
      go_enter Tryd.func15, Tryd.ntmps15
      go_wp2
      go_ret
      exact ⟨ret_i (by rw [HR.out]), rfl⟩
    · have HR := Lib.hid (show faultN l p = 7 by unfold faultN; rw [if_neg hn, if_neg hc])
      clear hl hn h
      generalize at0 l p = x at *
      have hc' : ((128 : Int) ≤ x) = False := by simp; omega
      go_enter Tryd.func15, Tryd.ntmps15
      go_wp2
      go_ret
      exact ⟨ret_i (by rw [HR.out]), rfl⟩
end Go.Proofs.YtgnialemiefeeaaDoor
