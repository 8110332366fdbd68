/-
  Layer 19: digits, in the package and in the reference.
-/
import Derived.Test.YtedoajiapicpnaaDoorDocT
namespace Go.Proofs.YtedoajiapicpnaaDoor
open Go.RowKit
attribute [local go_sem ↓] Go.wp_at_zero Go.wp_at_succ

/-- The value of a digit, or 16. -/
def digN (r : Nat) : Nat := if 48 ≤ r ∧ r ≤ 57 then r - 48 else if 97 ≤ r ∧ r ≤ 102 then r - 97 + 10 else 16
theorem digN_cases (r : Nat) : (r < 48 ∧ digN r = 16) ∨ ((48 ≤ r ∧ r ≤ 57) ∧ digN r = r - 48) ∨ ((58 ≤ r ∧ r ≤ 96) ∧ digN r = 16) ∨ ((97 ≤ r ∧ r ≤ 102) ∧ digN r = r - 87) ∨ (103 ≤ r ∧ digN r = 16) := by
  unfold digN
  by_cases h1 : 48 ≤ r ∧ r ≤ 57
  · rw [if_pos h1]; omega
  · rw [if_neg h1]
    by_cases h2 : 97 ≤ r ∧ r ≤ 102
    · rw [if_pos h2]; omega
    · rw [if_neg h2]; omega

set_option maxHeartbeats 1000000 in
theorem digit_any (r : Nat) (w : World) (hr : r < 2147483648) :
    Calls Tryd.prog 41 #[.int .i32 (r : Int)] w fun e w' => e = .returned (.int .u64 (digN r : Int)) ∧ w = w' := by
  rcases digN_cases r with ⟨h, hr⟩ | ⟨⟨h, h2⟩, hr⟩ | ⟨⟨h, h2⟩, hr⟩ | ⟨⟨h, h2⟩, hr⟩ | ⟨h, hr⟩
  all_goals
    have Hr := Lib.hid hr
    clear hr
    go_enter Tryd.func41, Tryd.ntmps41
    go_wp2
    go_ret
    exact ⟨by rw [Hr.out]; first | rfl | (simp; done) | (simp; omega), rfl⟩

theorem hx_low (k : Nat) (h : k < 10) : ((hx k).toNat : Int) = 48 + (k : Int) := by
  unfold hx
  rw [if_pos h, UInt8.toNat_ofNat']
  omega
theorem hx_high (k : Nat) (h : ¬ k < 10) (h2 : k < 16) : ((hx k).toNat : Int) = 87 + (k : Int) := by
  unfold hx
  rw [if_neg h, UInt8.toNat_ofNat']
  omega

set_option maxHeartbeats 1000000 in
theorem sign_any (k : Nat) (w : World) (hk : k < 16) :
    Calls Tryd.prog 39 #[.int .u32 (k : Int)] w fun e w' => e = .returned (.int .u8 ((hx k).toNat : Int)) ∧ w = w' := by
  by_cases h : k < 10
  · have Hr := Lib.hid (hx_low k h)
    go_enter Tryd.func39, Tryd.ntmps39
    go_wp2
    go_ret
    exact ⟨by rw [Hr.out]; first | rfl | (simp; done) | (simp; omega), rfl⟩
  · have Hr := Lib.hid (hx_high k h hk)
    go_enter Tryd.func39, Tryd.ntmps39
    go_wp2
    go_ret
    exact ⟨by rw [Hr.out]; first | rfl | (simp; done) | (simp; omega), rfl⟩

set_option maxHeartbeats 1000000 in
theorem none_any (g m : Nat) (w : World) :
    Calls Tryd.prog 38 #[revV g m] w fun e w' => e = .returned (.bool (decide (g = 0) && decide (m = 0))) ∧ Below w.heap.size w w' := by
  have hv : revV g m = .agg #[.int .u32 (g : Int), .int .u32 (m : Int)] := rfl
  rw [hv]
  clear hv
  by_cases hg : g = 0
  · subst hg
    by_cases hm : m = 0
    · subst hm
      go_enter Tryd.func38, Tryd.ntmps38
      go_wp2
      go_ret
      exact ⟨rfl, (Below.refl _ _).alloc (Nat.le_refl _) _⟩
    · have hmz : ((m : Int) == 0) = false := beq_eq_false_iff_ne.2 (by omega)
      rw [decide_eq_false hm, Bool.and_false]
      clear hm
      go_enter Tryd.func38, Tryd.ntmps38
      go_wp2
      go_ret
      exact ⟨rfl, (Below.refl _ _).alloc (Nat.le_refl _) _⟩
  · have hgz : ((g : Int) == 0) = false := beq_eq_false_iff_ne.2 (by omega)
    rw [decide_eq_false hg, Bool.false_and]
    clear hg
    go_enter Tryd.func38, Tryd.ntmps38
    go_wp2
    go_ret
    exact ⟨rfl, (Below.refl _ _).alloc (Nat.le_refl _) _⟩

theorem hx_digN (k : Nat) (hk : k < 16) (c : Nat) : (hx k).toNat = c ↔ digN c = k := by
  have h1 : ((hx k).toNat : Int) = if k < 10 then 48 + (k : Int) else 87 + (k : Int) := by
    split
    · exact hx_low k (by assumption)
    · exact hx_high k (by assumption) hk
  rcases digN_cases c with ⟨h, hr⟩ | ⟨⟨h, h2⟩, hr⟩ | ⟨⟨h, h2⟩, hr⟩ | ⟨⟨h, h2⟩, hr⟩ | ⟨h, hr⟩ <;> rw [hr] <;> split at h1 <;> omega
/-- A sign's number to a base, or -1. -/
def valI (c base : Nat) : Int := if digN c < base then (digN c : Int) else -1

set_option maxHeartbeats 1000000 in
theorem value_any (c base : Nat) (w : World) (hb : base ≤ 16) :
    Calls Tryd.prog 42 #[.int .u8 (c : Int), .int .u32 (base : Int)] w fun e w' => e = .returned (.int .i64 (valI c base)) ∧ w = w' := by
  go_enter Tryd.func42, Tryd.ntmps42
  go_wp2
  go_loop [5] (fun x => ∃ k : Nat, k ≤ base ∧ x = .int .u32 k ∧ Hid (k ≤ digN c)) (fun x => base - (intOf x).toNat)
  case atStart => exact ⟨0, Nat.zero_le _, rfl, Lib.hid (Nat.zero_le _)⟩
  case round =>
    obtain ⟨k, hk, rfl, Hk⟩ := hrel
    by_cases hlt : k < base
    · have hi := hx_digN k (by omega) c
      go_wp2_with fail
      refine (sign_any k _ (by omega)).mono ?_
      rintro e w1 ⟨rfl, rfl⟩
      by_cases he : (hx k).toNat = c
      · have hd := hi.1 he
        have Hr := Lib.hid (show valI c base = (k : Int) by unfold valI; rw [hd, if_pos hlt])
        have hq : (((hx k).toNat : Int) == (c : Int)) = true := by rw [he]; simp
        clear hi he hd
        go_wp2
        go_ret
        exact ⟨by rw [Hr.out]; rfl, rfl⟩
      · have hd : digN c ≠ k := fun h => he (hi.2 h)
        have hq : (((hx k).toNat : Int) == (c : Int)) = false := beq_eq_false_iff_ne.2 (by omega)
        have Hk2 := Lib.hid (show k + 1 ≤ digN c by have := Hk.out; omega)
        clear hi he hd
        go_wp2
        go_round
        case rel => exact ⟨k + 1, by omega, by go_num, Hk2⟩
        case measure => simp [intOf]; omega
    · have Hr := Lib.hid (show valI c base = -1 by unfold valI; rw [if_neg (by have := Hk.out; omega)])
      go_wp2
      go_ret
      exact ⟨by rw [Hr.out]; rfl, rfl⟩
end Go.Proofs.YtedoajiapicpnaaDoor
