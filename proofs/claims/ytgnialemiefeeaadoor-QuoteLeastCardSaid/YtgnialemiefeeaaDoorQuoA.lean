/-
  Layer 2: hex, number, fault.
-/
import Derived.Test.YtgnialemiefeeaaDoorQuoP
import Derived.Test.YtgnialemiefeeaaDoorUtfL
namespace Go.Proofs.YtgnialemiefeeaaDoor
open Go.RowKit

/-- The number of the first digits. -/
def hx (l : List UInt8) : Nat → Nat | 0 => 0 | j + 1 => hx l j * 16 + hexD (at0 l j)
theorem hx_lt (l : List UInt8) : ∀ j, (∀ q, q < j → hexD (at0 l q) < 16) → j ≤ 4 → hx l j < 65536
  | 0, _, _ => Nat.zero_lt_succ _
  | 1, h, _ => by have := h 0 (by omega); simp only [hx]; omega
  | 2, h, _ => by have := h 0 (by omega); have := h 1 (by omega); simp only [hx]; omega
  | 3, h, _ => by have := h 0 (by omega); have := h 1 (by omega); have := h 2 (by omega); simp only [hx]; omega
  | 4, h, _ => by have := h 0 (by omega); have := h 1 (by omega); have := h 2 (by omega); have := h 3 (by omega); simp only [hx]; omega
/-- A number, or -1. -/
def optI (o : Option Nat) : Int := match o with | some n => (n : Int) | none => -1
theorem hex_yes {l : List UInt8} (h4 : 4 ≤ l.length) (h : ∀ q, q < 4 → hexD (at0 l q) < 16) : hexL l = some (hx l 4) := by
  unfold hexL
  rw [if_pos ⟨h4, h 0 (by omega), h 1 (by omega), h 2 (by omega), h 3 (by omega)⟩]
  simp only [hx]
  congr 1
  omega
theorem hex_no {l : List UInt8} (q : Nat) (hq : q < 4) (h : hexD (at0 l q) = 16) : hexL l = none := by
  unfold hexL
  refine if_neg fun h2 => ?_
  rcases (show q = 0 ∨ q = 1 ∨ q = 2 ∨ q = 3 by omega) with rfl | rfl | rfl | rfl <;> omega
theorem hex_short {l : List UInt8} (h : l.length < 4) : hexL l = none := by
  unfold hexL
  exact if_neg fun h2 => by omega
theorem shl4_or (a b : Nat) (ha : a < 65536) (h : b < 16) : bits .or .i64 ((a : Int) * 16) (b : Int) = ((a * 16 + b : Nat) : Int) := by
  have e := or_sum 4 a b (by simpa using h)
  have h2 := i64_or_nat (2 ^ 4 * a) b (by omega) (by omega)
  rw [e] at h2
  rw [show (a : Int) * 16 = ((2 ^ 4 * a : Nat) : Int) by push_cast; omega, h2]
  congr 1
  omega

set_option maxRecDepth 20000 in
set_option maxHeartbeats 1000000 in
theorem hex_any (A : Option Addr) (m c0 B : Nat) (l : List UInt8) (w : World) (hl : Bytes w B A m l) (hm : m ≤ maxLen) (hmc : m ≤ c0) :
    Calls Tryd.prog 68 #[.slice A m c0] w fun e w' => e = .returned (.int .i64 (optI (hexL l))) ∧ w' = w := by
  unfold maxLen at hm
  by_cases h4 : m < 4
  · have HR := Lib.hid (hex_short (l := l) (by rw [hl.len]; exact h4))
    have h4' : (m : Int) < 4 := by omega
    go_enter Tryd.func68, Tryd.ntmps68
    go_wp2
    go_ret
    exact ⟨by rw [HR.out]; rfl, rfl⟩
  · have h4' : ¬ (m : Int) < 4 := by omega
    have h4b : ¬ (c0 : Int) < 4 := by omega
    have h4c : (4 : Int) ≤ c0 := by omega
    obtain ⟨b, off, rfl, hbB, _⟩ := hl.cell (k := 0) (by omega)
    have hcell : ∀ (j : Nat), j < m → w.cell? ⟨b, off + j, none⟩ = some (.int .u8 (at8 l j)) := fun j hj => by
      obtain ⟨b', off', e, _, hc⟩ := hl.cell hj
      injection e with e
      injection e with e1 e2
      subst e1; subst e2
      exact hc
    have hlen := Lib.hid hl.len
    clear hl hbB
    go_enter Tryd.func68, Tryd.ntmps68
    go_wp2
    go_loopw [3, 12] (fun n i wr => ∃ j : Nat, j ≤ 4 ∧ i = .int .i64 j ∧ n = .int .i64 (hx l j : Nat) ∧ (∀ q, q < j → hexD (at0 l q) < 16) ∧ wr = w) (fun _ i _ => 8 - (intOf i).toNat)
    case atStart => exact ⟨0, by omega, rfl, rfl, fun q h => by omega, rfl⟩
    case round =>
      obtain ⟨j, hj, rfl, rfl, hq, rfl⟩ := hrel
      have Hlt := Lib.hid (hx_lt l j hq hj)
      by_cases hj4 : j < 4
      · have hj4' : (j : Int) < 4 := by omega
        have hj0 : (0 : Int) ≤ j := by omega
        have hc := hcell j (by omega)
        rw [show at8 l j = ((at0 l j : Nat) : Int) from rfl] at hc
        have hx0 := at0_lt l j
        have Hq := Lib.hid hq
        have Hstep := Lib.hid (show hx l (j + 1) = hx l j * 16 + hexD (at0 l j) from rfl)
        have Hin := Lib.hid (fun h : hexD (at0 l j) < 16 => show ∀ q, q < j + 1 → hexD (at0 l q) < 16 from fun q h2 => if e : q = j then e ▸ h else hq q (by omega))
        have Hno := Lib.hid (fun h : hexD (at0 l j) = 16 => hex_no j hj4 h)
        clear hq
        generalize hh : hx l j = h at *
        generalize hxx : at0 l j = x at *
        clear hh hxx
        by_cases c : 48 ≤ x ∧ x ≤ 57
        · have e1 : hexD x = x - 48 := by unfold hexD; rw [if_pos c]
          rw [e1] at Hstep Hin
          obtain ⟨a1, a2⟩ := c
          have b1 : (48 : Int) ≤ x := by omega
          have b2 : (x : Int) ≤ 57 := by omega
          have hlt := Hlt.out
          have hor := shl4_or h (x - 48) hlt (by omega)
          have Ho := Lib.hid hor
          rw [show ((x - 48 : Nat) : Int) = (x : Int) - 48 by omega] at hor
          clear e1
          go_wp2
          go_roundw
          case rel => exact ⟨j + 1, by omega, by go_num, by rw [Hstep.out]; first | rfl | (simp; rfl) | (simp; done) | (simp; omega), Hin.out (by omega), by first | rfl | trivial⟩
          case measure => simp [intOf]; omega
        · have n1 : ¬ ((48 : Int) ≤ x ∧ (x : Int) ≤ 57) := by omega
          by_cases c2 : 97 ≤ x ∧ x ≤ 102
          · have e1 : hexD x = x - 87 := by unfold hexD; rw [if_neg c, if_pos c2]
            rw [e1] at Hstep Hin
            have n2 : ¬ ((x : Int) ≤ 57) := by omega
            have n3 : (48 : Int) ≤ x := by omega
            clear c n1
            have c := c2
            clear c2
            obtain ⟨a1, a2⟩ := c
            have b1 : (97 : Int) ≤ x := by omega
            have b2 : (x : Int) ≤ 102 := by omega
            have hlt := Hlt.out
            have ha : (x : Int) - 97 + 10 = (x : Int) - 87 := by omega
            have hor := shl4_or h (x - 87) hlt (by omega)
            have Ho := Lib.hid hor
            rw [show ((x - 87 : Nat) : Int) = (x : Int) - 87 by omega] at hor
            clear e1
            go_wp2
            go_roundw
            case rel => exact ⟨j + 1, by omega, by go_num, by rw [Hstep.out]; first | rfl | (simp; rfl) | (simp; done) | (simp; omega), Hin.out (by omega), by first | rfl | trivial⟩
            case measure => simp [intOf]; omega
          · by_cases c3 : 65 ≤ x ∧ x ≤ 70
            · have e1 : hexD x = x - 55 := by unfold hexD; rw [if_neg c, if_neg c2, if_pos c3]
              rw [e1] at Hstep Hin
              have n2 : ¬ ((x : Int) ≤ 57) := by omega
              have n3 : (48 : Int) ≤ x := by omega
              have n4 : ¬ ((97 : Int) ≤ x) := by omega
              clear c c2 n1
              have c := c3
              clear c3
              obtain ⟨a1, a2⟩ := c
              have b1 : (65 : Int) ≤ x := by omega
              have b2 : (x : Int) ≤ 70 := by omega
              have hlt := Hlt.out
              have ha : (x : Int) - 65 + 10 = (x : Int) - 55 := by omega
              have hor := shl4_or h (x - 55) hlt (by omega)
              have Ho := Lib.hid hor
              rw [show ((x - 55 : Nat) : Int) = (x : Int) - 55 by omega] at hor
              clear e1
              go_wp2
              go_roundw
              case rel => exact ⟨j + 1, by omega, by go_num, by rw [Hstep.out]; first | rfl | (simp; rfl) | (simp; done) | (simp; omega), Hin.out (by omega), by first | rfl | trivial⟩
              case measure => simp [intOf]; omega
            · have HR := Lib.hid (Hno.out (by unfold hexD; rw [if_neg c, if_neg c2, if_neg c3]))
              have Hc : x < 48 ∨ (57 < x ∧ x < 65) ∨ (70 < x ∧ x < 97) ∨ 102 < x := by omega
              clear c c2 c3 n1
              rcases Hc with h1 | ⟨h1, h2⟩ | ⟨h1, h2⟩ | h1
              · have k0 : ¬ (48 : Int) ≤ x := by omega
                have k1 : ¬ (97 : Int) ≤ x := by omega
                have k2 : ¬ (65 : Int) ≤ x := by omega
                go_wp2
                go_ret
                exact ⟨by rw [HR.out]; rfl, rfl⟩
              · have k0 : (48 : Int) ≤ x := by omega
                have k1 : ¬ (x : Int) ≤ 57 := by omega
                have k2 : ¬ (97 : Int) ≤ x := by omega
                have k3 : ¬ (65 : Int) ≤ x := by omega
                go_wp2
                go_ret
                exact ⟨by rw [HR.out]; rfl, rfl⟩
              · have k0 : (48 : Int) ≤ x := by omega
                have k1 : ¬ (x : Int) ≤ 57 := by omega
                have k2 : ¬ (97 : Int) ≤ x := by omega
                have k3 : (65 : Int) ≤ x := by omega
                have k4 : ¬ (x : Int) ≤ 70 := by omega
                go_wp2
                go_ret
                exact ⟨by rw [HR.out]; rfl, rfl⟩
              · have k0 : (48 : Int) ≤ x := by omega
                have k1 : ¬ (x : Int) ≤ 57 := by omega
                have k2 : (97 : Int) ≤ x := by omega
                have k3 : ¬ (x : Int) ≤ 102 := by omega
                have k4 : (65 : Int) ≤ x := by omega
                have k5 : ¬ (x : Int) ≤ 70 := by omega
                go_wp2
                go_ret
                exact ⟨by rw [HR.out]; rfl, rfl⟩
      · have hjs' : j = 4 := by omega
        subst hjs'
        have HR := Lib.hid (hex_yes (l := l) (by rw [hlen.out]; omega) hq)
        clear hq hcell
        go_wp2
        go_ret
        exact ⟨by rw [HR.out]; rfl, rfl⟩

set_option maxRecDepth 20000 in
set_option maxHeartbeats 1000000 in
theorem number_any (A : Option Addr) (m c0 B : Nat) (l : List UInt8) (w : World) (hl : Bytes w B A m l) (hm : m ≤ maxLen) (hmc : m ≤ c0) :
    Calls Tryd.prog 52 #[.slice A m c0] w fun e w' => e = .returned (.int .i64 (optI (fourL l))) ∧ w' = w := by
  unfold maxLen at hm
  by_cases h2 : m < 2
  · have HR := Lib.hid (show fourL l = none from if_neg (by rw [hl.len]; omega))
    have h4' : (m : Int) < 2 := by omega
    go_enter Tryd.func52, Tryd.ntmps52
    go_wp2
    go_ret
    exact ⟨by rw [HR.out]; rfl, rfl⟩
  · have h4' : ¬ (m : Int) < 2 := by omega
    have hcut := hex_any _ (m - 2) (c0 - 2) B (l.drop 2) w (hl.cut (k := 2) (by omega) hmc) (by unfold maxLen; omega) (by omega)
    obtain ⟨b, off, rfl, hbB, hc0⟩ := hl.cell (k := 0) (by omega)
    obtain ⟨b', off', e, _, hc1⟩ := hl.cell (k := 1) (by omega)
    injection e with e
    injection e with e1 e2
    subst e1; subst e2
    rw [show at8 l 0 = ((at0 l 0 : Nat) : Int) from rfl, Nat.add_zero] at hc0
    rw [show at8 l 1 = ((at0 l 1 : Nat) : Int) from rfl] at hc1
    have hx0 := at0_lt l 0
    have hx1 := at0_lt l 1
    have hlen := Lib.hid hl.len
    by_cases hc : at0 l 0 = 92 ∧ at0 l 1 = 117
    · have HR := Lib.hid (show fourL l = hexL (l.drop 2) from if_pos ⟨by rw [hlen.out]; omega, hc⟩)
      rw [hc.1] at hc0
      rw [hc.2] at hc1
      clear hc hl hbB hx0 hx1
      rw [Option.map_some, addr_add] at hcut
      have h5 : ¬ (m : Int) = 2 → True := fun _ => trivial
      have hk : ¬ c0 = 2 → True := fun _ => trivial
      clear h5 hk
      have hk3 : (m : Int) ≤ c0 := by omega
      by_cases hk : c0 = 2
      · subst hk
        obtain rfl : m = 2 := by omega
        rw [if_pos rfl] at hcut
        clear hk3 h4' h2 hmc hm
        go_enter Tryd.func52, Tryd.ntmps52
        go_wp2_with fail
        refine hcut.mono ?_
        rintro e w1 ⟨rfl, rfl⟩
        go_wp2
        go_ret
        exact ⟨by rw [HR.out]; rfl, rfl⟩
      · rw [if_neg hk] at hcut
        have hk' : ¬ (c0 : Int) = 2 := by omega
        have hk2 : (2 : Int) ≤ c0 := by omega
        go_enter Tryd.func52, Tryd.ntmps52
        go_wp2_with fail
        refine hcut.mono ?_
        rintro e w1 ⟨rfl, rfl⟩
        go_wp2
        go_ret
        exact ⟨by rw [HR.out]; rfl, rfl⟩
    · have HR := Lib.hid (show fourL l = none from if_neg fun h => hc h.2)
      clear hl hbB hcut
      generalize at0 l 0 = x at *
      generalize at0 l 1 = y at *
      by_cases hx : x = 92
      · subst hx
        have hy : ((y : Int) == 117) = false := by rw [beq_eq_false_iff_ne]; omega
        clear hc
        go_enter Tryd.func52, Tryd.ntmps52
        go_wp2
        go_ret
        exact ⟨by rw [HR.out]; rfl, rfl⟩
      · have hy : ((x : Int) == 92) = false := by rw [beq_eq_false_iff_ne]; omega
        clear hc hx
        go_enter Tryd.func52, Tryd.ntmps52
        go_wp2
        go_ret
        exact ⟨by rw [HR.out]; rfl, rfl⟩
/-- The error of a place. -/
def faultN (l : List UInt8) (p : Nat) : Int := if l.length ≤ p then 6 else if 128 ≤ at0 l p then 110 else 7
set_option maxRecDepth 20000 in
set_option maxHeartbeats 1000000 in
theorem fault_any (A : Option Addr) (m c0 B p : Nat) (l : List UInt8) (w : World) (hl : Bytes w B A m l) (hp : p ≤ maxLen) :
    Calls Tryd.prog 33 #[.slice A m c0, .int .i64 p] w fun e w' => e = .returned (.int .i64 (faultN l p)) ∧ w' = w := by
  unfold maxLen at hp
  have hp0 : (0 : Int) ≤ p := by omega
  by_cases h : m ≤ p
  · have HR := Lib.hid (show faultN l p = 6 from if_pos (by rw [hl.len]; exact h))
    have h' : (m : Int) ≤ p := by omega
    go_enter Tryd.func33, Tryd.ntmps33
    go_wp2
    go_ret
    exact ⟨by rw [HR.out]; rfl, rfl⟩
  · have hn : ¬ l.length ≤ p := by rw [hl.len]; exact h
    have h' : ¬ (m : Int) ≤ p := by omega
    have h3 : (p : Int) < m := by omega
    obtain ⟨b, off, rfl, hbB, hc0⟩ := hl.cell (k := p) (by omega)
    rw [show at8 l p = ((at0 l p : Nat) : Int) from rfl] at hc0
    have hx0 := at0_lt l p
    by_cases hc : 128 ≤ at0 l p
    · have HR := Lib.hid (show faultN l p = 110 by unfold faultN; rw [if_neg hn, if_pos hc])
      clear hl hn
      generalize at0 l p = x at *
      have hc' : (128 : Int) ≤ x := by omega
      go_enter Tryd.func33, Tryd.ntmps33
      go_wp2
      go_ret
      exact ⟨by rw [HR.out]; rfl, rfl⟩
    · have HR := Lib.hid (show faultN l p = 7 by unfold faultN; rw [if_neg hn, if_neg hc])
      clear hl hn
      generalize at0 l p = x at *
      have hc' : ¬ (128 : Int) ≤ x := by omega
      go_enter Tryd.func33, Tryd.ntmps33
      go_wp2
      go_ret
      exact ⟨by rw [HR.out]; rfl, rfl⟩
end Go.Proofs.YtgnialemiefeeaaDoor
