/-
  Layer 2: Sign.
-/
import Derived.Test.YtgnialemiefeeaaDoorQuoB
namespace Go.Proofs.YtgnialemiefeeaaDoor
open Go.RowKit

/-- What Sign tells at a place of the row, or at its end. -/
def signV (l : List UInt8) (p : Nat) : Value :=
  if (begL (l.drop p)).2 = 0 then .tuple #[.int .i64 0, .int .i64 0, .int .i64 (faultN l p)]
  else .tuple #[.int .i64 ((begL (l.drop p)).1 : Int), .int .i64 ((p + (begL (l.drop p)).2 : Nat) : Int), .int .i64 0]
theorem sign_no {l : List UInt8} {p : Nat} (h : (begL (l.drop p)).2 = 0) : signV l p = .tuple #[.int .i64 0, .int .i64 0, .int .i64 (faultN l p)] := if_pos h
theorem sign_yes {l : List UInt8} {p c n : Nat} (h : begL (l.drop p) = (c, n)) (hn : n ≠ 0) : signV l p = .tuple #[.int .i64 (c : Int), .int .i64 ((p + n : Nat) : Int), .int .i64 0] := by
  unfold signV; rw [h, if_neg hn]

set_option maxRecDepth 20000 in
theorem sign_bad (A : Option Addr) (m c0 : Nat) (p : Int) (w : World) (h : p < 0 ∨ (m : Int) < p) :
    Calls Tryd.prog 12 #[.slice A m c0, .int .i64 p] w fun e w' => e = .returned (.tuple #[.int .i64 0, .int .i64 0, .int .i64 2]) ∧ w' = w := by
  rcases h with h | h
  · go_enter Tryd.func12, Tryd.ntmps12
    go_wp2
    go_ret3
    exact ⟨rfl, rfl⟩
  · have h0 : ¬ p < 0 := by omega
    go_enter Tryd.func12, Tryd.ntmps12
    go_wp2
    go_ret3
    exact ⟨rfl, rfl⟩
set_option maxRecDepth 20000 in
set_option maxHeartbeats 1000000 in
theorem sign_in (A : Option Addr) (m c0 B p : Nat) (l : List UInt8) (w : World) (htab : UTab w) (hesc : ETab w) (hl : Bytes w B A m l) (hB : B ≤ w.heap.size) (hm : m ≤ maxLen) (hmc : m ≤ c0) (hp : p ≤ m) :
    Calls Tryd.prog 12 #[.slice A m c0, .int .i64 p] w fun e w' => e = .returned (signV l p) ∧ Below w.heap.size w w' := by
  unfold maxLen at hm
  have hp0 : ¬ (p : Int) < 0 := by omega
  have hp1 : ¬ (m : Int) < (p : Int) := by omega
  have hlen := Lib.hid hl.len
  by_cases he : p = m
  · subst he
    have HR := Lib.hid (show signV l p = .tuple #[.int .i64 0, .int .i64 0, .int .i64 6] by
      rw [sign_no (by rw [List.drop_of_length_le (by rw [hlen.out]; exact Nat.le_refl _)]; rfl), show faultN l p = 6 from if_pos (by rw [hlen.out]; exact Nat.le_refl _)])
    clear hl
    go_enter Tryd.func12, Tryd.ntmps12
    go_wp2
    go_ret3
    exact ⟨by rw [HR.out]; rfl, Below.refl _ _⟩
  · have hp2 : ((p : Int) == (m : Int)) = false := by rw [beq_eq_false_iff_ne]; omega
    have hp3 : (p : Int) < (m : Int) := by omega
    have hp4 : (0 : Int) ≤ p := by omega
    have hnext := next_in A m c0 B p l w htab hl hB (by unfold maxLen; omega) (by omega)
    have hescd := escaped_any _ (m - p) (c0 - p) B (l.drop p) w hesc (hl.cut (k := p) hp hmc) hB (by unfold maxLen; omega) (by omega)
    have hflt := fun (W : World) (hb : Below w.heap.size w W) => fault_any A m c0 B p l W (hl.below (hb.mono hB)) (by unfold maxLen; omega)
    rw [if_neg (by omega)] at hescd
    obtain ⟨b, off, rfl, hbB, hc0⟩ := hl.cell (k := p) (by omega)
    rw [Option.map_some, addr_add] at hescd
    rw [show at8 l p = ((at0 l p : Nat) : Int) from rfl] at hc0
    have hx := at0_lt l p
    have hd0 : at0 (l.drop p) 0 = at0 l p := at0_drop l p 0
    have Hflt := Lib.hid hflt
    have hf7 : at0 l p < 128 → faultN l p = 7 := fun h => by unfold faultN; rw [if_neg (by rw [hlen.out]; omega), if_neg (by omega)]
    clear hl hflt hbB
    by_cases h1 : at0 l p < 32
    · have HR := Lib.hid (show signV l p = .tuple #[.int .i64 0, .int .i64 0, .int .i64 7] by rw [sign_no (by rw [beg_bad (by omega)]), hf7 (by omega)])
      clear hf7 hd0 hescd hnext
      generalize at0 l p = x at *
      have k1 : ((x : Int) < 32) = True := by simp; omega
      clear h1
      go_enter Tryd.func12, Tryd.ntmps12
      go_wp2
      go_ret3
      exact ⟨by rw [HR.out]; rfl, Below.refl _ _⟩
    · have k1 : (((at0 l p : Nat) : Int) < 32) = False := by simp; omega
      by_cases h2 : at0 l p = 34
      · have HR := Lib.hid (show signV l p = .tuple #[.int .i64 0, .int .i64 0, .int .i64 7] by rw [sign_no (by rw [beg_bad (by omega)]), hf7 (by omega)])
        rw [h2] at hc0
        clear hf7 hd0 hescd hnext h1 h2 hx k1
        go_enter Tryd.func12, Tryd.ntmps12
        go_wp2
        go_ret3
        exact ⟨by rw [HR.out]; rfl, Below.refl _ _⟩
      · by_cases h3 : at0 l p = 92
        · have hbeg := beg_esc (hd0.trans h3)
          rw [← hbeg] at hescd
          rw [h3] at hc0
          have hf := hf7 (by omega)
          have hk' : ¬ (c0 : Int) = (p : Int) := by omega
          have hk2 : (p : Int) ≤ c0 := by omega
          have hk3 : (m : Int) ≤ c0 := by omega
          have hle := beg_le (l.drop p)
          rw [List.length_drop, hlen.out] at hle
          by_cases h4 : (begL (l.drop p)).2 = 0
          · have HR := Lib.hid (show signV l p = .tuple #[.int .i64 0, .int .i64 0, .int .i64 7] by rw [sign_no h4, hf])
            rw [beg_zero h4] at hescd
            unfold pairV at hescd
            clear hf7 hd0 hnext h1 h2 hx k1 h3 hbeg hf hle h4
            go_enter Tryd.func12, Tryd.ntmps12
            go_wp2_with fail
            refine hescd.mono ?_
            rintro e w1 ⟨rfl, hb⟩
            go_wp2
            go_ret3
            exact ⟨by rw [HR.out]; rfl, hb⟩
          · have HR := Lib.hid (sign_yes (l := l) (p := p) (c := (begL (l.drop p)).1) (n := (begL (l.drop p)).2) rfl h4)
            unfold pairV at hescd
            have h5 : (((begL (l.drop p)).2 : Nat) : Int) ≠ 0 := by omega
            clear hf7 hd0 hnext h1 h2 hx k1 h3 hbeg hf h4
            generalize (begL (l.drop p)).1 = c at *
            generalize (begL (l.drop p)).2 = n at *
            have hw : wrap64 ((p : Int) + (n : Int)) = (p : Int) + (n : Int) := IntWalk.wrap64_in _ ⟨by omega, by omega⟩
            go_enter Tryd.func12, Tryd.ntmps12
            go_wp2_with fail
            refine hescd.mono ?_
            rintro e w1 ⟨rfl, hb⟩
            go_wp2
            go_ret3
            exact ⟨by rw [HR.out]; rfl, hb⟩
        · have hbeg := beg_dec (l := l.drop p) (by omega) (by omega) (by omega)
          have k2 : (((at0 l p : Nat) : Int) == 34) = false := by rw [beq_eq_false_iff_ne]; omega
          have k3 : (((at0 l p : Nat) : Int) == 92) = false := by rw [beq_eq_false_iff_ne]; omega
          by_cases h4 : (decL (l.drop p)).2 = 0
          · have HR := Lib.hid (show signV l p = .tuple #[.int .i64 0, .int .i64 0, .int .i64 (faultN l p)] from sign_no (by rw [hbeg]; exact h4))
            rw [decR_no (dec_zero h4)] at hnext
            clear hf7 hd0 hescd h1 h2 h3 hx hbeg h4
            generalize at0 l p = x at *
            go_enter Tryd.func12, Tryd.ntmps12
            go_wp2_with fail
            refine hnext.mono ?_
            rintro e w1 ⟨rfl, hb⟩
            go_wp2_with fail
            refine (Hflt.out w1 hb).mono ?_
            rintro e w2 ⟨rfl, rfl⟩
            go_wp2
            go_ret3
            exact ⟨by rw [HR.out]; rfl, hb⟩
          · have HR := Lib.hid (sign_yes (l := l) (p := p) (c := (decL (l.drop p)).1) (n := (decL (l.drop p)).2) hbeg h4)
            rw [decR_yes (l := l) (p := p) (c := (decL (l.drop p)).1) (n := (decL (l.drop p)).2) rfl h4] at hnext
            clear hf7 hd0 hescd h1 h2 h3 hx hbeg h4
            generalize at0 l p = x at *
            generalize (((decL (l.drop p)).1 : Nat) : Int) = c at *
            generalize ((p + (decL (l.drop p)).2 : Nat) : Int) = n at *
            go_enter Tryd.func12, Tryd.ntmps12
            go_wp2_with fail
            refine hnext.mono ?_
            rintro e w1 ⟨rfl, hb⟩
            go_wp2
            go_ret3
            exact ⟨by rw [HR.out]; rfl, hb⟩
end Go.Proofs.YtgnialemiefeeaaDoor
