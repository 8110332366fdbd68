/-
  Package doc: the writer's hex and number.
-/
import Derived.Test.YtedoajiapicpnaaDoorDocW
namespace Go.Proofs.YtedoajiapicpnaaDoor
open Go.RowKit
attribute [local go_sem ↓] Go.wp_at_zero Go.wp_at_succ

/-- The first digits to the base 16, of eight. -/
def hexTo (m : Nat) : Nat → List UInt8
  | 0 => []
  | k + 1 => hexTo m k ++ [hx (m / 16 ^ (7 - k) % 16)]
theorem hexTo_length (m : Nat) : ∀ k, (hexTo m k).length = k
  | 0 => rfl
  | k + 1 => by unfold hexTo; rw [List.length_append, hexTo_length m k]; rfl

theorem hex_step (m k sh : Nat) (hk : k < 8) (hs : (sh : Int) = 28 - 4 * (k : Int)) (hm : m < 4294967296) : bits .and .u32 ((m : Int) / 2 ^ sh) 15 = ((m / 16 ^ (7 - k) % 16 : Nat) : Int) := by
  have e : 2 ^ sh = 16 ^ (7 - k) := by
    rw [show sh = 4 * (7 - k) by omega, Nat.pow_mul]
  have h1 : (m : Int) / 2 ^ sh = ((m / 16 ^ (7 - k) : Nat) : Int) := by
    rw [← e, Int.natCast_ediv]
    simp
  rw [h1]
  have h2 := u32_and_nat (m / 16 ^ (7 - k)) 15 (Nat.lt_of_le_of_lt (Nat.div_le_self _ _) hm) (by decide)
  rw [nat_mask4] at h2
  exact h2

set_option maxRecDepth 20000 in
set_option maxHeartbeats 1000000 in
theorem hex_any (m b : Nat) (l : List UInt8) (w : World) (hm : m < 4294967296) (hw : Wr w b l) (hl : l.length ≤ 900) :
    Calls Tryd.prog 57 #[.pointer (some ⟨b, 0, none⟩), .int .u32 (m : Int)] w fun e w' => e = .returned (.tuple #[]) ∧ Wr w' b (l ++ hexTo m 8) ∧ Below b w w' := by
  go_enter Tryd.func57, Tryd.ntmps57
  go_wp2
  go_loopw [4] (fun x wr => ∃ k : Nat, ∃ s : Int, k ≤ 8 ∧ x = .int .i64 s ∧ Hid (s = 28 - 4 * (k : Int)) ∧ Wr wr b (l ++ hexTo m k) ∧ Below b w wr) (fun x _ => (intOf x + 4).toNat)
  case atStart => exact ⟨0, 28, by omega, rfl, Lib.hid rfl, by simpa [hexTo] using hw, Below.refl _ _⟩
  case round =>
    clear hw
    obtain ⟨k, s, hk, rfl, Hs, hw, hb⟩ := hrel
    by_cases hlt : k < 8
    · obtain ⟨sh, hs2, hsl⟩ : ∃ sh : Nat, s = (sh : Int) ∧ sh ≤ 28 := ⟨s.toNat, by have := Hs.out; omega, by have := Hs.out; omega⟩
      subst hs2
      obtain ⟨d, hd, hd16, Hd⟩ : ∃ d : Nat, bits .and .u32 ((m : Int) / 2 ^ sh) 15 = (d : Int) ∧ d < 16 ∧ Hid (d = m / 16 ^ (7 - k) % 16) := ⟨_, hex_step m k sh hlt Hs.out hm, Nat.mod_lt _ (by decide), Lib.hid rfl⟩
      have hrl : (l ++ hexTo m k).length ≤ 1000 := by
        have := hexTo_length m k
        rw [List.length_append]
        omega
      have Hr := Lib.hid (rfl : l ++ hexTo m k = l ++ hexTo m k)
      generalize hrr : l ++ hexTo m k = r at hw hrl
      have Hrr := Lib.hid hrr
      clear hrr Hr
      obtain ⟨A, c, hc, hf, hown⟩ := hw
      have hbs : b < wr.heap.size := World.block_lt_of_cell? wr _ hc
      have hnew := World.new_ne wr _ hc
      have hbs' : b + 1 ≤ (wr.drew.alloc (.cells #[.int .u8 ((hx d).toNat : Int)] 5)).heap.size := by simp; omega
      have hdig := run_digit d hd16
      obtain ⟨i0, hi, hz0, hz1, hz2⟩ := u8_info
      go_wp2
      go_region_law (
        (refine step_append_shows _ (by rfl) _ _ _ (by rfl) (b + 1) 5 i0 (.int .u8 0) 1 1 Tryd.underlying29 hi hz0 hz1 hz2 rfl (by decide) _ _ _ (by rfl) (by exact hown.alloc _) (wr.heap.size + 1) _ 1 1 [bv (hx d)] (by rfl) (by exact bytes_new wr.drew [hx d] _ _ _ rfl) (bv_one [hx d]) (by unfold maxLen; omega) (by omega) (by exact hbs') ?_; intro A2 c2 w2 hown2 _ hb2; have hc2 : w2.cell? ⟨b, 0, none⟩ = some (.slice A r.length c) := (hb2.cell (p := ⟨b, 0, none⟩) (by show b < b + 1; omega)).trans (cell_keep (w := wr.drew) hc _); have hf2 : w2.frozen? ⟨b, 0, none⟩ = false := (hb2.frozen (p := ⟨b, 0, none⟩) (by show b < b + 1; omega)).trans ((frozen_keep (w := wr.drew) hc _).trans hf)))
      all_goals
        go_wp2
        go_roundw
        case rel =>
          have hdone := wr_done rfl hbs hb2 hc2 hf2 hown2
          refine ⟨k + 1, _, by omega, rfl, Lib.hid (by have := Hs.out; omega), ?_, hb.trans hdone.2⟩
          have e : l ++ hexTo m (k + 1) = r ++ [hx d] := by
            rw [← Hrr.out, List.append_assoc, Hd.out]
            rfl
          rw [e]
          exact hdone.1
        case measure => simp [intOf]; omega
    · have hk8 : k = 8 := by omega
      have hs2 : s = -4 := by have := Hs.out; omega
      subst hs2
      have Hw := Lib.hid hw
      have Hk := Lib.hid hk8
      clear hw hk8
      go_wp2
      go_end0
      refine ⟨rfl, ?_, hb⟩
      rw [← Hk.out]
      exact Hw.out

/-- The first bytes of a number, the highest first, of s. -/
def numTo (m s : Nat) : Nat → List UInt8
  | 0 => []
  | k + 1 => numTo m s k ++ [UInt8.ofNat (m / 256 ^ (s - 1 - k))]
theorem numTo_length (m s : Nat) : ∀ k, (numTo m s k).length = k
  | 0 => rfl
  | k + 1 => by unfold numTo; rw [List.length_append, numTo_length m s k]; rfl
theorem num_step (m s k sh : Nat) (hk : k < s) (hs : (sh : Int) = 8 * ((s : Int) - 1) - 8 * (k : Int)) : IntKind.u8.wrap ((m : Int) / 2 ^ sh) = ((UInt8.ofNat (m / 256 ^ (s - 1 - k))).toNat : Int) := by
  have e : 2 ^ sh = 256 ^ (s - 1 - k) := by
    rw [show sh = 8 * (s - 1 - k) by omega, Nat.pow_mul]
  have h1 : (m : Int) / 2 ^ sh = ((m / 256 ^ (s - 1 - k) : Nat) : Int) := by
    rw [← e, Int.natCast_ediv]
    simp
  rw [h1, IntKind.wrap_u8, UInt8.toNat_ofNat']
  simp

set_option maxRecDepth 20000 in
set_option maxHeartbeats 1000000 in
theorem number_any (m s b : Nat) (l : List UInt8) (w : World) (hs0 : 1 ≤ s) (hs8 : s ≤ 8) (hw : Wr w b l) (hl : l.length ≤ 900) :
    Calls Tryd.prog 58 #[.pointer (some ⟨b, 0, none⟩), .int .u64 (m : Int), .int .i64 (s : Int)] w fun e w' => e = .returned (.tuple #[]) ∧ Wr w' b (l ++ numTo m s s) ∧ Below b w w' := by
  go_enter Tryd.func58, Tryd.ntmps58
  go_wp2
  go_loopw [6] (fun x wr => ∃ k : Nat, ∃ z : Int, k ≤ s ∧ x = .int .i64 z ∧ Hid (z = 8 * ((s : Int) - 1) - 8 * (k : Int)) ∧ Wr wr b (l ++ numTo m s k) ∧ Below b w wr) (fun x _ => (intOf x + 8).toNat)
  case atStart => exact ⟨0, _, by omega, rfl, Lib.hid (by simp), by simpa [numTo] using hw, Below.refl _ _⟩
  case round =>
    clear hw
    obtain ⟨k, z, hk, rfl, Hs, hw, hb⟩ := hrel
    by_cases hlt : k < s
    · obtain ⟨sh, hs2, hsl⟩ : ∃ sh : Nat, z = (sh : Int) ∧ sh ≤ 56 := ⟨z.toNat, by have := Hs.out; omega, by have := Hs.out; omega⟩
      subst hs2
      obtain ⟨x, hd, Hd⟩ : ∃ x : UInt8, IntKind.u8.wrap ((m : Int) / 2 ^ sh) = (x.toNat : Int) ∧ Hid (x = UInt8.ofNat (m / 256 ^ (s - 1 - k))) := ⟨_, num_step m s k sh hlt Hs.out, Lib.hid rfl⟩
      have hrl : (l ++ numTo m s k).length ≤ 1000 := by
        have := numTo_length m s k
        rw [List.length_append]
        omega
      generalize hrr : l ++ numTo m s k = r at hw hrl
      have Hrr := Lib.hid hrr
      clear hrr
      obtain ⟨A, c, hc, hf, hown⟩ := hw
      have hbs : b < wr.heap.size := World.block_lt_of_cell? wr _ hc
      have hnew := World.new_ne wr _ hc
      have hbs' : b + 1 ≤ (wr.drew.alloc (.cells #[.int .u8 (x.toNat : Int)] 5)).heap.size := by simp; omega
      obtain ⟨i0, hi, hz0, hz1, hz2⟩ := u8_info
      go_wp2
      go_region_law (
        (refine step_append_shows _ (by rfl) _ _ _ (by rfl) (b + 1) 5 i0 (.int .u8 0) 1 1 Tryd.underlying29 hi hz0 hz1 hz2 rfl (by decide) _ _ _ (by rfl) (by exact hown.alloc _) (wr.heap.size + 1) _ 1 1 [bv x] (by rfl) (by exact bytes_new wr.drew [x] _ _ _ rfl) (bv_one [x]) (by unfold maxLen; omega) (by omega) (by exact hbs') ?_; intro A2 c2 w2 hown2 _ hb2; have hc2 : w2.cell? ⟨b, 0, none⟩ = some (.slice A r.length c) := (hb2.cell (p := ⟨b, 0, none⟩) (by show b < b + 1; omega)).trans (cell_keep (w := wr.drew) hc _); have hf2 : w2.frozen? ⟨b, 0, none⟩ = false := (hb2.frozen (p := ⟨b, 0, none⟩) (by show b < b + 1; omega)).trans ((frozen_keep (w := wr.drew) hc _).trans hf)))
      all_goals
        go_wp2
        go_roundw
        case rel =>
          have hdone := wr_done rfl hbs hb2 hc2 hf2 hown2
          refine ⟨k + 1, _, by omega, rfl, Lib.hid (by have := Hs.out; omega), ?_, hb.trans hdone.2⟩
          have e : l ++ numTo m s (k + 1) = r ++ [x] := by
            rw [← Hrr.out, List.append_assoc, Hd.out]
            rfl
          rw [e]
          exact hdone.1
        case measure => simp [intOf]; omega
    · have hk8 : k = s := by omega
      have hs2 : z = -8 := by have := Hs.out; omega
      subst hs2
      have Hw := Lib.hid hw
      have Hk := Lib.hid hk8
      clear hw hk8
      go_wp2
      go_end0
      refine ⟨rfl, ?_, hb⟩
      have e := Hw.out
      rw [Hk.out] at e
      exact e
end Go.Proofs.YtedoajiapicpnaaDoor
