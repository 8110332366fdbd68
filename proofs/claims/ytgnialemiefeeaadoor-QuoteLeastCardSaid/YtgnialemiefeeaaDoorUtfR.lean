/-
  Layer 1, the reference: Is, Bytes, Starts.
-/
import Derived.Test.YtgnialemiefeeaaDoorUtfH
import Derived.Test.YtgnialemiefeeaaDoorMk
namespace Go.Proofs.YtgnialemiefeeaaDoor
open Go.RowKit

set_option maxRecDepth 20000 in
theorem is_any (n : Int) (w : World) : Calls Tryd.prog 36 #[.int .i64 n] w fun e w' => e = .returned (.bool (isCp n)) ∧ w' = w := by
  by_cases h0 : 0 ≤ n
  · by_cases h1 : n ≤ 1114111
    · by_cases h2 : 55296 ≤ n
      · by_cases h3 : n ≤ 57343
        · have h : isCp n = false := by unfold isCp; simp; omega
          rw [h]
          go_enter Tryd.func36, Tryd.ntmps36
          go_wp2
          go_ret
          exact ⟨rfl, rfl⟩
        · have h : isCp n = true := by unfold isCp; simp; omega
          rw [h]
          go_enter Tryd.func36, Tryd.ntmps36
          go_wp2
          go_ret
          exact ⟨rfl, rfl⟩
      · have h : isCp n = true := by unfold isCp; simp; omega
        rw [h]
        go_enter Tryd.func36, Tryd.ntmps36
        go_wp2
        go_ret
        exact ⟨rfl, rfl⟩
    · have h : isCp n = false := by unfold isCp; simp; omega
      rw [h]
      go_enter Tryd.func36, Tryd.ntmps36
      go_wp2
      go_ret
      exact ⟨rfl, rfl⟩
  · have h : isCp n = false := by unfold isCp; simp; omega
    rw [h]
    go_enter Tryd.func36, Tryd.ntmps36
    go_wp2
    go_ret
    exact ⟨rfl, rfl⟩

theorem gives_new (w : World) (l : List UInt8) (C : Array Value) (hC : C.toList = l.map bv) (hl : l.length ≤ 1000) :
    (w.alloc (.cells C 5)).ownsRow w.heap.size 5 1 (.slice (some ⟨w.heap.size, 0, none⟩) l.length l.length) l.length (l.map bv) := by
  have hs : C.size = l.length := by rw [← Array.length_toList, hC]; simp
  have h := own_made (base := w.heap.size) (e := 5) (size := 1) w C l.length l.length (Nat.le_refl _) (Nat.le_refl _) (by unfold maxLen; omega) (by rw [hs, Nat.mul_one])
  rw [hC, List.take_of_length_le (by simp)] at h
  exact h
theorem bv_b8 (n : Nat) (h : n < 256) : bv (b8 n) = .int .u8 (n : Int) := by unfold bv; rw [b8_toNat n h]
set_option maxRecDepth 20000 in
set_option maxHeartbeats 1000000 in
theorem bytes_any (c : Nat) (hc : c ≤ 1114111) (w : World) : Calls Tryd.prog 40 #[.int .i64 (c : Int)] w (GivesBytes 5 (encL c) w) := by
  rcases (show c < 128 ∨ (128 ≤ c ∧ c < 2048) ∨ (2048 ≤ c ∧ c < 65536) ∨ 65536 ≤ c by omega) with h1 | ⟨h1, h2⟩ | ⟨h1, h2⟩ | h1
  · have e : (encL c).map bv = [.int .u8 ((c : Nat) : Int)] := by
      have e0 : encL c = [b8 (c)] := by unfold encL; rw [if_pos h1]
      rw [e0]
      show [bv (b8 (c))] = _
      rw [bv_b8 (c) (by omega)]
    have hn : (encL c).length = 1 := by have := congrArg List.length e; simpa using this
    have g := gives_new w (encL c) #[.int .u8 ((c : Nat) : Int)] (by rw [e]) (by omega)
    rw [hn] at g
    have k0 : (c : Int) < 128 := by omega
    have n0 : (0 : Int) ≤ (c : Int) := by omega
    have n1 : (c : Int) ≤ 1114111 := by omega
    have G := Lib.hid g
    clear e g hn h1 hc
    generalize (c : Int) = n at *
    go_enter Tryd.func40, Tryd.ntmps40
    go_wp2
    go_ret
    exact ⟨_, _, _, rfl, G.out, (Below.refl _ _).alloc (Nat.le_refl _) _⟩
  · have e : (encL c).map bv = [.int .u8 ((192 + c / 64 : Nat) : Int), .int .u8 ((128 + c % 64 : Nat) : Int)] := by
      have e0 : encL c = [b8 (192 + c / 64), b8 (128 + c % 64)] := by unfold encL; rw [if_neg (by omega), if_pos h2]
      rw [e0]
      show [bv (b8 (192 + c / 64)), bv (b8 (128 + c % 64))] = _
      rw [bv_b8 (192 + c / 64) (by omega), bv_b8 (128 + c % 64) (by omega)]
    have hn : (encL c).length = 2 := by have := congrArg List.length e; simpa using this
    have g := gives_new w (encL c) #[.int .u8 ((192 + c / 64 : Nat) : Int), .int .u8 ((128 + c % 64 : Nat) : Int)] (by rw [e]) (by omega)
    rw [hn] at g
    rw [show ((192 + c / 64 : Nat) : Int) = 192 + (c : Int) / 64 from by omega, show ((128 + c % 64 : Nat) : Int) = 128 + (c : Int) % 64 from by omega] at g
    have k0 : ¬ (c : Int) < 128 := by omega
    have k1 : (c : Int) < 2048 := by omega
    have n0 : (0 : Int) ≤ (c : Int) := by omega
    have n1 : (c : Int) ≤ 1114111 := by omega
    have G := Lib.hid g
    clear e g hn h1 hc h2
    generalize (c : Int) = n at *
    go_enter Tryd.func40, Tryd.ntmps40
    go_wp2
    go_ret
    exact ⟨_, _, _, rfl, G.out, (Below.refl _ _).alloc (Nat.le_refl _) _⟩
  · have e : (encL c).map bv = [.int .u8 ((224 + c / 4096 : Nat) : Int), .int .u8 ((128 + c / 64 % 64 : Nat) : Int), .int .u8 ((128 + c % 64 : Nat) : Int)] := by
      have e0 : encL c = [b8 (224 + c / 4096), b8 (128 + c / 64 % 64), b8 (128 + c % 64)] := by unfold encL; rw [if_neg (by omega), if_neg (by omega), if_pos h2]
      rw [e0]
      show [bv (b8 (224 + c / 4096)), bv (b8 (128 + c / 64 % 64)), bv (b8 (128 + c % 64))] = _
      rw [bv_b8 (224 + c / 4096) (by omega), bv_b8 (128 + c / 64 % 64) (by omega), bv_b8 (128 + c % 64) (by omega)]
    have hn : (encL c).length = 3 := by have := congrArg List.length e; simpa using this
    have g := gives_new w (encL c) #[.int .u8 ((224 + c / 4096 : Nat) : Int), .int .u8 ((128 + c / 64 % 64 : Nat) : Int), .int .u8 ((128 + c % 64 : Nat) : Int)] (by rw [e]) (by omega)
    rw [hn] at g
    rw [show ((224 + c / 4096 : Nat) : Int) = 224 + (c : Int) / 4096 from by omega, show ((128 + c / 64 % 64 : Nat) : Int) = 128 + (c : Int) / 64 % 64 from by omega, show ((128 + c % 64 : Nat) : Int) = 128 + (c : Int) % 64 from by omega] at g
    have k0 : ¬ (c : Int) < 128 := by omega
    have k1 : ¬ (c : Int) < 2048 := by omega
    have k2 : (c : Int) < 65536 := by omega
    have n0 : (0 : Int) ≤ (c : Int) := by omega
    have n1 : (c : Int) ≤ 1114111 := by omega
    have G := Lib.hid g
    clear e g hn h1 hc h2
    generalize (c : Int) = n at *
    go_enter Tryd.func40, Tryd.ntmps40
    go_wp2
    go_ret
    exact ⟨_, _, _, rfl, G.out, (Below.refl _ _).alloc (Nat.le_refl _) _⟩
  · have e : (encL c).map bv = [.int .u8 ((240 + c / 262144 : Nat) : Int), .int .u8 ((128 + c / 4096 % 64 : Nat) : Int), .int .u8 ((128 + c / 64 % 64 : Nat) : Int), .int .u8 ((128 + c % 64 : Nat) : Int)] := by
      have e0 : encL c = [b8 (240 + c / 262144), b8 (128 + c / 4096 % 64), b8 (128 + c / 64 % 64), b8 (128 + c % 64)] := by unfold encL; rw [if_neg (by omega), if_neg (by omega), if_neg (by omega)]
      rw [e0]
      show [bv (b8 (240 + c / 262144)), bv (b8 (128 + c / 4096 % 64)), bv (b8 (128 + c / 64 % 64)), bv (b8 (128 + c % 64))] = _
      rw [bv_b8 (240 + c / 262144) (by omega), bv_b8 (128 + c / 4096 % 64) (by omega), bv_b8 (128 + c / 64 % 64) (by omega), bv_b8 (128 + c % 64) (by omega)]
    have hn : (encL c).length = 4 := by have := congrArg List.length e; simpa using this
    have g := gives_new w (encL c) #[.int .u8 ((240 + c / 262144 : Nat) : Int), .int .u8 ((128 + c / 4096 % 64 : Nat) : Int), .int .u8 ((128 + c / 64 % 64 : Nat) : Int), .int .u8 ((128 + c % 64 : Nat) : Int)] (by rw [e]) (by omega)
    rw [hn] at g
    rw [show ((240 + c / 262144 : Nat) : Int) = 240 + (c : Int) / 262144 from by omega, show ((128 + c / 4096 % 64 : Nat) : Int) = 128 + (c : Int) / 4096 % 64 from by omega, show ((128 + c / 64 % 64 : Nat) : Int) = 128 + (c : Int) / 64 % 64 from by omega, show ((128 + c % 64 : Nat) : Int) = 128 + (c : Int) % 64 from by omega] at g
    have k0 : ¬ (c : Int) < 128 := by omega
    have k1 : ¬ (c : Int) < 2048 := by omega
    have k2 : ¬ (c : Int) < 65536 := by omega
    have n0 : (0 : Int) ≤ (c : Int) := by omega
    have n1 : (c : Int) ≤ 1114111 := by omega
    have G := Lib.hid g
    clear e g hn h1 hc
    generalize (c : Int) = n at *
    go_enter Tryd.func40, Tryd.ntmps40
    go_wp2
    go_ret
    exact ⟨_, _, _, rfl, G.out, (Below.refl _ _).alloc (Nat.le_refl _) _⟩
end Go.Proofs.YtgnialemiefeeaaDoor
