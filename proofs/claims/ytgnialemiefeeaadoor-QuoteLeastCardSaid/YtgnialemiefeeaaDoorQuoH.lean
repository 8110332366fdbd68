/-
  Layer 2: spelling.
-/
import Derived.Test.YtgnialemiefeeaaDoorQuoB
import Derived.Test.YtgnialemiefeeaaDoorQuoS
import Derived.Test.YtgnialemiefeeaaDoorStr
namespace Go.Proofs.YtgnialemiefeeaaDoor
open Go.RowKit

theorem short_yes {k c : Nat} (hk : k < 8) (hf : ef k = false) (h : ec k = c) : shortL c = some (el k) := by
  subst h
  rcases (show k = 0 ∨ k = 1 ∨ k = 2 ∨ k = 3 ∨ k = 4 ∨ k = 5 ∨ k = 6 ∨ k = 7 by omega) with rfl | rfl | rfl | rfl | rfl | rfl | rfl | rfl
  all_goals first | rfl | cases hf
theorem short_no {c : Nat} (h : ∀ k, k < 8 → ef k = false → ec k ≠ c) : shortL c = none := by
  have h0 := h 0 (by omega) rfl
  have h1 := h 1 (by omega) rfl
  have h3 := h 3 (by omega) rfl
  have h4 := h 4 (by omega) rfl
  have h5 := h 5 (by omega) rfl
  have h6 := h 6 (by omega) rfl
  have h7 := h 7 (by omega) rfl
  simp only [ec] at h0 h1 h3 h4 h5 h6 h7
  unfold shortL
  rw [if_neg (by omega), if_neg (by omega), if_neg (by omega), if_neg (by omega), if_neg (by omega), if_neg (by omega), if_neg (by omega)]
/-- What is written for a code point that is escaped; nothing for another. -/
def escS (c : Nat) : List UInt8 := match shortL c with | some x => [b8 92, b8 x] | none => if c < 32 then fourT false c else []
theorem escS_short {c x : Nat} (h : shortL c = some x) : escS c = [b8 92, b8 x] := by unfold escS; rw [h]
theorem escS_low {c : Nat} (h : shortL c = none) (h2 : c < 32) : escS c = fourT false c := by unfold escS; rw [h]; exact if_pos h2
theorem escS_own {c : Nat} (h : shortL c = none) (h2 : ¬ c < 32) : escS c = [] := by unfold escS; rw [h]; exact if_neg h2

set_option maxRecDepth 20000 in
theorem sl0 : ∀ W, (Instr.slice 9 (.string ⟨#[48, 49, 50, 51, 52, 53, 54, 55, 56, 57, 97, 98, 99, 100, 101, 102]⟩) (some (.int .i32 0)) (some (.int .i32 (IntKind.i32.wrap 1))) none).run Tryd.prog W = .ok (.string ⟨#[48]⟩) W := fun W => by kernel_rfl
set_option maxRecDepth 20000 in
theorem sl1 : ∀ W, (Instr.slice 9 (.string ⟨#[48, 49, 50, 51, 52, 53, 54, 55, 56, 57, 97, 98, 99, 100, 101, 102]⟩) (some (.int .i32 1)) (some (.int .i32 (IntKind.i32.wrap 2))) none).run Tryd.prog W = .ok (.string ⟨#[49]⟩) W := fun W => by kernel_rfl
set_option maxRecDepth 20000 in
theorem sl2 : ∀ W, (Instr.slice 9 (.string ⟨#[48, 49, 50, 51, 52, 53, 54, 55, 56, 57, 97, 98, 99, 100, 101, 102]⟩) (some (.int .i32 2)) (some (.int .i32 (IntKind.i32.wrap 3))) none).run Tryd.prog W = .ok (.string ⟨#[50]⟩) W := fun W => by kernel_rfl
set_option maxRecDepth 20000 in
theorem sl3 : ∀ W, (Instr.slice 9 (.string ⟨#[48, 49, 50, 51, 52, 53, 54, 55, 56, 57, 97, 98, 99, 100, 101, 102]⟩) (some (.int .i32 3)) (some (.int .i32 (IntKind.i32.wrap 4))) none).run Tryd.prog W = .ok (.string ⟨#[51]⟩) W := fun W => by kernel_rfl
set_option maxRecDepth 20000 in
theorem sl4 : ∀ W, (Instr.slice 9 (.string ⟨#[48, 49, 50, 51, 52, 53, 54, 55, 56, 57, 97, 98, 99, 100, 101, 102]⟩) (some (.int .i32 4)) (some (.int .i32 (IntKind.i32.wrap 5))) none).run Tryd.prog W = .ok (.string ⟨#[52]⟩) W := fun W => by kernel_rfl
set_option maxRecDepth 20000 in
theorem sl5 : ∀ W, (Instr.slice 9 (.string ⟨#[48, 49, 50, 51, 52, 53, 54, 55, 56, 57, 97, 98, 99, 100, 101, 102]⟩) (some (.int .i32 5)) (some (.int .i32 (IntKind.i32.wrap 6))) none).run Tryd.prog W = .ok (.string ⟨#[53]⟩) W := fun W => by kernel_rfl
set_option maxRecDepth 20000 in
theorem sl6 : ∀ W, (Instr.slice 9 (.string ⟨#[48, 49, 50, 51, 52, 53, 54, 55, 56, 57, 97, 98, 99, 100, 101, 102]⟩) (some (.int .i32 6)) (some (.int .i32 (IntKind.i32.wrap 7))) none).run Tryd.prog W = .ok (.string ⟨#[54]⟩) W := fun W => by kernel_rfl
set_option maxRecDepth 20000 in
theorem sl7 : ∀ W, (Instr.slice 9 (.string ⟨#[48, 49, 50, 51, 52, 53, 54, 55, 56, 57, 97, 98, 99, 100, 101, 102]⟩) (some (.int .i32 7)) (some (.int .i32 (IntKind.i32.wrap 8))) none).run Tryd.prog W = .ok (.string ⟨#[55]⟩) W := fun W => by kernel_rfl
set_option maxRecDepth 20000 in
theorem sl8 : ∀ W, (Instr.slice 9 (.string ⟨#[48, 49, 50, 51, 52, 53, 54, 55, 56, 57, 97, 98, 99, 100, 101, 102]⟩) (some (.int .i32 8)) (some (.int .i32 (IntKind.i32.wrap 9))) none).run Tryd.prog W = .ok (.string ⟨#[56]⟩) W := fun W => by kernel_rfl
set_option maxRecDepth 20000 in
theorem sl9 : ∀ W, (Instr.slice 9 (.string ⟨#[48, 49, 50, 51, 52, 53, 54, 55, 56, 57, 97, 98, 99, 100, 101, 102]⟩) (some (.int .i32 9)) (some (.int .i32 (IntKind.i32.wrap 10))) none).run Tryd.prog W = .ok (.string ⟨#[57]⟩) W := fun W => by kernel_rfl
set_option maxRecDepth 20000 in
theorem sl10 : ∀ W, (Instr.slice 9 (.string ⟨#[48, 49, 50, 51, 52, 53, 54, 55, 56, 57, 97, 98, 99, 100, 101, 102]⟩) (some (.int .i32 10)) (some (.int .i32 (IntKind.i32.wrap 11))) none).run Tryd.prog W = .ok (.string ⟨#[97]⟩) W := fun W => by kernel_rfl
set_option maxRecDepth 20000 in
theorem sl11 : ∀ W, (Instr.slice 9 (.string ⟨#[48, 49, 50, 51, 52, 53, 54, 55, 56, 57, 97, 98, 99, 100, 101, 102]⟩) (some (.int .i32 11)) (some (.int .i32 (IntKind.i32.wrap 12))) none).run Tryd.prog W = .ok (.string ⟨#[98]⟩) W := fun W => by kernel_rfl
set_option maxRecDepth 20000 in
theorem sl12 : ∀ W, (Instr.slice 9 (.string ⟨#[48, 49, 50, 51, 52, 53, 54, 55, 56, 57, 97, 98, 99, 100, 101, 102]⟩) (some (.int .i32 12)) (some (.int .i32 (IntKind.i32.wrap 13))) none).run Tryd.prog W = .ok (.string ⟨#[99]⟩) W := fun W => by kernel_rfl
set_option maxRecDepth 20000 in
theorem sl13 : ∀ W, (Instr.slice 9 (.string ⟨#[48, 49, 50, 51, 52, 53, 54, 55, 56, 57, 97, 98, 99, 100, 101, 102]⟩) (some (.int .i32 13)) (some (.int .i32 (IntKind.i32.wrap 14))) none).run Tryd.prog W = .ok (.string ⟨#[100]⟩) W := fun W => by kernel_rfl
set_option maxRecDepth 20000 in
theorem sl14 : ∀ W, (Instr.slice 9 (.string ⟨#[48, 49, 50, 51, 52, 53, 54, 55, 56, 57, 97, 98, 99, 100, 101, 102]⟩) (some (.int .i32 14)) (some (.int .i32 (IntKind.i32.wrap 15))) none).run Tryd.prog W = .ok (.string ⟨#[101]⟩) W := fun W => by kernel_rfl
set_option maxRecDepth 20000 in
theorem sl15 : ∀ W, (Instr.slice 9 (.string ⟨#[48, 49, 50, 51, 52, 53, 54, 55, 56, 57, 97, 98, 99, 100, 101, 102]⟩) (some (.int .i32 15)) (some (.int .i32 (IntKind.i32.wrap 16))) none).run Tryd.prog W = .ok (.string ⟨#[102]⟩) W := fun W => by kernel_rfl
set_option maxRecDepth 100000 in
set_option maxHeartbeats 2000000 in
theorem spelling_any (c : Nat) (hc : c ≤ 1114111) (w : World) (htab : ETab w) :
    Calls Tryd.prog 58 #[.int .i32 (c : Int)] w fun e w' => e = .returned (.string (ofL (escS c))) ∧ Below w.heap.size w w' := by
  have hcw : wrap64 (c : Int) = (c : Int) := IntWalk.wrap64_in _ ⟨by omega, by omega⟩
  go_enter Tryd.func58, Tryd.ntmps58
  go_wp2_with (refine wpList_load_mid rfl 85 _ rfl 0 0 rfl etab _ htab Tryd.underlying85 rfl info_etab ?_)
  go_loopw [6] (fun i wr => ∃ k : Nat, k ≤ 8 ∧ i = .int .i64 k ∧ (∀ j, j < k → ef j = false → ec j ≠ c) ∧ Below w.heap.size w wr) (fun i _ => 8 - (intOf i).toNat)
  case atStart => exact ⟨0, by omega, rfl, fun j hj => by omega, Below.refl _ _⟩
  case round =>
    obtain ⟨k, hk, rfl, hP, hbw⟩ := hrel
    by_cases hlt : k < 8
    · have hk4 : (k : Int) < 8 := by omega
      have hk0 : (0 : Int) ≤ k := by omega
      have hidx := index_esc k hlt
      have hel := el_lt k
      have bx := Box.new wr #[.int .u8 (el k), .int .i64 (ec k), .bool (ef k)] 84
      have d0 := (bx 0 _ rfl).1
      have d1 := (bx 1 _ rfl).1
      have d2 := (bx 2 _ rfl).1
      have hbn := bel_alloc hbw (.cells #[.int .u8 (el k), .int .i64 (ec k), .bool (ef k)] 84)
      cases hf : ef k
      · rw [hf] at hidx bx d2 hbn d0 d1
        by_cases hq : ec k = c
        · have HR := Lib.hid (escS_short (short_yes hlt hf hq))
          have hbv : Value.int .u8 ((el k : Nat) : Int) = bv (b8 (el k)) := by unfold bv; rw [b8_toNat _ hel]
          have hby := bytes_new (wr.alloc (.cells #[.int .u8 (el k), .int .i64 (ec k), .bool false] 84)) [b8 92, b8 (el k)] #[.int .u8 92, .int .u8 (el k)] 5 (0, 0) (by rw [hbv]; rfl)
          rw [World.size_alloc] at hby
          have hconv := run_bytes_string (P := Tryd.prog) Tryd.underlying22 Tryd.underlying5 Tryd.underlying9 _ _ 2 2 _ _ hby
          have hq' : ((ec k : Int) == (c : Int)) = true := by rw [hq]; simp
          clear hP hq hlt hf hby hbv
          generalize hz : [b8 92, b8 (el k)] = Z at *
          generalize el k = x0 at *
          generalize ec k = x1 at *
          go_wp2
          go_ret
          exact ⟨by rw [HR.out]; rfl, bel_alloc hbn _⟩
        · have HP := Lib.hid (show ∀ j, j < k + 1 → ef j = false → ec j ≠ c from fun j hj hf => if e : j = k then e ▸ hq else hP j (by omega) hf)
          have hq' : ((ec k : Int) == (c : Int)) = false := by rw [beq_eq_false_iff_ne]; omega
          clear hP hq hlt hf
          generalize el k = x0 at *
          generalize ec k = x1 at *
          go_wp2
          go_roundw
          case rel => exact ⟨k + 1, by omega, by go_num, HP.out, hbn⟩
          case measure => simp [intOf]; omega
      · have HP := Lib.hid (show ∀ j, j < k + 1 → ef j = false → ec j ≠ c from fun j hj hf' => if e : j = k then (by subst e; rw [hf] at hf'; cases hf') else hP j (by omega) hf')
        rw [hf] at hidx bx d2 hbn d0 d1
        clear hP hlt hf
        generalize el k = x0 at *
        generalize ec k = x1 at *
        go_wp2
        go_roundw
        case rel => exact ⟨k + 1, by omega, by go_num, HP.out, hbn⟩
        case measure => simp [intOf]; omega
    · have hsn := short_no (c := c) (fun j hj => hP j (by omega))
      have hk8 : k = 8 := by omega
      subst hk8
      clear hP hlt
      by_cases h32 : c < 32
      · have HR := Lib.hid (escS_low hsn h32)
        have h1 : ((c : Int) < 32) = True := by simp; omega
        have hcs : c = 0 ∨ c = 1 ∨ c = 2 ∨ c = 3 ∨ c = 4 ∨ c = 5 ∨ c = 6 ∨ c = 7 ∨ c = 8 ∨ c = 9 ∨ c = 10 ∨ c = 11 ∨ c = 12 ∨ c = 13 ∨ c = 14 ∨ c = 15 ∨ c = 16 ∨ c = 17 ∨ c = 18 ∨ c = 19 ∨ c = 20 ∨ c = 21 ∨ c = 22 ∨ c = 23 ∨ c = 24 ∨ c = 25 ∨ c = 26 ∨ c = 27 ∨ c = 28 ∨ c = 29 ∨ c = 30 ∨ c = 31 := by omega
        clear hsn h1 h32 hcw hc
        rcases hcs with rfl | rfl | rfl | rfl | rfl | rfl | rfl | rfl | rfl | rfl | rfl | rfl | rfl | rfl | rfl | rfl | rfl | rfl | rfl | rfl | rfl | rfl | rfl | rfl | rfl | rfl | rfl | rfl | rfl | rfl | rfl | rfl
        · have ha : bits .and .i32 0 15 = 0 := by decide +kernel
          have s1 := sl0
          go_wp2
          go_quiet (fail)
          go_wp2
          go_ret
          exact ⟨by rw [HR.out]; rfl, below_drewN hbw _⟩
        · have ha : bits .and .i32 1 15 = 1 := by decide +kernel
          have s1 := sl0
          have s2 := sl1
          go_wp2
          go_quiet (fail)
          go_wp2
          go_ret
          exact ⟨by rw [HR.out]; rfl, below_drewN hbw _⟩
        · have ha : bits .and .i32 2 15 = 2 := by decide +kernel
          have s1 := sl0
          have s2 := sl2
          go_wp2
          go_quiet (fail)
          go_wp2
          go_ret
          exact ⟨by rw [HR.out]; rfl, below_drewN hbw _⟩
        · have ha : bits .and .i32 3 15 = 3 := by decide +kernel
          have s1 := sl0
          have s2 := sl3
          go_wp2
          go_quiet (fail)
          go_wp2
          go_ret
          exact ⟨by rw [HR.out]; rfl, below_drewN hbw _⟩
        · have ha : bits .and .i32 4 15 = 4 := by decide +kernel
          have s1 := sl0
          have s2 := sl4
          go_wp2
          go_quiet (fail)
          go_wp2
          go_ret
          exact ⟨by rw [HR.out]; rfl, below_drewN hbw _⟩
        · have ha : bits .and .i32 5 15 = 5 := by decide +kernel
          have s1 := sl0
          have s2 := sl5
          go_wp2
          go_quiet (fail)
          go_wp2
          go_ret
          exact ⟨by rw [HR.out]; rfl, below_drewN hbw _⟩
        · have ha : bits .and .i32 6 15 = 6 := by decide +kernel
          have s1 := sl0
          have s2 := sl6
          go_wp2
          go_quiet (fail)
          go_wp2
          go_ret
          exact ⟨by rw [HR.out]; rfl, below_drewN hbw _⟩
        · have ha : bits .and .i32 7 15 = 7 := by decide +kernel
          have s1 := sl0
          have s2 := sl7
          go_wp2
          go_quiet (fail)
          go_wp2
          go_ret
          exact ⟨by rw [HR.out]; rfl, below_drewN hbw _⟩
        · have ha : bits .and .i32 8 15 = 8 := by decide +kernel
          have s1 := sl0
          have s2 := sl8
          go_wp2
          go_quiet (fail)
          go_wp2
          go_ret
          exact ⟨by rw [HR.out]; rfl, below_drewN hbw _⟩
        · have ha : bits .and .i32 9 15 = 9 := by decide +kernel
          have s1 := sl0
          have s2 := sl9
          go_wp2
          go_quiet (fail)
          go_wp2
          go_ret
          exact ⟨by rw [HR.out]; rfl, below_drewN hbw _⟩
        · have ha : bits .and .i32 10 15 = 10 := by decide +kernel
          have s1 := sl0
          have s2 := sl10
          go_wp2
          go_quiet (fail)
          go_wp2
          go_ret
          exact ⟨by rw [HR.out]; rfl, below_drewN hbw _⟩
        · have ha : bits .and .i32 11 15 = 11 := by decide +kernel
          have s1 := sl0
          have s2 := sl11
          go_wp2
          go_quiet (fail)
          go_wp2
          go_ret
          exact ⟨by rw [HR.out]; rfl, below_drewN hbw _⟩
        · have ha : bits .and .i32 12 15 = 12 := by decide +kernel
          have s1 := sl0
          have s2 := sl12
          go_wp2
          go_quiet (fail)
          go_wp2
          go_ret
          exact ⟨by rw [HR.out]; rfl, below_drewN hbw _⟩
        · have ha : bits .and .i32 13 15 = 13 := by decide +kernel
          have s1 := sl0
          have s2 := sl13
          go_wp2
          go_quiet (fail)
          go_wp2
          go_ret
          exact ⟨by rw [HR.out]; rfl, below_drewN hbw _⟩
        · have ha : bits .and .i32 14 15 = 14 := by decide +kernel
          have s1 := sl0
          have s2 := sl14
          go_wp2
          go_quiet (fail)
          go_wp2
          go_ret
          exact ⟨by rw [HR.out]; rfl, below_drewN hbw _⟩
        · have ha : bits .and .i32 15 15 = 15 := by decide +kernel
          have s1 := sl0
          have s2 := sl15
          go_wp2
          go_quiet (fail)
          go_wp2
          go_ret
          exact ⟨by rw [HR.out]; rfl, below_drewN hbw _⟩
        · have ha : bits .and .i32 16 15 = 0 := by decide +kernel
          have s1 := sl1
          have s2 := sl0
          go_wp2
          go_quiet (fail)
          go_wp2
          go_ret
          exact ⟨by rw [HR.out]; rfl, below_drewN hbw _⟩
        · have ha : bits .and .i32 17 15 = 1 := by decide +kernel
          have s1 := sl1
          go_wp2
          go_quiet (fail)
          go_wp2
          go_ret
          exact ⟨by rw [HR.out]; rfl, below_drewN hbw _⟩
        · have ha : bits .and .i32 18 15 = 2 := by decide +kernel
          have s1 := sl1
          have s2 := sl2
          go_wp2
          go_quiet (fail)
          go_wp2
          go_ret
          exact ⟨by rw [HR.out]; rfl, below_drewN hbw _⟩
        · have ha : bits .and .i32 19 15 = 3 := by decide +kernel
          have s1 := sl1
          have s2 := sl3
          go_wp2
          go_quiet (fail)
          go_wp2
          go_ret
          exact ⟨by rw [HR.out]; rfl, below_drewN hbw _⟩
        · have ha : bits .and .i32 20 15 = 4 := by decide +kernel
          have s1 := sl1
          have s2 := sl4
          go_wp2
          go_quiet (fail)
          go_wp2
          go_ret
          exact ⟨by rw [HR.out]; rfl, below_drewN hbw _⟩
        · have ha : bits .and .i32 21 15 = 5 := by decide +kernel
          have s1 := sl1
          have s2 := sl5
          go_wp2
          go_quiet (fail)
          go_wp2
          go_ret
          exact ⟨by rw [HR.out]; rfl, below_drewN hbw _⟩
        · have ha : bits .and .i32 22 15 = 6 := by decide +kernel
          have s1 := sl1
          have s2 := sl6
          go_wp2
          go_quiet (fail)
          go_wp2
          go_ret
          exact ⟨by rw [HR.out]; rfl, below_drewN hbw _⟩
        · have ha : bits .and .i32 23 15 = 7 := by decide +kernel
          have s1 := sl1
          have s2 := sl7
          go_wp2
          go_quiet (fail)
          go_wp2
          go_ret
          exact ⟨by rw [HR.out]; rfl, below_drewN hbw _⟩
        · have ha : bits .and .i32 24 15 = 8 := by decide +kernel
          have s1 := sl1
          have s2 := sl8
          go_wp2
          go_quiet (fail)
          go_wp2
          go_ret
          exact ⟨by rw [HR.out]; rfl, below_drewN hbw _⟩
        · have ha : bits .and .i32 25 15 = 9 := by decide +kernel
          have s1 := sl1
          have s2 := sl9
          go_wp2
          go_quiet (fail)
          go_wp2
          go_ret
          exact ⟨by rw [HR.out]; rfl, below_drewN hbw _⟩
        · have ha : bits .and .i32 26 15 = 10 := by decide +kernel
          have s1 := sl1
          have s2 := sl10
          go_wp2
          go_quiet (fail)
          go_wp2
          go_ret
          exact ⟨by rw [HR.out]; rfl, below_drewN hbw _⟩
        · have ha : bits .and .i32 27 15 = 11 := by decide +kernel
          have s1 := sl1
          have s2 := sl11
          go_wp2
          go_quiet (fail)
          go_wp2
          go_ret
          exact ⟨by rw [HR.out]; rfl, below_drewN hbw _⟩
        · have ha : bits .and .i32 28 15 = 12 := by decide +kernel
          have s1 := sl1
          have s2 := sl12
          go_wp2
          go_quiet (fail)
          go_wp2
          go_ret
          exact ⟨by rw [HR.out]; rfl, below_drewN hbw _⟩
        · have ha : bits .and .i32 29 15 = 13 := by decide +kernel
          have s1 := sl1
          have s2 := sl13
          go_wp2
          go_quiet (fail)
          go_wp2
          go_ret
          exact ⟨by rw [HR.out]; rfl, below_drewN hbw _⟩
        · have ha : bits .and .i32 30 15 = 14 := by decide +kernel
          have s1 := sl1
          have s2 := sl14
          go_wp2
          go_quiet (fail)
          go_wp2
          go_ret
          exact ⟨by rw [HR.out]; rfl, below_drewN hbw _⟩
        · have ha : bits .and .i32 31 15 = 15 := by decide +kernel
          have s1 := sl1
          have s2 := sl15
          go_wp2
          go_quiet (fail)
          go_wp2
          go_ret
          exact ⟨by rw [HR.out]; rfl, below_drewN hbw _⟩
      · have HR := Lib.hid (escS_own hsn h32)
        have h1 : ((c : Int) < 32) = False := by simp; omega
        clear hsn h32
        go_wp2
        go_ret
        exact ⟨by rw [HR.out]; rfl, hbw⟩
end Go.Proofs.YtgnialemiefeeaaDoor
