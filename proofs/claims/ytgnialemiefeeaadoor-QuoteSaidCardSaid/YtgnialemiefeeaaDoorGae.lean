import Derived.Test.YtgnialemiefeeaaDoorGad
import Derived.Test.YtgnialemiefeeaaDoorGab
import Derived.Lib.OthersKept
import Derived.WalkSmall
import Derived.Laws.EntriesVeiled
import Derived.Deep.WholeRow
import Derived.Test.YtgnialemiefeeaaDoorGaa
import Derived.RangeFuncBox
import Derived.Test.YtgnialemiefeeaaDoorGac
/-
  Layer 2: spelling.
-/
namespace Go.Proofs.YtgnialemiefeeaaDoor
open Go.RowKit

theorem short_yes {k c : Nat} (hk : k < 8) (hf : ef k = false) (h : ec k = c) : shortL c = some (el k) := by
  subst h
  rcases (show k = 0 ∨ k = 1 ∨ k = 2 ∨ k = 3 ∨ k = 4 ∨ k = 5 ∨ k = 6 ∨ k = 7 by omega) with rfl | rfl | rfl | rfl | rfl | rfl | rfl | rfl
  all_goals first | rfl | cases hf
theorem short_no {c : Nat} (h : ∀ k, k < 8 → ef k = false → ec k ≠ c) : shortL c = none := by
  have h0 := h 0 (by omega) rfl
  have h1 := h 1 (by omega) rfl
  have h3 := h 3 (by omega) rfl
  have h4 := h 4 (by omega) rfl
  have h5 := h 5 (by omega) rfl
  have h6 := h 6 (by omega) rfl
  have h7 := h 7 (by omega) rfl
  simp only [ec] at h0 h1 h3 h4 h5 h6 h7
  unfold shortL
  rw [if_neg (by omega), if_neg (by omega), if_neg (by omega), if_neg (by omega), if_neg (by omega), if_neg (by omega), if_neg (by omega)]
/-- What is written for a code point that is escaped; nothing for another. -/
def escS (c : Nat) : List UInt8 := match shortL c with | some x => [b8 92, b8 x] | none => if c < 32 then fourT false c else []
theorem escS_short {c x : Nat} (h : shortL c = some x) : escS c = [b8 92, b8 x] := by unfold escS; rw [h]
theorem escS_low {c : Nat} (h : shortL c = none) (h2 : c < 32) : escS c = fourT false c := by unfold escS; rw [h]; exact if_pos h2
theorem escS_own {c : Nat} (h : shortL c = none) (h2 : ¬ c < 32) : escS c = [] := by unfold escS; rw [h]; exact if_neg h2

set_option maxRecDepth 20000 in
theorem sl0 : ∀ W, (Instr.slice 9 (.string ⟨#[48, 49, 50, 51, 52, 53, 54, 55, 56, 57, 97, 98, 99, 100, 101, 102]⟩) (some (.int .i32 0)) (some (.int .i32 (IntKind.i32.wrap 1))) none).run Tryd.prog W = .ok (.string ⟨#[48]⟩) W := fun W => by kernel_rfl
set_option maxRecDepth 20000 in
theorem sl1 : ∀ W, (Instr.slice 9 (.string ⟨#[48, 49, 50, 51, 52, 53, 54, 55, 56, 57, 97, 98, 99, 100, 101, 102]⟩) (some (.int .i32 1)) (some (.int .i32 (IntKind.i32.wrap 2))) none).run Tryd.prog W = .ok (.string ⟨#[49]⟩) W := fun W => by kernel_rfl
set_option maxRecDepth 20000 in
theorem sl2 : ∀ W, (Instr.slice 9 (.string ⟨#[48, 49, 50, 51, 52, 53, 54, 55, 56, 57, 97, 98, 99, 100, 101, 102]⟩) (some (.int .i32 2)) (some (.int .i32 (IntKind.i32.wrap 3))) none).run Tryd.prog W = .ok (.string ⟨#[50]⟩) W := fun W => by kernel_rfl
set_option maxRecDepth 20000 in
theorem sl3 : ∀ W, (Instr.slice 9 (.string ⟨#[48, 49, 50, 51, 52, 53, 54, 55, 56, 57, 97, 98, 99, 100, 101, 102]⟩) (some (.int .i32 3)) (some (.int .i32 (IntKind.i32.wrap 4))) none).run Tryd.prog W = .ok (.string ⟨#[51]⟩) W := fun W => by kernel_rfl
set_option maxRecDepth 20000 in
theorem sl4 : ∀ W, (Instr.slice 9 (.string ⟨#[48, 49, 50, 51, 52, 53, 54, 55, 56, 57, 97, 98, 99, 100, 101, 102]⟩) (some (.int .i32 4)) (some (.int .i32 (IntKind.i32.wrap 5))) none).run Tryd.prog W = .ok (.string ⟨#[52]⟩) W := fun W => by kernel_rfl
set_option maxRecDepth 20000 in
theorem sl5 : ∀ W, (Instr.slice 9 (.string ⟨#[48, 49, 50, 51, 52, 53, 54, 55, 56, 57, 97, 98, 99, 100, 101, 102]⟩) (some (.int .i32 5)) (some (.int .i32 (IntKind.i32.wrap 6))) none).run Tryd.prog W = .ok (.string ⟨#[53]⟩) W := fun W => by kernel_rfl
set_option maxRecDepth 20000 in
theorem sl6 : ∀ W, (Instr.slice 9 (.string ⟨#[48, 49, 50, 51, 52, 53, 54, 55, 56, 57, 97, 98, 99, 100, 101, 102]⟩) (some (.int .i32 6)) (some (.int .i32 (IntKind.i32.wrap 7))) none).run Tryd.prog W = .ok (.string ⟨#[54]⟩) W := fun W => by kernel_rfl
set_option maxRecDepth 20000 in
theorem sl7 : ∀ W, (Instr.slice 9 (.string ⟨#[48, 49, 50, 51, 52, 53, 54, 55, 56, 57, 97, 98, 99, 100, 101, 102]⟩) (some (.int .i32 7)) (some (.int .i32 (IntKind.i32.wrap 8))) none).run Tryd.prog W = .ok (.string ⟨#[55]⟩) W := fun W => by kernel_rfl
set_option maxRecDepth 20000 in
theorem sl8 : ∀ W, (Instr.slice 9 (.string ⟨#[48, 49, 50, 51, 52, 53, 54, 55, 56, 57, 97, 98, 99, 100, 101, 102]⟩) (some (.int .i32 8)) (some (.int .i32 (IntKind.i32.wrap 9))) none).run Tryd.prog W = .ok (.string ⟨#[56]⟩) W := fun W => by kernel_rfl
set_option maxRecDepth 20000 in
theorem sl9 : ∀ W, (Instr.slice 9 (.string ⟨#[48, 49, 50, 51, 52, 53, 54, 55, 56, 57, 97, 98, 99, 100, 101, 102]⟩) (some (.int .i32 9)) (some (.int .i32 (IntKind.i32.wrap 10))) none).run Tryd.prog W = .ok (.string ⟨#[57]⟩) W := fun W => by kernel_rfl
set_option maxRecDepth 20000 in
theorem sl10 : ∀ W, (Instr.slice 9 (.string ⟨#[48, 49, 50, 51, 52, 53, 54, 55, 56, 57, 97, 98, 99, 100, 101, 102]⟩) (some (.int .i32 10)) (some (.int .i32 (IntKind.i32.wrap 11))) none).run Tryd.prog W = .ok (.string ⟨#[97]⟩) W := fun W => by kernel_rfl
set_option maxRecDepth 20000 in
theorem sl11 : ∀ W, (Instr.slice 9 (.string ⟨#[48, 49, 50, 51, 52, 53, 54, 55, 56, 57, 97, 98, 99, 100, 101, 102]⟩) (some (.int .i32 11)) (some (.int .i32 (IntKind.i32.wrap 12))) none).run Tryd.prog W = .ok (.string ⟨#[98]⟩) W := fun W => by kernel_rfl
set_option maxRecDepth 20000 in
theorem sl12 : ∀ W, (Instr.slice 9 (.string ⟨#[48, 49, 50, 51, 52, 53, 54, 55, 56, 57, 97, 98, 99, 100, 101, 102]⟩) (some (.int .i32 12)) (some (.int .i32 (IntKind.i32.wrap 13))) none).run Tryd.prog W = .ok (.string ⟨#[99]⟩) W := fun W => by kernel_rfl
set_option maxRecDepth 20000 in
theorem sl13 : ∀ W, (Instr.slice 9 (.string ⟨#[48, 49, 50, 51, 52, 53, 54, 55, 56, 57, 97, 98, 99, 100, 101, 102]⟩) (some (.int .i32 13)) (some (.int .i32 (IntKind.i32.wrap 14))) none).run Tryd.prog W = .ok (.string ⟨#[100]⟩) W := fun W => by kernel_rfl
set_option maxRecDepth 20000 in
theorem sl14 : ∀ W, (Instr.slice 9 (.string ⟨#[48, 49, 50, 51, 52, 53, 54, 55, 56, 57, 97, 98, 99, 100, 101, 102]⟩) (some (.int .i32 14)) (some (.int .i32 (IntKind.i32.wrap 15))) none).run Tryd.prog W = .ok (.string ⟨#[101]⟩) W := fun W => by kernel_rfl
set_option maxRecDepth 20000 in
theorem sl15 : ∀ W, (Instr.slice 9 (.string ⟨#[48, 49, 50, 51, 52, 53, 54, 55, 56, 57, 97, 98, 99, 100, 101, 102]⟩) (some (.int .i32 15)) (some (.int .i32 (IntKind.i32.wrap 16))) none).run Tryd.prog W = .ok (.string ⟨#[102]⟩) W := fun W => by kernel_rfl
set_option maxRecDepth 100000 in
set_option maxHeartbeats 2000000 in
theorem spelling_any (c : Nat) (hc : c ≤ 1114111) (w : World) (htab : ETab w) :
    Calls Tryd.prog 58 #[.int .i32 (c : Int)] w fun e w' => e = .returned (.string (ofL (escS c))) ∧ Below w.heap.size w w' := by
  have hcw : wrap64 (c : Int) = (c : Int) := IntWalk.wrap64_in _ ⟨by omega, by omega⟩
  go_enter Tryd.func58, Tryd.ntmps58
  go_wp2_with (refine wpList_load_mid rfl 85 _ rfl 0 0 rfl etab _ htab Tryd.underlying85 rfl info_etab ?_)
  go_loopw [6] (fun i wr => ∃ k : Nat, k ≤ 8 ∧ i = .int .i64 k ∧ (∀ j, j < k → ef j = false → ec j ≠ c) ∧ Below w.heap.size w wr) (fun i _ => 8 - (intOf i).toNat)
  case atStart => exact ⟨0, by omega, rfl, fun j hj => by omega, Below.refl _ _⟩
  case round =>
    obtain ⟨k, hk, rfl, hP, hbw⟩ := hrel
    by_cases hlt : k < 8
    · have hk4 : (k : Int) < 8 := by omega
      have hk0 : (0 : Int) ≤ k := by omega
      have hidx := index_esc k hlt
      have hel := el_lt k
      have bx := Box.new wr #[.int .u8 (el k), .int .i64 (ec k), .bool (ef k)] 84
      have d0 := (bx 0 _ rfl).1
      have d1 := (bx 1 _ rfl).1
      have d2 := (bx 2 _ rfl).1
      have hbn := bel_alloc hbw (.cells #[.int .u8 (el k), .int .i64 (ec k), .bool (ef k)] 84)
      cases hf : ef k
      · rw [hf] at hidx bx d2 hbn d0 d1
        by_cases hq : ec k = c
        · have HR := Lib.hid (escS_short (short_yes hlt hf hq))
          have hbv : Value.int .u8 ((el k : Nat) : Int) = bv (b8 (el k)) := by unfold bv; rw [b8_toNat _ hel]
          have hby := bytes_new (wr.alloc (.cells #[.int .u8 (el k), .int .i64 (ec k), .bool false] 84)) [b8 92, b8 (el k)] #[.int .u8 92, .int .u8 (el k)] 5 (0, 0) (by rw [hbv]; rfl)
          rw [World.size_alloc] at hby
          have hconv := run_bytes_string (P := Tryd.prog) Tryd.underlying22 Tryd.underlying5 Tryd.underlying9 _ _ 2 2 _ _ hby
          have hq' : ((ec k : Int) == (c : Int)) = true := by rw [hq]; simp
          clear hP hq hlt hf hby hbv
          generalize hz : [b8 92, b8 (el k)] = Z at *
          generalize el k = x0 at *
          generalize ec k = x1 at *
          go_wp2
          go_ret
          exact ⟨by rw [HR.out]; rfl, bel_alloc hbn _⟩
        · have HP := Lib.hid (show ∀ j, j < k + 1 → ef j = false → ec j ≠ c from fun j hj hf => if e : j = k then e ▸ hq else hP j (by omega) hf)
          have hq' : ((ec k : Int) == (c : Int)) = false := by rw [beq_eq_false_iff_ne]; omega
          clear hP hq hlt hf
          generalize el k = x0 at *
          generalize ec k = x1 at *
          go_wp2
          go_roundw
          case rel => exact ⟨k + 1, by omega, by go_num, HP.out, hbn⟩
          case measure => simp [intOf]; omega
      · have HP := Lib.hid (show ∀ j, j < k + 1 → ef j = false → ec j ≠ c from fun j hj hf' => if e : j = k then (by subst e; rw [hf] at hf'; cases hf') else hP j (by omega) hf')
        rw [hf] at hidx bx d2 hbn d0 d1
        clear hP hlt hf
        generalize el k = x0 at *
        generalize ec k = x1 at *
        go_wp2
        go_roundw
        case rel => exact ⟨k + 1, by omega, by go_num, HP.out, hbn⟩
        case measure => simp [intOf]; omega
    · have hsn := short_no (c := c) (fun j hj => hP j (by omega))
      have hk8 : k = 8 := by omega
      subst hk8
      clear hP hlt
      by_cases h32 : c < 32
      · have HR := Lib.hid (escS_low hsn h32)
        have h1 : ((c : Int) < 32) = True := by simp; omega
        have hcs : c = 0 ∨ c = 1 ∨ c = 2 ∨ c = 3 ∨ c = 4 ∨ c = 5 ∨ c = 6 ∨ c = 7 ∨ c = 8 ∨ c = 9 ∨ c = 10 ∨ c = 11 ∨ c = 12 ∨ c = 13 ∨ c = 14 ∨ c = 15 ∨ c = 16 ∨ c = 17 ∨ c = 18 ∨ c = 19 ∨ c = 20 ∨ c = 21 ∨ c = 22 ∨ c = 23 ∨ c = 24 ∨ c = 25 ∨ c = 26 ∨ c = 27 ∨ c = 28 ∨ c = 29 ∨ c = 30 ∨ c = 31 := by omega
        clear hsn h1 h32 hcw hc
        rcases hcs with rfl | rfl | rfl | rfl | rfl | rfl | rfl | rfl | rfl | rfl | rfl | rfl | rfl | rfl | rfl | rfl | rfl | rfl | rfl | rfl | rfl | rfl | rfl | rfl | rfl | rfl | rfl | rfl | rfl | rfl | rfl | rfl
        · have ha : bits .and .i32 0 15 = 0 := by decide +kernel
          have s1 := sl0
          go_wp2
          go_quiet (fail)
          go_wp2
          go_ret
          exact ⟨by rw [HR.out]; rfl, below_drewN hbw _⟩
        · have ha : bits .and .i32 1 15 = 1 := by decide +kernel
          have s1 := sl0
          have s2 := sl1
          go_wp2
          go_quiet (fail)
          go_wp2
          go_ret
          exact ⟨by rw [HR.out]; rfl, below_drewN hbw _⟩
        · have ha : bits .and .i32 2 15 = 2 := by decide +kernel
          have s1 := sl0
          have s2 := sl2
          go_wp2
          go_quiet (fail)
          go_wp2
          go_ret
          exact ⟨by rw [HR.out]; rfl, below_drewN hbw _⟩
        · have ha : bits .and .i32 3 15 = 3 := by decide +kernel
          have s1 := sl0
          have s2 := sl3
          go_wp2
          go_quiet (fail)
          go_wp2
          go_ret
          exact ⟨by rw [HR.out]; rfl, below_drewN hbw _⟩
        · have ha : bits .and .i32 4 15 = 4 := by decide +kernel
          have s1 := sl0
          have s2 := sl4
          go_wp2
          go_quiet (fail)
          go_wp2
          go_ret
          exact ⟨by rw [HR.out]; rfl, below_drewN hbw _⟩
        · have ha : bits .and .i32 5 15 = 5 := by decide +kernel
          have s1 := sl0
          have s2 := sl5
          go_wp2
          go_quiet (fail)
          go_wp2
          go_ret
          exact ⟨by rw [HR.out]; rfl, below_drewN hbw _⟩
        · have ha : bits .and .i32 6 15 = 6 := by decide +kernel
          have s1 := sl0
          have s2 := sl6
          go_wp2
          go_quiet (fail)
          go_wp2
          go_ret
          exact ⟨by rw [HR.out]; rfl, below_drewN hbw _⟩
        · have ha : bits .and .i32 7 15 = 7 := by decide +kernel
          have s1 := sl0
          have s2 := sl7
          go_wp2
          go_quiet (fail)
          go_wp2
          go_ret
          exact ⟨by rw [HR.out]; rfl, below_drewN hbw _⟩
        · have ha : bits .and .i32 8 15 = 8 := by decide +kernel
          have s1 := sl0
          have s2 := sl8
          go_wp2
          go_quiet (fail)
          go_wp2
          go_ret
          exact ⟨by rw [HR.out]; rfl, below_drewN hbw _⟩
        · have ha : bits .and .i32 9 15 = 9 := by decide +kernel
          have s1 := sl0
          have s2 := sl9
          go_wp2
          go_quiet (fail)
          go_wp2
          go_ret
          exact ⟨by rw [HR.out]; rfl, below_drewN hbw _⟩
        · have ha : bits .and .i32 10 15 = 10 := by decide +kernel
          have s1 := sl0
          have s2 := sl10
          go_wp2
          go_quiet (fail)
          go_wp2
          go_ret
          exact ⟨by rw [HR.out]; rfl, below_drewN hbw _⟩
        · have ha : bits .and .i32 11 15 = 11 := by decide +kernel
          have s1 := sl0
          have s2 := sl11
          go_wp2
          go_quiet (fail)
          go_wp2
          go_ret
          exact ⟨by rw [HR.out]; rfl, below_drewN hbw _⟩
        · have ha : bits .and .i32 12 15 = 12 := by decide +kernel
          have s1 := sl0
          have s2 := sl12
          go_wp2
          go_quiet (fail)
          go_wp2
          go_ret
          exact ⟨by rw [HR.out]; rfl, below_drewN hbw _⟩
        · have ha : bits .and .i32 13 15 = 13 := by decide +kernel
          have s1 := sl0
          have s2 := sl13
          go_wp2
          go_quiet (fail)
          go_wp2
          go_ret
          exact ⟨by rw [HR.out]; rfl, below_drewN hbw _⟩
        · have ha : bits .and .i32 14 15 = 14 := by decide +kernel
          have s1 := sl0
          have s2 := sl14
          go_wp2
          go_quiet (fail)
          go_wp2
          go_ret
          exact ⟨by rw [HR.out]; rfl, below_drewN hbw _⟩
        · have ha : bits .and .i32 15 15 = 15 := by decide +kernel
          have s1 := sl0
          have s2 := sl15
          go_wp2
          go_quiet (fail)
          go_wp2
          go_ret
          exact ⟨by rw [HR.out]; rfl, below_drewN hbw _⟩
        · have ha : bits .and .i32 16 15 = 0 := by decide +kernel
          have s1 := sl1
          have s2 := sl0
          go_wp2
          go_quiet (fail)
          go_wp2
          go_ret
          exact ⟨by rw [HR.out]; rfl, below_drewN hbw _⟩
        · have ha : bits .and .i32 17 15 = 1 := by decide +kernel
          have s1 := sl1
          go_wp2
          go_quiet (fail)
          go_wp2
          go_ret
          exact ⟨by rw [HR.out]; rfl, below_drewN hbw _⟩
        · have ha : bits .and .i32 18 15 = 2 := by decide +kernel
          have s1 := sl1
          have s2 := sl2
          go_wp2
          go_quiet (fail)
          go_wp2
          go_ret
          exact ⟨by rw [HR.out]; rfl, below_drewN hbw _⟩
        · have ha : bits .and .i32 19 15 = 3 := by decide +kernel
          have s1 := sl1
          have s2 := sl3
          go_wp2
          go_quiet (fail)
          go_wp2
          go_ret
          exact ⟨by rw [HR.out]; rfl, below_drewN hbw _⟩
        · have ha : bits .and .i32 20 15 = 4 := by decide +kernel
          have s1 := sl1
          have s2 := sl4
          go_wp2
          go_quiet (fail)
          go_wp2
          go_ret
          exact ⟨by rw [HR.out]; rfl, below_drewN hbw _⟩
        · have ha : bits .and .i32 21 15 = 5 := by decide +kernel
          have s1 := sl1
          have s2 := sl5
          go_wp2
          go_quiet (fail)
          go_wp2
          go_ret
          exact ⟨by rw [HR.out]; rfl, below_drewN hbw _⟩
        · have ha : bits .and .i32 22 15 = 6 := by decide +kernel
          have s1 := sl1
          have s2 := sl6
          go_wp2
          go_quiet (fail)
          go_wp2
          go_ret
          exact ⟨by rw [HR.out]; rfl, below_drewN hbw _⟩
        · have ha : bits .and .i32 23 15 = 7 := by decide +kernel
          have s1 := sl1
          have s2 := sl7
          go_wp2
          go_quiet (fail)
          go_wp2
          go_ret
          exact ⟨by rw [HR.out]; rfl, below_drewN hbw _⟩
        · have ha : bits .and .i32 24 15 = 8 := by decide +kernel
          have s1 := sl1
          have s2 := sl8
          go_wp2
          go_quiet (fail)
          go_wp2
          go_ret
          exact ⟨by rw [HR.out]; rfl, below_drewN hbw _⟩
        · have ha : bits .and .i32 25 15 = 9 := by decide +kernel
          have s1 := sl1
          have s2 := sl9
          go_wp2
          go_quiet (fail)
          go_wp2
          go_ret
          exact ⟨by rw [HR.out]; rfl, below_drewN hbw _⟩
        · have ha : bits .and .i32 26 15 = 10 := by decide +kernel
          have s1 := sl1
          have s2 := sl10
          go_wp2
          go_quiet (fail)
          go_wp2
          go_ret
          exact ⟨by rw [HR.out]; rfl, below_drewN hbw _⟩
        · have ha : bits .and .i32 27 15 = 11 := by decide +kernel
          have s1 := sl1
          have s2 := sl11
          go_wp2
          go_quiet (fail)
          go_wp2
          go_ret
          exact ⟨by rw [HR.out]; rfl, below_drewN hbw _⟩
        · have ha : bits .and .i32 28 15 = 12 := by decide +kernel
          have s1 := sl1
          have s2 := sl12
          go_wp2
          go_quiet (fail)
          go_wp2
          go_ret
          exact ⟨by rw [HR.out]; rfl, below_drewN hbw _⟩
        · have ha : bits .and .i32 29 15 = 13 := by decide +kernel
          have s1 := sl1
          have s2 := sl13
          go_wp2
          go_quiet (fail)
          go_wp2
          go_ret
          exact ⟨by rw [HR.out]; rfl, below_drewN hbw _⟩
        · have ha : bits .and .i32 30 15 = 14 := by decide +kernel
          have s1 := sl1
          have s2 := sl14
          go_wp2
          go_quiet (fail)
          go_wp2
          go_ret
          exact ⟨by rw [HR.out]; rfl, below_drewN hbw _⟩
        · have ha : bits .and .i32 31 15 = 15 := by decide +kernel
          have s1 := sl1
          have s2 := sl15
          go_wp2
          go_quiet (fail)
          go_wp2
          go_ret
          exact ⟨by rw [HR.out]; rfl, below_drewN hbw _⟩
      · have HR := Lib.hid (escS_own hsn h32)
        have h1 : ((c : Int) < 32) = False := by simp; omega
        clear hsn h32
        go_wp2
        go_ret
        exact ⟨by rw [HR.out]; rfl, hbw⟩
end Go.Proofs.YtgnialemiefeeaaDoor
/-
  Layer 2: the model's own way with a text's code points, and mine.
-/
namespace Go.Proofs.YtgnialemiefeeaaDoor
open Go.RowKit

theorem encode_cp (c : Nat) (h : isCp c = true) : Utf8.encode (c : Int) = ofL (encL c) := by
  have hc := (isCp_iff c).1 h
  have hv : Utf8.valid (c : Int) = true := by unfold Utf8.valid; simp; omega
  unfold Utf8.encode encL ofL b8
  simp only [hv, if_true, Int.toNat_natCast]
  split
  · rfl
  · split
    · rfl
    · split
      · rfl
      · rfl
theorem get_drop (s : ByteArray) (l : List UInt8) (hs : s.data.toList = l) (p k : Nat) : (s.get! (p + k)).toNat = at0 (l.drop p) k := by
  rw [at0_drop]
  unfold at0
  subst hs
  congr 1
  show s.data[p + k]! = s.data.toList.getD (p + k) 0
  rw [List.getD_eq_getElem?_getD, Array.getElem?_toList, getElem!_def]
  cases s.data[p + k]? <;> rfl
theorem decode_cp (s : ByteArray) (l : List UInt8) (hs : s.data.toList = l) (p c n : Nat) (h : decL (l.drop p) = (c, n)) (hn : n ≠ 0) : Utf8.decode s p = (c, n) := by
  have g := get_drop s l hs p
  obtain ⟨hc, r, e, e2⟩ := enc_dec h hn
  have hc' := (isCp_iff c).1 hc
  have hsz : s.size = l.length := by rw [← hs, Array.length_toList]; rfl
  have hle : p + n ≤ l.length := by
    have := congrArg List.length e
    rw [List.length_drop, List.length_append, ← e2] at this
    omega
  have hv : Utf8.valid (c : Int) = true := by unfold Utf8.valid; simp; omega
  simp only [Utf8.decode, g]
  rw [e] at g ⊢
  unfold encL at e2 ⊢
  by_cases c1 : c < 128
  · rw [if_pos c1] at e2 ⊢
    have a0 : at0 ([b8 c] ++ r) 0 = c := b8_toNat c (by omega)
    rw [a0, if_pos c1, e2]
    rfl
  · rw [if_neg c1] at e2 ⊢
    by_cases c2 : c < 2048
    · rw [if_pos c2] at e2 ⊢
      have a0 : at0 ([b8 (192 + c / 64), b8 (128 + c % 64)] ++ r) 0 = 192 + c / 64 := b8_toNat _ (by omega)
      have a1 : at0 ([b8 (192 + c / 64), b8 (128 + c % 64)] ++ r) 1 = 128 + c % 64 := b8_toNat _ (by omega)
      have e3 : n = 2 := e2
      subst e3
      rw [a0, a1, if_neg (by omega), if_pos (by simp; omega), if_pos (by omega)]
      refine Prod.ext ?_ rfl
      simp only
      omega
    · rw [if_neg c2] at e2 ⊢
      by_cases c3 : c < 65536
      · rw [if_pos c3] at e2 ⊢
        have a0 : at0 ([b8 (224 + c / 4096), b8 (128 + c / 64 % 64), b8 (128 + c % 64)] ++ r) 0 = 224 + c / 4096 := b8_toNat _ (by omega)
        have a1 : at0 ([b8 (224 + c / 4096), b8 (128 + c / 64 % 64), b8 (128 + c % 64)] ++ r) 1 = 128 + c / 64 % 64 := b8_toNat _ (by omega)
        have a2 : at0 ([b8 (224 + c / 4096), b8 (128 + c / 64 % 64), b8 (128 + c % 64)] ++ r) 2 = 128 + c % 64 := b8_toNat _ (by omega)
        have e3 : n = 3 := e2
        subst e3
        have hcc : (224 + c / 4096) % 16 * 4096 + (128 + c / 64 % 64) % 64 * 64 + (128 + c % 64) % 64 = c := by omega
        rw [a0, a1, a2, if_neg (by omega), if_neg (by simp; omega), if_pos (by simp; omega), hcc, if_pos (by simp [hv]; omega)]
      · rw [if_neg c3] at e2 ⊢
        have a0 : at0 ([b8 (240 + c / 262144), b8 (128 + c / 4096 % 64), b8 (128 + c / 64 % 64), b8 (128 + c % 64)] ++ r) 0 = 240 + c / 262144 := b8_toNat _ (by omega)
        have a1 : at0 ([b8 (240 + c / 262144), b8 (128 + c / 4096 % 64), b8 (128 + c / 64 % 64), b8 (128 + c % 64)] ++ r) 1 = 128 + c / 4096 % 64 := b8_toNat _ (by omega)
        have a2 : at0 ([b8 (240 + c / 262144), b8 (128 + c / 4096 % 64), b8 (128 + c / 64 % 64), b8 (128 + c % 64)] ++ r) 2 = 128 + c / 64 % 64 := b8_toNat _ (by omega)
        have a3 : at0 ([b8 (240 + c / 262144), b8 (128 + c / 4096 % 64), b8 (128 + c / 64 % 64), b8 (128 + c % 64)] ++ r) 3 = 128 + c % 64 := b8_toNat _ (by omega)
        have e3 : n = 4 := e2
        subst e3
        have hcc : (240 + c / 262144) % 8 * 262144 + (128 + c / 4096 % 64) % 64 * 4096 + (128 + c / 64 % 64) % 64 * 64 + (128 + c % 64) % 64 = c := by omega
        rw [a0, a1, a2, a3, if_neg (by omega), if_neg (by simp; omega), if_neg (by simp; omega), if_pos (by simp; omega), hcc, if_pos (by simp [hv]; omega)]
end Go.Proofs.YtgnialemiefeeaaDoor
/-
  Layer 2: what is written for a rune.
-/
namespace Go.Proofs.YtgnialemiefeeaaDoor
open Go.RowKit

theorem escS_spell {c : Nat} (h : escS c = []) : spellL c = encL c := by
  unfold escS at h
  unfold spellL
  cases hs : shortL c with
  | some x => rw [hs] at h; cases h
  | none =>
    rw [hs] at h
    by_cases h2 : c < 32
    · simp only [h2, if_true] at h; cases h
    · simp only [h2, if_false]
theorem escS_is {c : Nat} (h : escS c ≠ []) : spellL c = escS c := by
  unfold escS at h ⊢
  unfold spellL
  cases hs : shortL c with
  | some x => rfl
  | none =>
    rw [hs] at h
    by_cases h2 : c < 32
    · simp only [h2, if_true]
    · simp only [h2, if_false] at h; exact absurd rfl h
set_option maxRecDepth 20000 in
set_option maxHeartbeats 1000000 in
theorem spell1_any (c : Nat) (hc : isCp c = true) (w : World) (htab : ETab w) :
    Calls Tryd.prog 57 #[.int .i32 (c : Int)] w fun e w' => e = .returned (.string (ofL (spellL c))) ∧ Below w.heap.size w w' := by
  have hcp := (isCp_iff c).1 hc
  have hs := spelling_any c (by omega) w htab
  cases he : escS c with
  | nil =>
    have HR := Lib.hid (escS_spell he)
    have hen := encode_cp c hc
    rw [he] at hs
    have hem : (ofL []).toList.isEmpty = true := by rw [ByteArray.toList_eq]; rfl
    rw [HR.out, ← hen]
    generalize ofL [] = T0 at *
    generalize hU : Utf8.encode (c : Int) = U at *
    clear hcp hc he hen
    go_enter Tryd.func57, Tryd.ntmps57
    go_wp2_with fail
    refine hs.mono ?_
    rintro e w1 ⟨rfl, hb⟩
    go_wp2
    go_ret
    exact ⟨rfl, hb⟩
  | cons a t =>
    have HR := Lib.hid (escS_is (c := c) (by rw [he]; simp))
    have hne : (ofL (escS c)).toList.isEmpty = false := by rw [ByteArray.toList_eq, ofL_toList, he]; rfl
    rw [HR.out]
    clear he hcp hc
    generalize ofL (escS c) = T at *
    go_enter Tryd.func57, Tryd.ntmps57
    go_wp2_with fail
    refine hs.mono ?_
    rintro e w1 ⟨rfl, hb⟩
    go_wp2
    go_ret
    exact ⟨rfl, hb⟩
set_option maxRecDepth 20000 in
set_option maxHeartbeats 1000000 in
theorem write_any (c : Nat) (hc : isCp c = true) (w : World) (htab : ETab w) :
    Calls Tryd.prog 59 #[.agg #[.func (.func 57) #[] #[]], .int .i32 (c : Int)] w fun e w' => e = .returned (.string (ofL (spellL c))) ∧ Below w.heap.size w w' := by
  have hs := fun o => spell1_any c hc (w.alloc o) (htab.alloc o)
  go_enter Tryd.func59, Tryd.ntmps59
  go_wp2_with fail
  refine (hs _).mono ?_
  rintro e w1 ⟨rfl, hb⟩
  go_wp2
  go_ret
  exact ⟨rfl, bel_next (bel_alloc (Below.refl _ _) _) hb⟩
end Go.Proofs.YtgnialemiefeeaaDoor
/-
  Layer 2: spelled: each code point of a text is visited, as it is written.
-/
namespace Go.Proofs.YtgnialemiefeeaaDoor
open Go.RowKit

set_option maxRecDepth 20000 in
set_option maxHeartbeats 2000000 in
theorem spelled_any (s : ByteArray) (l : List UInt8) (hs : s.data.toList = l) (hok : (ptsL l).2 = l.length) (g : Nat) (lb : Array Value) (w : World) (hm : s.size ≤ maxLen)
    (I : List Nat → World → Prop) (hU : ∀ pre W, I pre W → ETab W) (hI : ∀ pre W W', I pre W → Below W.heap.size W W' → I pre W')
    (hIt : ∀ pre W k pos pos', w.heap.size ≤ k → I pre W → W.heap[k]? = some (.stringIter s pos) → I pre (W.iterAt k s pos')) (h0 : I [] w)
    (eg : ∀ args w, (callFunc g args).run Tryd.prog w = .ok (.enter g args) w)
    (hv : ∀ pre (c : Nat) W, I pre W → pre.length < s.size → isCp c = true → Calls Tryd.prog g (#[.string (ofL (spellL c))] ++ lb) W fun e W' => (∃ v, e = .returned v) ∧ I (pre ++ [c]) W' ∧ KeepsOthers W W') :
    Calls Tryd.prog 41 #[.string s, .func (.func g) #[] lb] w fun e w' => (∃ v, e = .returned v) ∧ I (ptsL l).1 w' := by
  have hlen : l.length = s.size := by rw [← hs, Array.length_toList]; rfl
  have Hm := Lib.hid hm
  go_enter Tryd.func41, Tryd.ntmps41
  go_wp2
  go_loopw [7] (fun _ wr => ∃ (p : Nat) (pre : List Nat), p ≤ s.size ∧ wr.heap[w.heap.size + 1]? = some (.stringIter s p) ∧ ptsL l = (pre ++ (ptsL (l.drop p)).1, p + (ptsL (l.drop p)).2) ∧ pre.length ≤ p ∧ I pre wr) (fun _ wr => s.size - wr.iterPos (w.heap.size + 1))
  case atStart =>
    refine ⟨0, [], by omega, ?_, by simp, by simp, ?_⟩
    · have h := World.iter_heap (w.alloc (.cells #[.func (.func 57) #[] #[]] 89)) s 0
      rwa [World.size_alloc] at h
    · exact hI _ _ _ h0 (bel_alloc (bel_alloc (Below.refl _ _) _) _)
  case round =>
    obtain ⟨p, pre, hp, hit, hP, hpl, hJ⟩ := hrel
    by_cases hlt : p < s.size
    · have hn : (decL (l.drop p)).2 ≠ 0 := fun h => by
        rw [hP, pts_zero h] at hok
        simp only at hok
        omega
      have hcp := (enc_dec (l := l.drop p) (c := (decL (l.drop p)).1) (n := (decL (l.drop p)).2) rfl hn).1
      have hdc := decode_cp s l hs p (decL (l.drop p)).1 (decL (l.drop p)).2 rfl hn
      have hle := dec_le (l.drop p)
      rw [List.length_drop, hlen] at hle
      have HQ := Lib.hid (show ptsL l = ((pre ++ [(decL (l.drop p)).1]) ++ (ptsL (l.drop (p + (decL (l.drop p)).2))).1, (p + (decL (l.drop p)).2) + (ptsL (l.drop (p + (decL (l.drop p)).2))).2) by
        rw [hP, pts_step (l := l.drop p) hn, List.drop_drop]
        simp [Nat.add_assoc])
      have hnx : ∀ ty, (Instr.next (.pointer (some ⟨w.heap.size + 1, 0, none⟩)) true ty).run Tryd.prog wr = _ := fun ty => Lib.run_next_any_at wr (w.heap.size + 1) s p ty hit hlt
      rw [hdc] at hnx
      simp only at hnx
      clear hP hdc
      generalize (decL (l.drop p)).1 = c at *
      generalize (decL (l.drop p)).2 = n at *
      have hit2 := Lib.iterAt_heap wr (w.heap.size + 1) s p (p + n) hit
      have hJ1 := hIt pre wr (w.heap.size + 1) p (p + n) (by omega) hJ hit
      have Hit := Lib.hid hit
      clear hit
      generalize hW : wr.iterAt (w.heap.size + 1) s (p + n) = W at *
      go_wp2_with fail
      refine (write_any c hcp _ (hU _ _ hJ1)).mono ?_
      rintro e w1 ⟨rfl, hb⟩
      have hJ2 := hI _ _ _ hJ1 hb
      have hit3 : w1.heap[w.heap.size + 1]? = some (.stringIter s (p + n)) := (hb.block _ (Array.getElem?_eq_some_iff.1 hit2).1).trans hit2
      go_wp2_with fail
      refine (hv pre c w1 hJ2 (by omega) hcp).mono ?_
      rintro e w2 ⟨⟨v, rfl⟩, hJ3, hkk⟩
      have hit4 := hkk.same _ _ hit3 rfl
      go_wp2
      go_roundw
      case rel => exact ⟨p + n, pre ++ [c], by omega, hit4, HQ.out, by simp; omega, hJ3⟩
      case measure =>
        rw [iterPos_of hit4, iterPos_of Hit.out]
        omega
    · have hk : p = s.size := by omega
      have HQ := Lib.hid (show ptsL l = (pre, p) by rw [hP, List.drop_of_length_le (by omega), pts_zero (l := []) rfl]; simp)
      have hnx : ∀ ty, (Instr.next (.pointer (some ⟨w.heap.size + 1, 0, none⟩)) true ty).run Tryd.prog wr = _ := fun ty => Lib.run_next_end_at wr (w.heap.size + 1) s p ty hit hlt
      clear hk hP hlt
      go_wp2
      go_end0
      exact ⟨⟨_, rfl⟩, by rw [HQ.out]; exact hJ⟩
end Go.Proofs.YtgnialemiefeeaaDoor
/-
  Slices of whole numbers. No program in sight.
-/
namespace Go.Proofs.YtgnialemiefeeaaDoor
open Go.RowKit

/-- A whole number as a cell holds it. -/
def iv (x : Int) : Value := .int .i64 x
def nats (l : List Nat) : List Int := l.map fun (c : Nat) => (c : Int)
theorem nats_len (l : List Nat) : (nats l).length = l.length := by simp [nats]
theorem nats_snoc (l : List Nat) (c : Nat) : nats (l ++ [c]) = nats l ++ [(c : Int)] := by simp [nats]
theorem nats_inj : ∀ {l m : List Nat}, nats l = nats m → l = m
  | [], [], _ => rfl
  | [], _ :: _, h => by simp [nats] at h
  | _ :: _, [], h => by simp [nats] at h
  | a :: l, b :: m, h => by
    simp only [nats, List.map_cons, List.cons.injEq] at h
    obtain ⟨h1, h2⟩ := h
    rw [show a = b by omega, nats_inj (l := l) (m := m) h2]
theorem iv_one (l : List Int) : ∀ u ∈ l.map iv, u.oneCell' = true := by
  intro u hu
  obtain ⟨x, _, rfl⟩ := List.mem_map.1 hu
  rfl
def Ints (w : World) (B : Nat) (A : Option Addr) (n : Nat) (l : List Int) : Prop := Shows w B 1 A n (l.map iv)
section
variable {w w' : World} {B B' n : Nat} {A : Option Addr} {l : List Int}
theorem Ints.len (h : Ints w B A n l) : l.length = n := by have := h.1; simpa using this
theorem Ints.more (h : Ints w B A n l) (hB : B ≤ B') : Ints w B' A n l := Shows.more h hB
theorem Ints.below (h : Ints w B A n l) (hb : Below B w w') : Ints w' B A n l := Shows.below h hb
theorem Ints.drewN (h : Ints w B A n l) (k : Nat) : Ints (w.drewN k) B A n l := h
theorem Ints.drew (h : Ints w B A n l) : Ints w.drew B A n l := h
theorem Ints.alloc (h : Ints w B A n l) (hB : B ≤ w.heap.size) (o : Obj) : Ints (w.alloc o) B A n l := Shows.alloc h hB o
theorem Ints.first (h : Ints w B A n l) {k : Nat} (hk : k ≤ n) : Ints w B A k (l.take k) := by
  have := Shows.first h hk
  unfold Ints
  simpa [List.map_take] using this
theorem Ints.cell (h : Ints w B A n l) {k : Nat} (hk : k < n) : ∃ b off, A = some ⟨b, off, none⟩ ∧ b < B ∧ w.cell? ⟨b, off + k, none⟩ = some (.int .i64 (l.getD k 0)) := by
  obtain ⟨b, off, e, hb, hc⟩ := h.2 (by omega)
  refine ⟨b, off, e, hb, hc k _ ?_⟩
  have hl := h.len
  rw [List.getElem?_map, List.getElem?_eq_getElem (by omega), List.getD_eq_getElem?_getD, List.getElem?_eq_getElem (by omega)]
  rfl
theorem Ints.own {base : Nat} {e : TypeId} {c : Nat} (h : w.ownsRow base e 1 (.slice A n c) n (l.map iv)) : Ints w w.heap.size A n l := Shows.own h
theorem Ints.zero (A : Option Addr) : Ints w B A 0 [] := Shows.zero A
end
theorem ints_new (w : World) (l : List Int) (C : Array Value) (t : TypeId) (fr : Nat × Nat) (hC : C.toList = l.map iv) : Ints (w.alloc (.cells C t fr)) (w.heap.size + 1) (some ⟨w.heap.size, 0, none⟩) l.length l :=
  ⟨by simp, fun _ => ⟨w.heap.size, 0, rfl, by omega, fun j u hu => by
    rw [cell_of_row _ _ _ _ _ _ (heap_alloc_new w _), Nat.zero_add]
    rw [← hC] at hu
    simpa using hu⟩⟩
theorem takeI_snoc (l : List Int) (k : Nat) (h : k < l.length) : l.take (k + 1) = l.take k ++ [l.getD k 0] := by
  rw [List.take_succ_eq_append_getElem h, List.getD_eq_getElem?_getD, List.getElem?_eq_getElem h]
  rfl
theorem boxed_below {W W' : World} {B : Nat} {t : TypeId} {v : Value} (h : Boxed W B t v) (hb : Below W.heap.size W W') : Boxed W' B t v := (hb.block B h.lt).trans h
end Go.Proofs.YtgnialemiefeeaaDoor
/-
  Layer 1: Points.
-/
namespace Go.Proofs.YtgnialemiefeeaaDoor
open Go.RowKit Go.Shelf

set_option maxRecDepth 20000 in
theorem i64_info : ∃ i, Tryd.prog.info? 3 = some i ∧ i.zero = some (.int .i64 0) ∧ i.size = 1 ∧ i.bytes = 8 := ⟨Tryd.t3, by kernel_rfl, by kernel_rfl, by kernel_rfl, by kernel_rfl⟩
def OutIs (n₀ B : Nat) (pre : List Nat) (W : World) : Prop := ∃ v, Boxed W B 35 v ∧ W.ownsRow n₀ 3 1 v pre.length ((nats pre).map iv)
theorem OutIs.below {n₀ B : Nat} {pre : List Nat} {W W' : World} (h : OutIs n₀ B pre W) (hb : Below W.heap.size W W') : OutIs n₀ B pre W' := by
  obtain ⟨v, h1, h2⟩ := h
  exact ⟨v, boxed_below h1 hb, own_below h2 hb⟩
set_option maxRecDepth 20000 in
set_option maxHeartbeats 1000000 in
theorem visit_any (n₀ B : Nat) (pre : List Nat) (c : Nat) (W : World) (h : OutIs n₀ B pre W) (hB : n₀ ≤ B) (hn : pre.length ≤ 1000000) :
    Calls Tryd.prog 51 #[.int .i64 (c : Int), .pointer (some ⟨B, 0, none⟩)] W fun e W' => (∃ v, e = .returned v) ∧ OutIs n₀ B (pre ++ [c]) W' ∧ Below n₀ W W' := by
  obtain ⟨v, hv, hrow⟩ := h
  obtain ⟨i0, hi, hz0, hz1, hz2⟩ := i64_info
  have hc := hv.cell
  have hvl := hv.lt
  have hnew : Shows (W.alloc (.cells #[.int .i64 (c : Int)] 3)) (W.heap.size + 1) 1 (some ⟨W.heap.size, 0, none⟩) 1 [.int .i64 (c : Int)] := ints_new W [(c : Int)] _ _ _ rfl
  go_enter Tryd.func51, Tryd.ntmps51
  go_wp2_with (at_builtin; refine wpList_append_shows _ rfl _ _ 35 rfl n₀ 3 i0 (.int .i64 0) 1 8 Tryd.underlying35 hi hz0 hz1 hz2 rfl (by decide) _ _ _ rfl (hrow.alloc _) (W.heap.size + 1) _ 1 1 [.int .i64 (c : Int)] rfl hnew (by simp [Value.oneCell']) (by unfold maxLen; omega) (by omega) (by simp; omega) ?_; intro A' c' w7 hown' hgrow' _; obtain ⟨g', cap', hs'⟩ := ownsRow_succ hown'; obtain ⟨hv1, hv2, hr2, hk2, hb2⟩ := hv.appended (by decide) hrow (by omega) (by omega) hown' hgrow'; have hc1 := hv1.cell; have hf1 := hv1.frozen; clear hs')
  go_end0
  exact ⟨⟨_, rfl⟩, ⟨_, hv2, by rw [nats_snoc, List.length_append, List.map_append]; exact hr2⟩, hb2⟩

set_option maxRecDepth 20000 in
theorem points_walk (s : ByteArray) (l : List UInt8) (hs : s.data.toList = l) (w : World) (hm : s.size ≤ 1000000) (htab : UTab w) :
    Calls Tryd.prog 44 #[.string s, .func (.func 51) #[] #[.pointer (some ⟨w.heap.size, 0, none⟩)]] (w.alloc (.cells #[.slice none 0 0] 35)) fun e w' => e = .returned (walkR l) ∧ OutIs w.heap.size w.heap.size (ptsL l).1 w' ∧ UTab w' ∧ Below w.heap.size w w' :=
  walk_any s l hs 51 #[.pointer (some ⟨w.heap.size, 0, none⟩)] _ (by unfold maxLen; omega) (fun pre W => OutIs w.heap.size w.heap.size pre W ∧ UTab W ∧ Below w.heap.size w W) (fun _ _ h => h.2.1) (fun _ W W' h hb => ⟨h.1.below hb, h.2.1.below hb h.2.1.lt, bel_next h.2.2 hb⟩)
    ⟨⟨_, Boxed.new _ _ _, World.ownsRow_nil _ _ _ _⟩, htab.alloc _, (Below.refl _ _).alloc (Nat.le_refl _) _⟩ (enters_of Tryd.func51 (by kernel_rfl) rfl) (fun pre c W h hp =>
      (visit_any _ _ pre c W h.1 (Nat.le_refl _) (by omega)).mono fun e W' ⟨h1, h2, h3⟩ => ⟨h1, h2, h.2.1.below h3 htab.lt, h.2.2.trans h3⟩)

set_option maxRecDepth 20000 in
/-- What Points tells of a text. -/
theorem points_yes (s : ByteArray) (l : List UInt8) (hs : s.data.toList = l) (w : World) (hm : s.size ≤ 1000000) (htab : UTab w) (h : (ptsL l).2 = l.length) :
    Calls Tryd.prog 28 #[.string s] w fun e w' => ∃ A n c, e = .returned (.tuple #[.slice A n c, .int .i64 0, .int .i64 0]) ∧ w'.ownsRow w.heap.size 3 1 (.slice A n c) n ((nats (ptsL l).1).map iv) ∧ Below w.heap.size w w' := by
  have hw := points_walk s l hs w hm htab
  unfold walkR at hw
  rw [if_pos h] at hw
  clear h hs
  go_enter Tryd.func28, Tryd.ntmps28
  go_wp2_with fail
  refine hw.mono ?_
  rintro e w1 ⟨rfl, ⟨v, hv, hrow⟩, -, hb⟩
  have hc := hv.cell
  obtain ⟨A, c', rfl, -, -⟩ := own_form hrow
  go_wp2
  go_ret3
  exact ⟨A, _, c', rfl, hrow, hb⟩
set_option maxRecDepth 20000 in
theorem points_no (s : ByteArray) (l : List UInt8) (hs : s.data.toList = l) (w : World) (hm : s.size ≤ 1000000) (htab : UTab w) (h : (ptsL l).2 ≠ l.length) :
    Calls Tryd.prog 28 #[.string s] w fun e w' => e = .returned (.tuple #[.slice none 0 0, .int .i64 ((ptsL l).2 : Int), .int .i64 110]) ∧ Below w.heap.size w w' := by
  have hw := points_walk s l hs w hm htab
  unfold walkR at hw
  rw [if_neg h] at hw
  clear h hs
  generalize (((ptsL l).2 : Nat) : Int) = x at *
  go_enter Tryd.func28, Tryd.ntmps28
  go_wp2_with fail
  refine hw.mono ?_
  rintro e w1 ⟨rfl, -, -, hb⟩
  go_wp2
  go_ret3
  exact ⟨rfl, hb⟩
end Go.Proofs.YtgnialemiefeeaaDoor
/-
  Layer 2: Size.
-/
namespace Go.Proofs.YtgnialemiefeeaaDoor
open Go.RowKit

set_option maxRecDepth 20000 in
theorem size1_any (T : ByteArray) (B : Nat) (x : Nat) (W : World) (h : Boxed W B 3 (.int .i64 (x : Nat))) (hx : x + T.size ≤ 100000000) :
    Calls Tryd.prog 43 #[.string T, .pointer (some ⟨B, 0, none⟩)] W fun e W' => (∃ v, e = .returned v) ∧ W.setCell ⟨B, 0, none⟩ (.int .i64 ((x : Int) + (T.size : Int))) = W' := by
  have hc := h.cell
  have hf := h.frozen
  have hw : wrap64 ((x : Int) + (T.size : Int)) = (x : Int) + (T.size : Int) := IntWalk.wrap64_in _ ⟨by omega, by omega⟩
  go_enter Tryd.func43, Tryd.ntmps43
  go_wp2
  go_end0
  exact ⟨⟨_, rfl⟩, rfl⟩
/-- What Size tells. -/
def qsizeN (l : List UInt8) : Nat := if (ptsL l).2 = l.length then (spellsL (ptsL l).1).length + 2 else 0
theorem spells_len (cps : List Nat) : (spellsL cps).length ≤ 6 * cps.length := by
  induction cps with
  | nil => exact Nat.le_refl _
  | cons c r ih => rw [spells_cons, List.length_append, List.length_cons]; have := spell_len c; omega
set_option maxRecDepth 20000 in
set_option maxHeartbeats 1000000 in
theorem qsize_any (s : ByteArray) (l : List UInt8) (hs : s.data.toList = l) (w : World) (hm : s.size ≤ 1000000) (htab : UTab w) (hesc : ETab w) :
    Calls Tryd.prog 21 #[.string s] w fun e w' => e = .returned (.int .i64 (qsizeN l : Nat)) ∧ Below w.heap.size w w' := by
  have hchk := check_any s l hs w (by unfold maxLen; omega) htab
  by_cases hok : (ptsL l).2 = l.length
  · have HR := Lib.hid (show qsizeN l = (spellsL (ptsL l).1).length + 2 from if_pos hok)
    rw [show walkR l = .tuple #[.int .i64 0, .int .i64 0] from if_pos hok] at hchk
    go_enter Tryd.func21, Tryd.ntmps21
    go_wp2_with fail
    refine hchk.mono ?_
    rintro e w1 ⟨rfl, hb⟩
    have hb0 := Boxed.new w1 3 (.int .i64 2)
    have hb2 : Below w.heap.size w (w1.alloc (.cells #[.int .i64 2] 3)) := bel_alloc hb _
    have hsp := spelled_any s l hs hok 43 #[.pointer (some ⟨w1.heap.size, 0, none⟩)] (w1.alloc (.cells #[.int .i64 2] 3)) (by unfold maxLen; omega)
      (fun cps W => Boxed W w1.heap.size 3 (.int .i64 (((spellsL cps).length + 2 : Nat) : Int)) ∧ Below w.heap.size w W)
      (fun pre W h => hesc.below h.2 hesc.lt)
      (fun pre W W' h hb => ⟨(hb.block _ h.1.lt).trans h.1, h.2.trans (hb.mono h.2.size)⟩)
      (fun pre W k pos pos' hge h hk => by
        rw [World.size_alloc] at hge
        exact ⟨(Lib.iterAt_other W k w1.heap.size s pos' (by omega)).trans h.1, Lib.below_iterAt h.2 (k := k) (by have := hb.size; omega) s pos'⟩)
      ⟨hb0, hb2⟩ (enters_of Tryd.func43 (by kernel_rfl) rfl)
      (fun pre c W h hl hc => by
        have hx := spells_len pre
        have hy := spell_len c
        refine (size1_any (ofL (spellL c)) w1.heap.size ((spellsL pre).length + 2) W h.1 (by rw [ofL_size]; omega)).mono ?_
        rintro e W' ⟨hv, rfl⟩
        refine ⟨hv, ⟨?_, h.2.setCell hb.size _⟩, KeepsOthers.setCell _ _ _⟩
        have := h.1.set (.int .i64 ((((spellsL pre).length + 2 : Nat) : Int) + ((ofL (spellL c)).size : Int)))
        rw [ofL_size] at this ⊢
        rw [spells_append, spells_one, List.length_append]
        rw [show (((spellsL pre).length + (spellL c).length + 2 : Nat) : Int) = (((spellsL pre).length + 2 : Nat) : Int) + ((spellL c).length : Int) by push_cast; omega]
        exact this)
    go_wp2_with fail
    refine hsp.mono ?_
    rintro e w2 ⟨⟨v, rfl⟩, hbx, hbw⟩
    have hc2 := hbx.cell
    go_wp2
    go_ret
    exact ⟨by rw [HR.out]; simp, hbw⟩
  · have HR := Lib.hid (show qsizeN l = 0 from if_neg hok)
    rw [show walkR l = .tuple #[.int .i64 ((ptsL l).2 : Int), .int .i64 110] from if_neg hok] at hchk
    go_enter Tryd.func21, Tryd.ntmps21
    go_wp2_with fail
    refine hchk.mono ?_
    rintro e w1 ⟨rfl, hb⟩
    go_wp2
    go_ret
    exact ⟨by rw [HR.out]; rfl, hb⟩
end Go.Proofs.YtgnialemiefeeaaDoor
