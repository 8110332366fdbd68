/-
  Package monoid: valid, Check.
-/
import Derived.Test.YtinaecmpigenoaaMonV
namespace Go.Proofs.Ytinaecmpigenoaa
open Go.RowKit
attribute [local go_sem ↓] Go.wp_at_zero Go.wp_at_succ

theorem beq_no {a b : Int} (h : a ≠ b) : (a == b) = false := beq_eq_false_iff_ne.2 h

set_option maxHeartbeats 1000000 in
theorem valid_any (c i v le mo : Int) (w : World) (hv : R128 v) (hle : R64 le) (hmo : R64 mo) :
    Calls Try.prog 25 #[redV c i v le mo] w fun e w' => e = .returned (.bool (validB c i v le mo)) ∧ Below w.heap.size w w' := by
  have hb0 := (Below.refl w.heap.size w).alloc (Nat.le_refl _) (.cells #[.int .i64 c, .int .i64 i, .int .i64 (hiI v), .int .u64 (loI v), .int .i64 le, .int .i64 mo] 24)
  have hlo := lo_bound v
  rcases valid_cases c i v le mo with ⟨h, hr⟩ | ⟨⟨h0, h⟩, hr⟩ | ⟨⟨⟨h0, h1⟩, h⟩, hr⟩ | ⟨⟨⟨h0, h1⟩, h2, h⟩, hr⟩ | ⟨⟨⟨h0, h1⟩, h⟩, hr⟩ | ⟨⟨⟨h0, h1⟩, h2, h⟩, hr⟩ | ⟨⟨⟨h0, h1⟩, h2, h3⟩, hr⟩
  · have Hr := Lib.hid hr
    clear hr
    unfold redV
    go_enter Try.func25, Try.ntmps25
    go_wp2
    go_ret
    exact ⟨by rw [Hr.out]; rfl, hb0⟩
  · have Hr := Lib.hid hr
    clear hr
    unfold redV
    go_enter Try.func25, Try.ntmps25
    go_wp2
    go_ret
    exact ⟨by rw [Hr.out]; rfl, hb0⟩
  · have Hr := Lib.hid hr
    clear hr
    unfold redV
    go_enter Try.func25, Try.ntmps25
    go_wp2
    go_ret
    exact ⟨by rw [Hr.out]; rfl, hb0⟩
  · have Hr := Lib.hid hr
    have hd : decide (c < i) = true := decide_eq_true h
    clear hr
    unfold redV
    go_enter Try.func25, Try.ntmps25
    go_wp2
    go_ret
    exact ⟨by rw [Hr.out]; rfl, hb0⟩
  · subst h
    have hd : decide (c < 0) = false := decide_eq_false (by omega)
    have hz : (hiI v = 0 ∧ loI v = 0) ↔ v = 0 := by
      have := hl_inj v 0 hv (by unfold R128; omega)
      rw [hl_zero.1, hl_zero.2] at this
      exact this
    by_cases a1 : hiI v = 0
    · by_cases a2 : loI v = 0
      · have hv0 := hz.1 ⟨a1, a2⟩
        by_cases a3 : le = 0
        · by_cases a4 : mo = 0
          · have Hr := Lib.hid (hr.trans (decide_eq_true ⟨hv0, a3, a4⟩))
            clear hr hz hv0
            unfold redV
            rw [a1, a2, a3, a4]
            rw [a1, a2, a3, a4] at hb0
            rw [a3, a4] at Hr
            clear a1 a2 a3 a4
            go_enter Try.func25, Try.ntmps25
            go_wp2
            go_ret
            exact ⟨by rw [Hr.out]; rfl, hb0⟩
          · have Hr := Lib.hid (hr.trans (decide_eq_false (fun h => a4 h.2.2)))
            have e4 := beq_no a4
            clear hr hz hv0
            unfold redV
            rw [a1, a2, a3]
            rw [a1, a2, a3] at hb0
            rw [a3] at Hr
            clear a1 a2 a3
            go_enter Try.func25, Try.ntmps25
            go_wp2
            go_ret
            exact ⟨by rw [Hr.out]; rfl, hb0⟩
        · have Hr := Lib.hid (hr.trans (decide_eq_false (fun h => a3 h.2.1)))
          have e3 := beq_no a3
          clear hr hz hv0
          unfold redV
          rw [a1, a2]
          rw [a1, a2] at hb0
          clear a1 a2
          go_enter Try.func25, Try.ntmps25
          go_wp2
          go_ret
          exact ⟨by rw [Hr.out]; rfl, hb0⟩
      · have Hr := Lib.hid (hr.trans (decide_eq_false (fun h => a2 (hz.2 h.1).2)))
        have e2 := beq_no a2
        clear hr hz
        unfold redV
        rw [a1]
        rw [a1] at hb0
        clear a1
        go_enter Try.func25, Try.ntmps25
        go_wp2
        go_ret
        exact ⟨by rw [Hr.out]; rfl, hb0⟩
    · have Hr := Lib.hid (hr.trans (decide_eq_false (fun h => a1 (hz.2 h.1).1)))
      have e1 := beq_no a1
      clear hr hz
      unfold redV
      go_enter Try.func25, Try.ntmps25
      go_wp2
      go_ret
      exact ⟨by rw [Hr.out]; rfl, hb0⟩
  · subst h
    have hd : decide (c < 1) = false := decide_eq_false (by omega)
    by_cases a1 : le = mo
    · subst a1
      by_cases a2 : v = le
      · subst a2
        have Hr := Lib.hid (hr.trans (decide_eq_true ⟨rfl, rfl⟩))
        clear hr
        unfold redV
        obtain ⟨W1, hW1⟩ : ∃ W1, w.alloc (.cells #[.int .i64 c, .int .i64 1, .int .i64 (hiI v), .int .u64 (loI v), .int .i64 v, .int .i64 v] 24) = W1 := ⟨_, rfl⟩
        have c0 : ∀ W, Below W1.heap.size W1 W → W.cell? ⟨w.heap.size, 0, none⟩ = some (.int .i64 c) := fun W h => new_later (by rw [hW1]; exact h) 0 rfl
        have c1 : ∀ W, Below W1.heap.size W1 W → W.cell? ⟨w.heap.size, 1, none⟩ = some (.int .i64 1) := fun W h => new_later (by rw [hW1]; exact h) 1 rfl
        have c2 : ∀ W, Below W1.heap.size W1 W → W.cell? ⟨w.heap.size, 2, none⟩ = some (.int .i64 (hiI v)) := fun W h => new_later (by rw [hW1]; exact h) 2 rfl
        have c3 : ∀ W, Below W1.heap.size W1 W → W.cell? ⟨w.heap.size, 3, none⟩ = some (.int .u64 (loI v)) := fun W h => new_later (by rw [hW1]; exact h) 3 rfl
        have c4 : ∀ W, Below W1.heap.size W1 W → W.cell? ⟨w.heap.size, 4, none⟩ = some (.int .i64 v) := fun W h => new_later (by rw [hW1]; exact h) 4 rfl
        have c5 : ∀ W, Below W1.heap.size W1 W → W.cell? ⟨w.heap.size, 5, none⟩ = some (.int .i64 v) := fun W h => new_later (by rw [hW1]; exact h) 5 rfl
        have hb1 : Below w.heap.size w W1 := by rw [← hW1]; exact hb0
        have d0 := c0 W1 (Below.refl _ _)
        have d1 := c1 W1 (Below.refl _ _)
        have d4 := c4 W1 (Below.refl _ _)
        have d5 := c5 W1 (Below.refl _ _)
        clear hb0
        go_enter Try.func25, Try.ntmps25
        go_wp2
        go_region_held3 (fun w' => Below W1.heap.size W1 w') (first | assumption | exact (Below.refl _ _).drew | (refine S_call ?_ ?_ ?_; assumption; assumption; rfl)) (first
          | (go_at_call 35; with_reducible refine (total_agg c 1 v v v _).mono ?_; rintro e wA ⟨rfl, hbA⟩; have hSA := S_call hbA (by assumption) rfl)
          | (go_at_call 31; with_reducible refine (sumOf_agg v _ hle).mono ?_; rintro e wB ⟨rfl, hbB⟩; have hSB := S_call hbB (by assumption) rfl))
        all_goals
          go_wp2
          go_ret
          exact ⟨by rw [Hr.out]; rfl, hb1.trans (Below.mono (B := W1.heap.size) (by assumption) hb1.size)⟩
      · have Hr := Lib.hid (hr.trans (decide_eq_false (fun h => a2 h.2)))
        have hne : ¬ (hiI v = hiI le ∧ loI v = loI le) := fun h => a2 ((hl_inj v le hv (by unfold R64 at hle; unfold R128; omega)).1 h)
        by_cases a3 : hiI v = hiI le
        · have e2 := beq_no (fun h => hne ⟨a3, h⟩)
          have e3 : (hiI v == hiI le) = true := beq_iff_eq.2 a3
          clear hr a3 hne
          unfold redV
          obtain ⟨W1, hW1⟩ : ∃ W1, w.alloc (.cells #[.int .i64 c, .int .i64 1, .int .i64 (hiI v), .int .u64 (loI v), .int .i64 le, .int .i64 le] 24) = W1 := ⟨_, rfl⟩
          have c0 : ∀ W, Below W1.heap.size W1 W → W.cell? ⟨w.heap.size, 0, none⟩ = some (.int .i64 c) := fun W h => new_later (by rw [hW1]; exact h) 0 rfl
          have c1 : ∀ W, Below W1.heap.size W1 W → W.cell? ⟨w.heap.size, 1, none⟩ = some (.int .i64 1) := fun W h => new_later (by rw [hW1]; exact h) 1 rfl
          have c2 : ∀ W, Below W1.heap.size W1 W → W.cell? ⟨w.heap.size, 2, none⟩ = some (.int .i64 (hiI v)) := fun W h => new_later (by rw [hW1]; exact h) 2 rfl
          have c3 : ∀ W, Below W1.heap.size W1 W → W.cell? ⟨w.heap.size, 3, none⟩ = some (.int .u64 (loI v)) := fun W h => new_later (by rw [hW1]; exact h) 3 rfl
          have c4 : ∀ W, Below W1.heap.size W1 W → W.cell? ⟨w.heap.size, 4, none⟩ = some (.int .i64 le) := fun W h => new_later (by rw [hW1]; exact h) 4 rfl
          have c5 : ∀ W, Below W1.heap.size W1 W → W.cell? ⟨w.heap.size, 5, none⟩ = some (.int .i64 le) := fun W h => new_later (by rw [hW1]; exact h) 5 rfl
          have hb1 : Below w.heap.size w W1 := by rw [← hW1]; exact hb0
          have d0 := c0 W1 (Below.refl _ _)
          have d1 := c1 W1 (Below.refl _ _)
          have d4 := c4 W1 (Below.refl _ _)
          have d5 := c5 W1 (Below.refl _ _)
          clear hb0
          go_enter Try.func25, Try.ntmps25
          go_wp2
          go_region_held3 (fun w' => Below W1.heap.size W1 w') (first | assumption | exact (Below.refl _ _).drew | (refine S_call ?_ ?_ ?_; assumption; assumption; rfl)) (first
            | (go_at_call 35; with_reducible refine (total_agg c 1 v le le _).mono ?_; rintro e wA ⟨rfl, hbA⟩; have hSA := S_call hbA (by assumption) rfl)
            | (go_at_call 31; with_reducible refine (sumOf_agg le _ hle).mono ?_; rintro e wB ⟨rfl, hbB⟩; have hSB := S_call hbB (by assumption) rfl))
          all_goals
            go_wp2
            go_ret
            exact ⟨by rw [Hr.out]; rfl, hb1.trans (Below.mono (B := W1.heap.size) (by assumption) hb1.size)⟩
        · have e2 := beq_no a3
          clear hr hne
          unfold redV
          obtain ⟨W1, hW1⟩ : ∃ W1, w.alloc (.cells #[.int .i64 c, .int .i64 1, .int .i64 (hiI v), .int .u64 (loI v), .int .i64 le, .int .i64 le] 24) = W1 := ⟨_, rfl⟩
          have c0 : ∀ W, Below W1.heap.size W1 W → W.cell? ⟨w.heap.size, 0, none⟩ = some (.int .i64 c) := fun W h => new_later (by rw [hW1]; exact h) 0 rfl
          have c1 : ∀ W, Below W1.heap.size W1 W → W.cell? ⟨w.heap.size, 1, none⟩ = some (.int .i64 1) := fun W h => new_later (by rw [hW1]; exact h) 1 rfl
          have c2 : ∀ W, Below W1.heap.size W1 W → W.cell? ⟨w.heap.size, 2, none⟩ = some (.int .i64 (hiI v)) := fun W h => new_later (by rw [hW1]; exact h) 2 rfl
          have c3 : ∀ W, Below W1.heap.size W1 W → W.cell? ⟨w.heap.size, 3, none⟩ = some (.int .u64 (loI v)) := fun W h => new_later (by rw [hW1]; exact h) 3 rfl
          have c4 : ∀ W, Below W1.heap.size W1 W → W.cell? ⟨w.heap.size, 4, none⟩ = some (.int .i64 le) := fun W h => new_later (by rw [hW1]; exact h) 4 rfl
          have c5 : ∀ W, Below W1.heap.size W1 W → W.cell? ⟨w.heap.size, 5, none⟩ = some (.int .i64 le) := fun W h => new_later (by rw [hW1]; exact h) 5 rfl
          have hb1 : Below w.heap.size w W1 := by rw [← hW1]; exact hb0
          have d0 := c0 W1 (Below.refl _ _)
          have d1 := c1 W1 (Below.refl _ _)
          have d4 := c4 W1 (Below.refl _ _)
          have d5 := c5 W1 (Below.refl _ _)
          clear hb0
          go_enter Try.func25, Try.ntmps25
          go_wp2
          go_region_held3 (fun w' => Below W1.heap.size W1 w') (first | assumption | exact (Below.refl _ _).drew | (refine S_call ?_ ?_ ?_; assumption; assumption; rfl)) (first
            | (go_at_call 35; with_reducible refine (total_agg c 1 v le le _).mono ?_; rintro e wA ⟨rfl, hbA⟩; have hSA := S_call hbA (by assumption) rfl)
            | (go_at_call 31; with_reducible refine (sumOf_agg le _ hle).mono ?_; rintro e wB ⟨rfl, hbB⟩; have hSB := S_call hbB (by assumption) rfl))
          all_goals
            go_wp2
            go_ret
            exact ⟨by rw [Hr.out]; rfl, hb1.trans (Below.mono (B := W1.heap.size) (by assumption) hb1.size)⟩
    · have Hr := Lib.hid (hr.trans (decide_eq_false (fun h => a1 h.1)))
      have e1 := beq_no a1
      clear hr
      unfold redV
      go_enter Try.func25, Try.ntmps25
      go_wp2
      go_quiet (fail)
      go_wp2
      go_ret
      exact ⟨by rw [Hr.out]; rfl, below_drewN hb0 _⟩
  · have hd : decide (c < i) = false := decide_eq_false (by omega)
    have e0 : (i == 0) = false := beq_no (by omega)
    have e1 : (i == 1) = false := beq_no (by omega)
    by_cases a1 : le ≤ mo
    · have Hr := Lib.hid (hr.trans (by rw [decide_eq_true a1, Bool.true_and]))
      have dl : decide (le ≤ mo) = true := decide_eq_true a1
      clear hr
      unfold redV
      go_enter Try.func25, Try.ntmps25
      go_wp2_with fail
      refine (between_any c i v le mo _ hv hle hmo h2 (by omega)).mono ?_
      rintro e w1 ⟨rfl, hb1⟩
      generalize (decide (le + mo + le * (i - 2) ≤ v) && decide (v ≤ le + mo + mo * (i - 2))) = z at *
      go_wp2
      go_ret
      exact ⟨by rw [Hr.out]; rfl, hb0.trans (hb1.mono hb0.size)⟩
    · have Hr := Lib.hid (hr.trans (by rw [decide_eq_false a1, Bool.false_and]))
      have dl : decide (le ≤ mo) = false := decide_eq_false a1
      clear hr
      unfold redV
      go_enter Try.func25, Try.ntmps25
      go_wp2
      go_ret
      exact ⟨by rw [Hr.out]; rfl, hb0⟩

/-- What Check answers. -/
def redE (c i v le mo : Int) : Int := if validB c i v le mo = true then 0 else 230
set_option maxHeartbeats 1000000 in
theorem check_any (c i v le mo : Int) (w : World) (hv : R128 v) (hle : R64 le) (hmo : R64 mo) :
    Calls Try.prog 9 #[redV c i v le mo] w fun e w' => e = .returned (.int .i64 (redE c i v le mo)) ∧ Below w.heap.size w w' := by
  have hb0 := (Below.refl w.heap.size w).alloc (Nat.le_refl _) (.cells #[.int .i64 c, .int .i64 i, .int .i64 (hiI v), .int .u64 (loI v), .int .i64 le, .int .i64 mo] 24)
  have hv' : redV c i v le mo = .agg #[.int .i64 c, .int .i64 i, .int .i64 (hiI v), .int .u64 (loI v), .int .i64 le, .int .i64 mo] := rfl
  have hc := fun W => valid_any c i v le mo W hv hle hmo
  rw [hv'] at hc ⊢
  clear hv'
  by_cases h : validB c i v le mo = true
  · have Hr := Lib.hid (show redE c i v le mo = 0 by unfold redE; rw [if_pos h])
    rw [h] at hc
    clear h
    go_enter Try.func9, Try.ntmps9
    go_wp2_with fail
    refine (hc _).mono ?_
    rintro e w1 ⟨rfl, hb1⟩
    go_wp2
    go_ret
    exact ⟨by rw [Hr.out]; rfl, hb0.trans (hb1.mono hb0.size)⟩
  · have Hr := Lib.hid (show redE c i v le mo = 230 by unfold redE; rw [if_neg h])
    have h2 : validB c i v le mo = false := by simpa using h
    rw [h2] at hc
    clear h h2
    go_enter Try.func9, Try.ntmps9
    go_wp2_with fail
    refine (hc _).mono ?_
    rintro e w1 ⟨rfl, hb1⟩
    go_wp2
    go_ret
    exact ⟨by rw [Hr.out]; rfl, hb0.trans (hb1.mono hb0.size)⟩
end Go.Proofs.Ytinaecmpigenoaa
