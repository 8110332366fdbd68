/-
  Layer 13: the reference's Right, whole.
-/
import Derived.Test.YtinaecmpigenoaaMonQ
namespace Go.Proofs.Ytinaecmpigenoaa
open Go.RowKit
attribute [local go_sem ↓] Go.wp_at_zero Go.wp_at_succ

set_option maxRecDepth 20000 in
set_option maxHeartbeats 2000000 in
theorem right_bad (c i v le mo : Int) (w : World) (h : i < 0 ∨ (0 ≤ i ∧ c < i) ∨ (0 ≤ i ∧ i ≤ c ∧ 1073741824 < c)) :
    Calls Try.prog 10 #[.agg #[.int .i64 c, .int .i64 i, .int .i64 (hiI v), .int .u64 (loI v), .int .i64 le, .int .i64 mo]] w fun e w' => e = .returned (.bool false) ∧ Below w.heap.size w w' := by
  have hb0 := (Below.refl w.heap.size w).alloc (Nat.le_refl _) (.cells #[.int .i64 c, .int .i64 i, .int .i64 (hiI v), .int .u64 (loI v), .int .i64 le, .int .i64 mo] 24)
  rcases h with h | ⟨h1, h2⟩ | ⟨h1, h2, h3⟩
  · go_enter Try.func10, Try.ntmps10
    go_wp2
    go_ret
    exact ⟨rfl, hb0⟩
  · have hd : decide (c < i) = true := decide_eq_true h2
    go_enter Try.func10, Try.ntmps10
    go_wp2
    go_ret
    exact ⟨rfl, hb0⟩
  · have hd : decide (c < i) = false := decide_eq_false (by omega)
    go_enter Try.func10, Try.ntmps10
    go_wp2
    go_ret
    exact ⟨rfl, hb0⟩

set_option maxRecDepth 20000 in
set_option maxHeartbeats 2000000 in
theorem right_zero (c v le mo : Int) (w : World) (hv : R128 v) (h0 : 0 ≤ c) (h1 : c ≤ 1073741824) (hr : validB c 0 v le mo = decide (v = 0 ∧ le = 0 ∧ mo = 0)) :
    Calls Try.prog 10 #[.agg #[.int .i64 c, .int .i64 0, .int .i64 (hiI v), .int .u64 (loI v), .int .i64 le, .int .i64 mo]] w fun e w' => e = .returned (.bool (validB c 0 v le mo)) ∧ Below w.heap.size w w' := by
  have hb0 := (Below.refl w.heap.size w).alloc (Nat.le_refl _) (.cells #[.int .i64 c, .int .i64 0, .int .i64 (hiI v), .int .u64 (loI v), .int .i64 le, .int .i64 mo] 24)
  have hlo := lo_bound v
  have hd : decide (c < 0) = false := decide_eq_false (by omega)
  have hz : (hiI v = 0 ∧ loI v = 0) ↔ v = 0 := by
    have := hl_inj v 0 hv (by unfold R128; omega)
    rw [hl_zero.1, hl_zero.2] at this
    exact this
  by_cases a1 : hiI v = 0
  · by_cases a2 : loI v = 0
    · have hv0 := hz.1 ⟨a1, a2⟩
      by_cases a3 : le = 0
      · by_cases a4 : mo = 0
        · have Hr := Lib.hid (hr.trans (decide_eq_true ⟨hv0, a3, a4⟩))
          clear hr hz hv0
          rw [a1, a2, a3, a4]
          rw [a1, a2, a3, a4] at hb0
          rw [a3, a4] at Hr
          clear a1 a2 a3 a4
          go_enter Try.func10, Try.ntmps10
          go_wp2
          go_ret
          exact ⟨by rw [Hr.out]; rfl, hb0⟩
        · have Hr := Lib.hid (hr.trans (decide_eq_false (fun h => a4 h.2.2)))
          have e4 := beq_no a4
          clear hr hz hv0
          rw [a1, a2, a3]
          rw [a1, a2, a3] at hb0
          rw [a3] at Hr
          clear a1 a2 a3
          go_enter Try.func10, Try.ntmps10
          go_wp2
          go_ret
          exact ⟨by rw [Hr.out]; rfl, hb0⟩
      · have Hr := Lib.hid (hr.trans (decide_eq_false (fun h => a3 h.2.1)))
        have e3 := beq_no a3
        clear hr hz hv0
        rw [a1, a2]
        rw [a1, a2] at hb0
        clear a1 a2
        go_enter Try.func10, Try.ntmps10
        go_wp2
        go_ret
        exact ⟨by rw [Hr.out]; rfl, hb0⟩
    · have Hr := Lib.hid (hr.trans (decide_eq_false (fun h => a2 (hz.2 h.1).2)))
      have e2 := beq_no a2
      clear hr hz
      rw [a1]
      rw [a1] at hb0
      clear a1
      go_enter Try.func10, Try.ntmps10
      go_wp2
      go_ret
      exact ⟨by rw [Hr.out]; rfl, hb0⟩
  · have Hr := Lib.hid (hr.trans (decide_eq_false (fun h => a1 (hz.2 h.1).1)))
    have e1 := beq_no a1
    clear hr hz
    go_enter Try.func10, Try.ntmps10
    go_wp2
    go_ret
    exact ⟨by rw [Hr.out]; rfl, hb0⟩

set_option maxRecDepth 20000 in
set_option maxHeartbeats 2000000 in
theorem right_one (c v le mo : Int) (w : World) (hv : R128 v) (hle : R64 le) (h0 : 1 ≤ c) (h1 : c ≤ 1073741824) (hr : validB c 1 v le mo = decide (le = mo ∧ v = le)) :
    Calls Try.prog 10 #[.agg #[.int .i64 c, .int .i64 1, .int .i64 (hiI v), .int .u64 (loI v), .int .i64 le, .int .i64 mo]] w fun e w' => e = .returned (.bool (validB c 1 v le mo)) ∧ Below w.heap.size w w' := by
  have hb0 := (Below.refl w.heap.size w).alloc (Nat.le_refl _) (.cells #[.int .i64 c, .int .i64 1, .int .i64 (hiI v), .int .u64 (loI v), .int .i64 le, .int .i64 mo] 24)
  have hlo := lo_bound v
  have hd : decide (c < 1) = false := decide_eq_false (by omega)
  by_cases a1 : le = mo
  · subst a1
    by_cases a2 : v = le
    · subst a2
      have Hr := Lib.hid (hr.trans (decide_eq_true ⟨rfl, rfl⟩))
      clear hr
      obtain ⟨W1, hW1⟩ : ∃ W1, w.alloc (.cells #[.int .i64 c, .int .i64 1, .int .i64 (hiI v), .int .u64 (loI v), .int .i64 v, .int .i64 v] 24) = W1 := ⟨_, rfl⟩
      have c0 : ∀ W, Below W1.heap.size W1 W → W.cell? ⟨w.heap.size, 0, none⟩ = some (.int .i64 c) := fun W h => new_later (by rw [hW1]; exact h) 0 rfl
      have c1 : ∀ W, Below W1.heap.size W1 W → W.cell? ⟨w.heap.size, 1, none⟩ = some (.int .i64 1) := fun W h => new_later (by rw [hW1]; exact h) 1 rfl
      have c2 : ∀ W, Below W1.heap.size W1 W → W.cell? ⟨w.heap.size, 2, none⟩ = some (.int .i64 (hiI v)) := fun W h => new_later (by rw [hW1]; exact h) 2 rfl
      have c3 : ∀ W, Below W1.heap.size W1 W → W.cell? ⟨w.heap.size, 3, none⟩ = some (.int .u64 (loI v)) := fun W h => new_later (by rw [hW1]; exact h) 3 rfl
      have c4 : ∀ W, Below W1.heap.size W1 W → W.cell? ⟨w.heap.size, 4, none⟩ = some (.int .i64 v) := fun W h => new_later (by rw [hW1]; exact h) 4 rfl
      have c5 : ∀ W, Below W1.heap.size W1 W → W.cell? ⟨w.heap.size, 5, none⟩ = some (.int .i64 v) := fun W h => new_later (by rw [hW1]; exact h) 5 rfl
      have hb1 : Below w.heap.size w W1 := by rw [← hW1]; exact hb0
      have d0 := c0 W1 (Below.refl _ _)
      have d1 := c1 W1 (Below.refl _ _)
      have d4 := c4 W1 (Below.refl _ _)
      have d5 := c5 W1 (Below.refl _ _)
      clear hb0
      go_enter Try.func10, Try.ntmps10
      go_wp2
      go_region_held3 (fun w' => Below W1.heap.size W1 w') (first | assumption | exact (Below.refl _ _).drew | (refine S_call ?_ ?_ ?_; assumption; assumption; rfl)) (first
        | (go_at_call 26; with_reducible refine (whole_any c 1 v v v _).mono ?_; rintro e wA ⟨rfl, hbA⟩; have hSA := S_call hbA (by assumption) rfl)
        | (go_at_call 27; with_reducible refine (refOf_any v _ hle).mono ?_; rintro e wB ⟨rfl, hbB⟩; have hSB := S_call hbB (by assumption) rfl))
      all_goals
        go_wp2
        go_ret
        exact ⟨by rw [Hr.out]; rfl, hb1.trans (Below.mono (B := W1.heap.size) (by assumption) hb1.size)⟩
    · have Hr := Lib.hid (hr.trans (decide_eq_false (fun h => a2 h.2)))
      have hne : ¬ (hiI v = hiI le ∧ loI v = loI le) := fun h => a2 ((hl_inj v le hv (by unfold R64 at hle; unfold R128; omega)).1 h)
      by_cases a3 : hiI v = hiI le
      · have e2 := beq_no (fun h => hne ⟨a3, h⟩)
        have e3 : (hiI v == hiI le) = true := beq_iff_eq.2 a3
        clear hr a3 hne
        obtain ⟨W1, hW1⟩ : ∃ W1, w.alloc (.cells #[.int .i64 c, .int .i64 1, .int .i64 (hiI v), .int .u64 (loI v), .int .i64 le, .int .i64 le] 24) = W1 := ⟨_, rfl⟩
        have c0 : ∀ W, Below W1.heap.size W1 W → W.cell? ⟨w.heap.size, 0, none⟩ = some (.int .i64 c) := fun W h => new_later (by rw [hW1]; exact h) 0 rfl
        have c1 : ∀ W, Below W1.heap.size W1 W → W.cell? ⟨w.heap.size, 1, none⟩ = some (.int .i64 1) := fun W h => new_later (by rw [hW1]; exact h) 1 rfl
        have c2 : ∀ W, Below W1.heap.size W1 W → W.cell? ⟨w.heap.size, 2, none⟩ = some (.int .i64 (hiI v)) := fun W h => new_later (by rw [hW1]; exact h) 2 rfl
        have c3 : ∀ W, Below W1.heap.size W1 W → W.cell? ⟨w.heap.size, 3, none⟩ = some (.int .u64 (loI v)) := fun W h => new_later (by rw [hW1]; exact h) 3 rfl
        have c4 : ∀ W, Below W1.heap.size W1 W → W.cell? ⟨w.heap.size, 4, none⟩ = some (.int .i64 le) := fun W h => new_later (by rw [hW1]; exact h) 4 rfl
        have c5 : ∀ W, Below W1.heap.size W1 W → W.cell? ⟨w.heap.size, 5, none⟩ = some (.int .i64 le) := fun W h => new_later (by rw [hW1]; exact h) 5 rfl
        have hb1 : Below w.heap.size w W1 := by rw [← hW1]; exact hb0
        have d0 := c0 W1 (Below.refl _ _)
        have d1 := c1 W1 (Below.refl _ _)
        have d4 := c4 W1 (Below.refl _ _)
        have d5 := c5 W1 (Below.refl _ _)
        clear hb0
        go_enter Try.func10, Try.ntmps10
        go_wp2
        go_region_held3 (fun w' => Below W1.heap.size W1 w') (first | assumption | exact (Below.refl _ _).drew | (refine S_call ?_ ?_ ?_; assumption; assumption; rfl)) (first
          | (go_at_call 26; with_reducible refine (whole_any c 1 v le le _).mono ?_; rintro e wA ⟨rfl, hbA⟩; have hSA := S_call hbA (by assumption) rfl)
          | (go_at_call 27; with_reducible refine (refOf_any le _ hle).mono ?_; rintro e wB ⟨rfl, hbB⟩; have hSB := S_call hbB (by assumption) rfl))
        all_goals
          go_wp2
          go_ret
          exact ⟨by rw [Hr.out]; rfl, hb1.trans (Below.mono (B := W1.heap.size) (by assumption) hb1.size)⟩
      · have e2 := beq_no a3
        clear hr hne
        obtain ⟨W1, hW1⟩ : ∃ W1, w.alloc (.cells #[.int .i64 c, .int .i64 1, .int .i64 (hiI v), .int .u64 (loI v), .int .i64 le, .int .i64 le] 24) = W1 := ⟨_, rfl⟩
        have c0 : ∀ W, Below W1.heap.size W1 W → W.cell? ⟨w.heap.size, 0, none⟩ = some (.int .i64 c) := fun W h => new_later (by rw [hW1]; exact h) 0 rfl
        have c1 : ∀ W, Below W1.heap.size W1 W → W.cell? ⟨w.heap.size, 1, none⟩ = some (.int .i64 1) := fun W h => new_later (by rw [hW1]; exact h) 1 rfl
        have c2 : ∀ W, Below W1.heap.size W1 W → W.cell? ⟨w.heap.size, 2, none⟩ = some (.int .i64 (hiI v)) := fun W h => new_later (by rw [hW1]; exact h) 2 rfl
        have c3 : ∀ W, Below W1.heap.size W1 W → W.cell? ⟨w.heap.size, 3, none⟩ = some (.int .u64 (loI v)) := fun W h => new_later (by rw [hW1]; exact h) 3 rfl
        have c4 : ∀ W, Below W1.heap.size W1 W → W.cell? ⟨w.heap.size, 4, none⟩ = some (.int .i64 le) := fun W h => new_later (by rw [hW1]; exact h) 4 rfl
        have c5 : ∀ W, Below W1.heap.size W1 W → W.cell? ⟨w.heap.size, 5, none⟩ = some (.int .i64 le) := fun W h => new_later (by rw [hW1]; exact h) 5 rfl
        have hb1 : Below w.heap.size w W1 := by rw [← hW1]; exact hb0
        have d0 := c0 W1 (Below.refl _ _)
        have d1 := c1 W1 (Below.refl _ _)
        have d4 := c4 W1 (Below.refl _ _)
        have d5 := c5 W1 (Below.refl _ _)
        clear hb0
        go_enter Try.func10, Try.ntmps10
        go_wp2
        go_region_held3 (fun w' => Below W1.heap.size W1 w') (first | assumption | exact (Below.refl _ _).drew | (refine S_call ?_ ?_ ?_; assumption; assumption; rfl)) (first
          | (go_at_call 26; with_reducible refine (whole_any c 1 v le le _).mono ?_; rintro e wA ⟨rfl, hbA⟩; have hSA := S_call hbA (by assumption) rfl)
          | (go_at_call 27; with_reducible refine (refOf_any le _ hle).mono ?_; rintro e wB ⟨rfl, hbB⟩; have hSB := S_call hbB (by assumption) rfl))
        all_goals
          go_wp2
          go_ret
          exact ⟨by rw [Hr.out]; rfl, hb1.trans (Below.mono (B := W1.heap.size) (by assumption) hb1.size)⟩
  · have Hr := Lib.hid (hr.trans (decide_eq_false (fun h => a1 h.1)))
    have e1 := beq_no a1
    clear hr
    go_enter Try.func10, Try.ntmps10
    go_wp2
    go_quiet (fail)
    go_wp2
    go_ret
    exact ⟨by rw [Hr.out]; rfl, below_drewN hb0 _⟩

theorem right_any (c i v le mo : Int) (w : World) (hv : R128 v) (hle : R64 le) (hmo : R64 mo) :
    Calls Try.prog 10 #[.agg #[.int .i64 c, .int .i64 i, .int .i64 (hiI v), .int .u64 (loI v), .int .i64 le, .int .i64 mo]] w fun e w' => e = .returned (.bool (validB c i v le mo)) ∧ Below w.heap.size w w' := by
  rcases valid_cases c i v le mo with ⟨h, hr⟩ | ⟨⟨h0, h⟩, hr⟩ | ⟨⟨⟨h0, h1⟩, h⟩, hr⟩ | ⟨⟨⟨h0, h1⟩, h2, h⟩, hr⟩ | ⟨⟨⟨h0, h1⟩, h⟩, hr⟩ | ⟨⟨⟨h0, h1⟩, h2, h⟩, hr⟩ | ⟨⟨⟨h0, h1⟩, h2, h3⟩, hr⟩
  · rw [hr]; exact right_bad c i v le mo w (by omega)
  · rw [hr]; exact right_bad c i v le mo w (by omega)
  · rw [hr]; exact right_bad c i v le mo w (by omega)
  · rw [hr]; exact right_bad c i v le mo w (by omega)
  · subst h; exact right_zero c v le mo w hv h0 h1 hr
  · subst h; exact right_one c v le mo w hv hle h2 h1 hr
  · rw [hr]; exact right_big c i v le mo w hv hle hmo h2 h3 h1
end Go.Proofs.Ytinaecmpigenoaa
