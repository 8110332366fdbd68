import Derived.Test.YtnfohlabmidliaaGaa
import Derived.RegionTactic
import Derived.Deep.RegionWith
/-
  Layer 13: the reference's sums.
-/
namespace Go.Proofs.Ytnfohlabmidliaa
open Go.RowKit
attribute [local go_sem ↓] Go.wp_at_zero Go.wp_at_succ

set_option maxHeartbeats 1000000 in
theorem refOf_any (n : Int) (w : World) (h : R64 n) :
    Calls Try.prog 70 #[.int .i64 n] w fun e w' => e = .returned (.agg #[.int .i64 (hiI n), .int .u64 (loI n)]) ∧ Below w.heap.size w w' := by
  have hl := hl_of n h
  have hw : IntKind.u64.wrap n = n % 18446744073709551616 := IntKind.wrap_u64 n
  unfold R64 at h
  obtain ⟨h0, h1⟩ := h
  by_cases hn : n < 0
  · have hh : hiI n = -1 := by omega
    have Hr := Lib.hid (show (Value.agg #[.int .i64 (hiI n), .int .u64 (loI n)]) = .agg #[.int .i64 (-1), .int .u64 (n % 18446744073709551616)] by rw [hh, hl.2])
    clear hh hl
    go_enter Try.func70, Try.ntmps70
    go_wp2
    exact bodyPost_ret (v := .agg #[.int .i64 (-1), .int .u64 (n % 18446744073709551616)]) (by simp [results, Try.results70, go_sem]) rfl ⟨by rw [Hr.out], (Below.refl _ _).alloc (Nat.le_refl _) _⟩
  · have hh : hiI n = 0 := by omega
    have Hr := Lib.hid (show (Value.agg #[.int .i64 (hiI n), .int .u64 (loI n)]) = .agg #[.int .i64 0, .int .u64 n] by rw [hh, hl.2, Int.emod_eq_of_lt (by omega) (by omega)])
    clear hh hl hw
    go_enter Try.func70, Try.ntmps70
    go_wp2
    exact bodyPost_ret (v := .agg #[.int .i64 0, .int .u64 n]) (by simp [results, Try.results70, go_sem]) rfl ⟨by rw [Hr.out], (Below.refl _ _).alloc (Nat.le_refl _) _⟩

set_option maxHeartbeats 1000000 in
theorem whole_any (c i v le mo : Int) (w : World) :
    Calls Try.prog 57 #[.agg #[.int .i64 c, .int .i64 i, .int .i64 (hiI v), .int .u64 (loI v), .int .i64 le, .int .i64 mo]] w fun e w' => e = .returned (.agg #[.int .i64 (hiI v), .int .u64 (loI v)]) ∧ Below w.heap.size w w' := by
  go_enter Try.func57, Try.ntmps57
  go_wp2
  exact bodyPost_ret (v := .agg #[.int .i64 (hiI v), .int .u64 (loI v)]) (by simp [results, Try.results57, go_sem]) rfl ⟨rfl, ((Below.refl _ _).alloc (Nat.le_refl _) _).alloc (by simp) _⟩

set_option maxHeartbeats 1000000 in
theorem refAdd_any (a b : Int) (w : World) :
    Calls Try.prog 56 #[.agg #[.int .i64 (hiI a), .int .u64 (loI a)], .agg #[.int .i64 (hiI b), .int .u64 (loI b)]] w fun e w' => e = .returned (.agg #[.int .i64 (hiI (a + b)), .int .u64 (loI (a + b))]) ∧ Below w.heap.size w w' := by
  have hl := lo_add a b
  have hh := hi_add a b
  have hc := carry_ask a b
  rw [hc] at hh
  rw [← IntKind.wrap_u64] at hl
  obtain ⟨la0, la1⟩ := lo_bound a
  obtain ⟨lb0, lb1⟩ := lo_bound b
  obtain ⟨ha0, ha1⟩ := hi_bound a
  obtain ⟨hb0, hb1⟩ := hi_bound b
  have Hl := Lib.hid hl
  clear hc hl
  generalize hiI a = x1 at *
  generalize hiI b = x2 at *
  generalize loI a = y1 at *
  generalize loI b = y2 at *
  by_cases hq : 18446744073709551615 - y1 < y2
  · rw [if_pos hq] at hh
    have Hh := Lib.hid hh
    clear hh
    go_enter Try.func56, Try.ntmps56
    go_wp2
    refine bodyPost_ret (v := .agg #[.int .i64 (hiI (a + b)), .int .u64 (loI (a + b))]) ?_ rfl ⟨rfl, (((Below.refl _ _).alloc (Nat.le_refl _) _).alloc (by simp) _).alloc (by simp; omega) _⟩
    rw [← Hh.out, ← Hl.out]
    simp [results, Try.results56, go_sem]
  · rw [if_neg hq, Int.add_zero] at hh
    have hf : wrap64 (wrap64 (x1 + x2)) = wrap64 (x1 + x2) := by unfold wrap64; omega
    rw [hf] at hh
    have Hh := Lib.hid hh
    have Hf := Lib.hid hf
    clear hh hf
    go_enter Try.func56, Try.ntmps56
    go_wp2
    refine bodyPost_ret (v := .agg #[.int .i64 (hiI (a + b)), .int .u64 (loI (a + b))]) ?_ rfl ⟨rfl, (((Below.refl _ _).alloc (Nat.le_refl _) _).alloc (by simp) _).alloc (by simp; omega) _⟩
    rw [← Hh.out, ← Hl.out]
    simp [results, Try.results56, go_sem]
    exact ⟨Hf.out, by rw [IntKind.wrap_u64]; omega⟩

set_option maxHeartbeats 1000000 in
theorem refLess_any (a b : Int) (w : World) (ha : R128 a) (hb : R128 b) :
    Calls Try.prog 72 #[.agg #[.int .i64 (hiI a), .int .u64 (loI a)], .agg #[.int .i64 (hiI b), .int .u64 (loI b)]] w fun e w' => e = .returned (.bool (decide (a < b))) ∧ Below w.heap.size w w' := by
  have hl := hl_less a b ha hb
  have hbl := ((Below.refl w.heap.size w).alloc (Nat.le_refl _) (.cells #[.int .i64 (hiI a), .int .u64 (loI a)] 90)).alloc (by simp) (.cells #[.int .i64 (hiI b), .int .u64 (loI b)] 90)
  generalize hiI a = h1 at *
  generalize hiI b = h2 at *
  generalize loI a = l1 at *
  generalize loI b = l2 at *
  by_cases c2 : h1 = h2
  · subst c2
    by_cases c3 : l1 < l2
    · have Hr := Lib.hid (show decide (a < b) = true from decide_eq_true (hl.1 (.inr ⟨rfl, c3⟩)))
      have d3 : decide (l1 < l2) = true := decide_eq_true c3
      clear hl
      go_enter Try.func72, Try.ntmps72
      go_wp2
      go_ret
      exact ⟨by rw [Hr.out]; rfl, hbl⟩
    · have Hr := Lib.hid (show decide (a < b) = false from decide_eq_false (fun h => by rcases hl.2 h with h | ⟨_, h⟩ <;> omega))
      have d3 : decide (l1 < l2) = false := decide_eq_false c3
      clear hl
      go_enter Try.func72, Try.ntmps72
      go_wp2
      go_ret
      exact ⟨by rw [Hr.out]; rfl, hbl⟩
  · have d2 : (h1 != h2) = true := bne_iff_ne.2 c2
    have d2' : (h1 == h2) = false := beq_eq_false_iff_ne.2 c2
    by_cases c1 : h1 < h2
    · have Hr := Lib.hid (show decide (a < b) = true from decide_eq_true (hl.1 (.inl c1)))
      have d1 : decide (h1 < h2) = true := decide_eq_true c1
      clear hl c2
      go_enter Try.func72, Try.ntmps72
      go_wp2
      go_ret
      exact ⟨by rw [Hr.out]; rfl, hbl⟩
    · have Hr := Lib.hid (show decide (a < b) = false from decide_eq_false (fun h => by rcases hl.2 h with h | ⟨h, _⟩ <;> omega))
      have d1 : decide (h1 < h2) = false := decide_eq_false c1
      clear hl c2
      go_enter Try.func72, Try.ntmps72
      go_wp2
      go_ret
      exact ⟨by rw [Hr.out]; rfl, hbl⟩
end Go.Proofs.Ytnfohlabmidliaa
/-
  Layer 13: the reference's Times.
-/
namespace Go.Proofs.Ytnfohlabmidliaa
open Go.RowKit
attribute [local go_sem ↓] Go.wp_at_zero Go.wp_at_succ

theorem two_alloc {w : World} {p q : Addr} {a b : Value} (o : Obj) (h : w.cell? p = some a ∧ w.cell? q = some b ∧ w.frozen? p = false ∧ w.frozen? q = false) :
    (w.alloc o).cell? p = some a ∧ (w.alloc o).cell? q = some b ∧ (w.alloc o).frozen? p = false ∧ (w.alloc o).frozen? q = false :=
  ⟨cell_keep h.1 o, cell_keep h.2.1 o, (frozen_keep h.1 o).trans h.2.2.1, (frozen_keep h.2.1 o).trans h.2.2.2⟩
theorem two_here (w : World) (a b : Value) (t : TypeId) :
    (w.alloc (.cells #[a, b] t)).cell? ⟨w.heap.size, 0, none⟩ = some a ∧ (w.alloc (.cells #[a, b] t)).cell? ⟨w.heap.size, 1, none⟩ = some b ∧ (w.alloc (.cells #[a, b] t)).frozen? ⟨w.heap.size, 0, none⟩ = false ∧ (w.alloc (.cells #[a, b] t)).frozen? ⟨w.heap.size, 1, none⟩ = false := by
  refine ⟨World.cell?_alloc_new w _ _ 0, World.cell?_alloc_new w _ _ 1, ?_, ?_⟩ <;> go_simp
theorem times_even (x n : Int) (h : n % 2 = 0) : x * (n / 2) + x * (n / 2) = x * n := by
  rw [← Int.mul_add]
  congr 1
  omega
theorem times_odd (x n : Int) (h : n % 2 = 1) : x * (n / 2) + x * (n / 2) + x = x * n := by
  have e : x * (n / 2) + x * (n / 2) + x = x * (n / 2 + n / 2 + 1) := by rw [Int.mul_add, Int.mul_add, Int.mul_one]
  rw [e]
  congr 1
  omega

set_option maxHeartbeats 2000000 in
theorem times_any (k : Nat) : ∀ (x n : Int) (w : World), n ≤ k → R64 x → 0 ≤ n → n ≤ 1073741824 →
    Calls Try.prog 71 #[.int .i64 x, .int .i64 n] w fun e w' => e = .returned (.agg #[.int .i64 (hiI (x * n)), .int .u64 (loI (x * n))]) ∧ Below w.heap.size w w' := by
  induction k with
  | zero =>
    intro x n w hk _ h0 _
    obtain rfl : n = 0 := by omega
    have Hr := Lib.hid (show (Value.agg #[.int .i64 (hiI (x * 0)), .int .u64 (loI (x * 0))]) = .agg #[.int .i64 0, .int .u64 0] by rw [Int.mul_zero, hl_zero.1, hl_zero.2])
    clear hk h0
    go_enter Try.func71, Try.ntmps71
    go_wp2_with fail
    exact bodyPost_ret (v := .agg #[.int .i64 0, .int .u64 0]) (by simp [results, Try.results71, go_sem]) rfl ⟨by rw [Hr.out], (Below.refl _ _).alloc (Nat.le_refl _) _⟩
  | succ k ih =>
    intro x n w hk hx h0 h1
    by_cases hz : n = 0
    · subst hz
      have Hr := Lib.hid (show (Value.agg #[.int .i64 (hiI (x * 0)), .int .u64 (loI (x * 0))]) = .agg #[.int .i64 0, .int .u64 0] by rw [Int.mul_zero, hl_zero.1, hl_zero.2])
      clear hk h0 ih
      go_enter Try.func71, Try.ntmps71
      go_wp2_with fail
      exact bodyPost_ret (v := .agg #[.int .i64 0, .int .u64 0]) (by simp [results, Try.results71, go_sem]) rfl ⟨by rw [Hr.out], (Below.refl _ _).alloc (Nat.le_refl _) _⟩
    · have hpos : 0 < n := by omega
      have hih := Lib.hid (fun W => ih x (n / 2) W (by omega) hx (by omega) (by omega))
      have hb0 := (Below.refl w.heap.size w).alloc (Nat.le_refl _) (.cells #[.int .i64 0, .int .u64 0] 90)
      clear hz ih hk
      by_cases hr : n % 2 = 1
      · have Ho := Lib.hid (times_odd x n hr)
        go_enter Try.func71, Try.ntmps71
        go_wp2_with fail
        refine (hih.out _).mono ?_
        rintro e w1 ⟨rfl, hb1⟩
        have jj := new_two hb1 rfl
        have hb01 := hb0.trans (hb1.mono hb0.size)
        have s01 := hb01.size
        clear hb0 hb1
        go_wp2_with fail
        refine (refAdd_any (x * (n / 2)) (x * (n / 2)) _).mono ?_
        rintro e w2 ⟨rfl, hb2⟩
        have sg2 : w.heap.size < w2.heap.size := World.block_lt_of_cell? w2 _ (keep_two hb2 rfl (two_alloc (.cells #[.int .i64 (hiI (x * (n / 2))), .int .u64 (loI (x * (n / 2)))] 90) jj)).1
        have hne1 : ¬ w2.heap.size = w.heap.size := by omega
        have hne2 : ¬ w.heap.size = w2.heap.size := by omega
        have jj := two_alloc (.cells #[.int .i64 (hiI (x * (n / 2) + x * (n / 2))), .int .u64 (loI (x * (n / 2) + x * (n / 2)))] 90) (keep_two hb2 rfl (two_alloc (.cells #[.int .i64 (hiI (x * (n / 2))), .int .u64 (loI (x * (n / 2)))] 90) jj))
        have hb02 := (hb01.alloc s01 (.cells #[.int .i64 (hiI (x * (n / 2))), .int .u64 (loI (x * (n / 2)))] 90)).trans (hb2.mono (by simp; omega))
        have hb03 := hb02.alloc hb02.size (.cells #[.int .i64 (hiI (x * (n / 2) + x * (n / 2))), .int .u64 (loI (x * (n / 2) + x * (n / 2)))] 90)
        have s03 := hb03.size
        have sg : w.heap.size ≤ w2.heap.size := hb02.size
        have kk := two_here w2 (.int .i64 (hiI (x * (n / 2) + x * (n / 2)))) (.int .u64 (loI (x * (n / 2) + x * (n / 2)))) 90
        obtain ⟨k0, k1, k2, k3⟩ := id kk
        obtain ⟨i0, i1, i2, i3⟩ := id jj
        clear hb2 hb01 hb02
        go_wp2_with fail
        generalize hW : w2.alloc (.cells #[.int .i64 (hiI (x * (n / 2) + x * (n / 2))), .int .u64 (loI (x * (n / 2) + x * (n / 2)))] 90) = W3 at *
        clear hW
        generalize hg : w2.heap.size = g at *
        go_region_with (first
          | (go_at_call 70; with_reducible refine (refOf_any x _ hx).mono ?_; rintro e wA ⟨rfl, hbA⟩; (first | (have jj := keep_two (below_undrew hbA) rfl jj) | (have jj := keep_two hbA rfl jj)); (first | (have kk := keep_two (below_undrew hbA) rfl kk) | (have kk := keep_two hbA rfl kk)); obtain ⟨k0, k1, k2, k3⟩ := id kk; obtain ⟨i0, i1, i2, i3⟩ := id jj)
          | (go_at_call 56; with_reducible refine (refAdd_any (x * (n / 2) + x * (n / 2)) x _).mono ?_; rintro e wB ⟨rfl, hbB⟩; (first | (have jj := keep_two (below_undrew hbB) rfl jj) | (have jj := keep_two hbB rfl jj)); (first | (have kk := keep_two (below_undrew hbB) rfl kk) | (have kk := keep_two hbB rfl kk)); obtain ⟨k0, k1, k2, k3⟩ := id kk; obtain ⟨i0, i1, i2, i3⟩ := id jj))
        all_goals
          have e1 := hb03.trans (Below.mono (below_undrew hbA) s03)
          have e2 := e1.trans (hbB.mono e1.size)
          go_wp2_with fail
          refine bodyPost_ret (v := .agg #[.int .i64 (hiI (x * n)), .int .u64 (loI (x * n))]) ?_ rfl ⟨rfl, (((e2.setCell (p := ⟨g, 0, none⟩) sg _).setCell (p := ⟨g, 1, none⟩) sg _).setCell (p := ⟨w.heap.size, 0, none⟩) (Nat.le_refl _) _).setCell (p := ⟨w.heap.size, 1, none⟩) (Nat.le_refl _) _⟩
          rw [← Ho.out]
          simp [results, Try.results71, go_sem, *]
      · have hr0 : n % 2 = 0 := by omega
        have Ho := Lib.hid (times_even x n hr0)
        have hq : (n % 2 == 1) = false := beq_eq_false_iff_ne.2 hr
        clear hr
        go_enter Try.func71, Try.ntmps71
        go_wp2_with fail
        refine (hih.out _).mono ?_
        rintro e w1 ⟨rfl, hb1⟩
        have jj := new_two hb1 rfl
        have hb01 := hb0.trans (hb1.mono hb0.size)
        have s01 := hb01.size
        clear hb0 hb1
        go_wp2_with fail
        refine (refAdd_any (x * (n / 2)) (x * (n / 2)) _).mono ?_
        rintro e w2 ⟨rfl, hb2⟩
        rw [Ho.out]
        have jj := two_alloc (.cells #[.int .i64 (hiI (x * n)), .int .u64 (loI (x * n))] 90) (keep_two hb2 rfl (two_alloc (.cells #[.int .i64 (hiI (x * (n / 2))), .int .u64 (loI (x * (n / 2)))] 90) jj))
        have hb02 := (hb01.alloc s01 (.cells #[.int .i64 (hiI (x * (n / 2))), .int .u64 (loI (x * (n / 2)))] 90)).trans (hb2.mono (by simp; omega))
        have hb03 := hb02.alloc hb02.size (.cells #[.int .i64 (hiI (x * n)), .int .u64 (loI (x * n))] 90)
        have s03 := hb03.size
        obtain ⟨i0, i1, i2, i3⟩ := id jj
        clear hb2 hb01 hb02
        go_wp2_with fail
        refine bodyPost_ret (v := .agg #[.int .i64 (hiI (x * n)), .int .u64 (loI (x * n))]) ?_ rfl ⟨rfl, (hb03.setCell (p := ⟨w.heap.size, 0, none⟩) (Nat.le_refl _) _).setCell (p := ⟨w.heap.size, 1, none⟩) (Nat.le_refl _) _⟩
        simp [results, Try.results71, go_sem, *]
end Go.Proofs.Ytnfohlabmidliaa
/-
  Package monoid: valid, Check.
-/
namespace Go.Proofs.Ytnfohlabmidliaa
open Go.RowKit
attribute [local go_sem ↓] Go.wp_at_zero Go.wp_at_succ

theorem beq_no {a b : Int} (h : a ≠ b) : (a == b) = false := beq_eq_false_iff_ne.2 h

set_option maxHeartbeats 1000000 in
theorem mvalid_any (c i v le mo : Int) (w : World) (hv : R128 v) (hle : R64 le) (hmo : R64 mo) :
    Calls Try.prog 49 #[redV c i v le mo] w fun e w' => e = .returned (.bool (validB c i v le mo)) ∧ Below w.heap.size w w' := by
  have hb0 := (Below.refl w.heap.size w).alloc (Nat.le_refl _) (.cells #[.int .i64 c, .int .i64 i, .int .i64 (hiI v), .int .u64 (loI v), .int .i64 le, .int .i64 mo] 37)
  have hlo := lo_bound v
  rcases valid_cases c i v le mo with ⟨h, hr⟩ | ⟨⟨h0, h⟩, hr⟩ | ⟨⟨⟨h0, h1⟩, h⟩, hr⟩ | ⟨⟨⟨h0, h1⟩, h2, h⟩, hr⟩ | ⟨⟨⟨h0, h1⟩, h⟩, hr⟩ | ⟨⟨⟨h0, h1⟩, h2, h⟩, hr⟩ | ⟨⟨⟨h0, h1⟩, h2, h3⟩, hr⟩
  · have Hr := Lib.hid hr
    clear hr
    unfold redV
    go_enter Try.func49, Try.ntmps49
    go_wp2
    go_ret
    exact ⟨by rw [Hr.out]; rfl, hb0⟩
  · have Hr := Lib.hid hr
    clear hr
    unfold redV
    go_enter Try.func49, Try.ntmps49
    go_wp2
    go_ret
    exact ⟨by rw [Hr.out]; rfl, hb0⟩
  · have Hr := Lib.hid hr
    clear hr
    unfold redV
    go_enter Try.func49, Try.ntmps49
    go_wp2
    go_ret
    exact ⟨by rw [Hr.out]; rfl, hb0⟩
  · have Hr := Lib.hid hr
    have hd : decide (c < i) = true := decide_eq_true h
    clear hr
    unfold redV
    go_enter Try.func49, Try.ntmps49
    go_wp2
    go_ret
    exact ⟨by rw [Hr.out]; rfl, hb0⟩
  · subst h
    have hd : decide (c < 0) = false := decide_eq_false (by omega)
    have hz : (hiI v = 0 ∧ loI v = 0) ↔ v = 0 := by
      have := hl_inj v 0 hv (by unfold R128; omega)
      rw [hl_zero.1, hl_zero.2] at this
      exact this
    by_cases a1 : hiI v = 0
    · by_cases a2 : loI v = 0
      · have hv0 := hz.1 ⟨a1, a2⟩
        by_cases a3 : le = 0
        · by_cases a4 : mo = 0
          · have Hr := Lib.hid (hr.trans (decide_eq_true ⟨hv0, a3, a4⟩))
            clear hr hz hv0
            unfold redV
            rw [a1, a2, a3, a4]
            rw [a1, a2, a3, a4] at hb0
            rw [a3, a4] at Hr
            clear a1 a2 a3 a4
            go_enter Try.func49, Try.ntmps49
            go_wp2
            go_ret
            exact ⟨by rw [Hr.out]; rfl, hb0⟩
          · have Hr := Lib.hid (hr.trans (decide_eq_false (fun h => a4 h.2.2)))
            have e4 := beq_no a4
            clear hr hz hv0
            unfold redV
            rw [a1, a2, a3]
            rw [a1, a2, a3] at hb0
            rw [a3] at Hr
            clear a1 a2 a3
            go_enter Try.func49, Try.ntmps49
            go_wp2
            go_ret
            exact ⟨by rw [Hr.out]; rfl, hb0⟩
        · have Hr := Lib.hid (hr.trans (decide_eq_false (fun h => a3 h.2.1)))
          have e3 := beq_no a3
          clear hr hz hv0
          unfold redV
          rw [a1, a2]
          rw [a1, a2] at hb0
          clear a1 a2
          go_enter Try.func49, Try.ntmps49
          go_wp2
          go_ret
          exact ⟨by rw [Hr.out]; rfl, hb0⟩
      · have Hr := Lib.hid (hr.trans (decide_eq_false (fun h => a2 (hz.2 h.1).2)))
        have e2 := beq_no a2
        clear hr hz
        unfold redV
        rw [a1]
        rw [a1] at hb0
        clear a1
        go_enter Try.func49, Try.ntmps49
        go_wp2
        go_ret
        exact ⟨by rw [Hr.out]; rfl, hb0⟩
    · have Hr := Lib.hid (hr.trans (decide_eq_false (fun h => a1 (hz.2 h.1).1)))
      have e1 := beq_no a1
      clear hr hz
      unfold redV
      go_enter Try.func49, Try.ntmps49
      go_wp2
      go_ret
      exact ⟨by rw [Hr.out]; rfl, hb0⟩
  · subst h
    have hd : decide (c < 1) = false := decide_eq_false (by omega)
    by_cases a1 : le = mo
    · subst a1
      by_cases a2 : v = le
      · subst a2
        have Hr := Lib.hid (hr.trans (decide_eq_true ⟨rfl, rfl⟩))
        clear hr
        unfold redV
        obtain ⟨W1, hW1⟩ : ∃ W1, w.alloc (.cells #[.int .i64 c, .int .i64 1, .int .i64 (hiI v), .int .u64 (loI v), .int .i64 v, .int .i64 v] 37) = W1 := ⟨_, rfl⟩
        have c0 : ∀ W, Below W1.heap.size W1 W → W.cell? ⟨w.heap.size, 0, none⟩ = some (.int .i64 c) := fun W h => mnew_later (by rw [hW1]; exact h) 0 rfl
        have c1 : ∀ W, Below W1.heap.size W1 W → W.cell? ⟨w.heap.size, 1, none⟩ = some (.int .i64 1) := fun W h => mnew_later (by rw [hW1]; exact h) 1 rfl
        have c2 : ∀ W, Below W1.heap.size W1 W → W.cell? ⟨w.heap.size, 2, none⟩ = some (.int .i64 (hiI v)) := fun W h => mnew_later (by rw [hW1]; exact h) 2 rfl
        have c3 : ∀ W, Below W1.heap.size W1 W → W.cell? ⟨w.heap.size, 3, none⟩ = some (.int .u64 (loI v)) := fun W h => mnew_later (by rw [hW1]; exact h) 3 rfl
        have c4 : ∀ W, Below W1.heap.size W1 W → W.cell? ⟨w.heap.size, 4, none⟩ = some (.int .i64 v) := fun W h => mnew_later (by rw [hW1]; exact h) 4 rfl
        have c5 : ∀ W, Below W1.heap.size W1 W → W.cell? ⟨w.heap.size, 5, none⟩ = some (.int .i64 v) := fun W h => mnew_later (by rw [hW1]; exact h) 5 rfl
        have hb1 : Below w.heap.size w W1 := by rw [← hW1]; exact hb0
        have d0 := c0 W1 (Below.refl _ _)
        have d1 := c1 W1 (Below.refl _ _)
        have d4 := c4 W1 (Below.refl _ _)
        have d5 := c5 W1 (Below.refl _ _)
        clear hb0
        go_enter Try.func49, Try.ntmps49
        go_wp2
        go_region_held3 (fun w' => Below W1.heap.size W1 w') (first | assumption | exact (Below.refl _ _).drew | (refine mS_call ?_ ?_ ?_; assumption; assumption; rfl)) (first
          | (go_at_call 66; with_reducible refine (total_agg c 1 v v v _).mono ?_; rintro e wA ⟨rfl, hbA⟩; have hSA := mS_call hbA (by assumption) rfl)
          | (go_at_call 67; with_reducible refine (sumOf_agg v _ hle).mono ?_; rintro e wB ⟨rfl, hbB⟩; have hSB := mS_call hbB (by assumption) rfl))
        all_goals
          go_wp2
          go_ret
          exact ⟨by rw [Hr.out]; rfl, hb1.trans (Below.mono (B := W1.heap.size) (by assumption) hb1.size)⟩
      · have Hr := Lib.hid (hr.trans (decide_eq_false (fun h => a2 h.2)))
        have hne : ¬ (hiI v = hiI le ∧ loI v = loI le) := fun h => a2 ((hl_inj v le hv (by unfold R64 at hle; unfold R128; omega)).1 h)
        by_cases a3 : hiI v = hiI le
        · have e2 := beq_no (fun h => hne ⟨a3, h⟩)
          have e3 : (hiI v == hiI le) = true := beq_iff_eq.2 a3
          clear hr a3 hne
          unfold redV
          obtain ⟨W1, hW1⟩ : ∃ W1, w.alloc (.cells #[.int .i64 c, .int .i64 1, .int .i64 (hiI v), .int .u64 (loI v), .int .i64 le, .int .i64 le] 37) = W1 := ⟨_, rfl⟩
          have c0 : ∀ W, Below W1.heap.size W1 W → W.cell? ⟨w.heap.size, 0, none⟩ = some (.int .i64 c) := fun W h => mnew_later (by rw [hW1]; exact h) 0 rfl
          have c1 : ∀ W, Below W1.heap.size W1 W → W.cell? ⟨w.heap.size, 1, none⟩ = some (.int .i64 1) := fun W h => mnew_later (by rw [hW1]; exact h) 1 rfl
          have c2 : ∀ W, Below W1.heap.size W1 W → W.cell? ⟨w.heap.size, 2, none⟩ = some (.int .i64 (hiI v)) := fun W h => mnew_later (by rw [hW1]; exact h) 2 rfl
          have c3 : ∀ W, Below W1.heap.size W1 W → W.cell? ⟨w.heap.size, 3, none⟩ = some (.int .u64 (loI v)) := fun W h => mnew_later (by rw [hW1]; exact h) 3 rfl
          have c4 : ∀ W, Below W1.heap.size W1 W → W.cell? ⟨w.heap.size, 4, none⟩ = some (.int .i64 le) := fun W h => mnew_later (by rw [hW1]; exact h) 4 rfl
          have c5 : ∀ W, Below W1.heap.size W1 W → W.cell? ⟨w.heap.size, 5, none⟩ = some (.int .i64 le) := fun W h => mnew_later (by rw [hW1]; exact h) 5 rfl
          have hb1 : Below w.heap.size w W1 := by rw [← hW1]; exact hb0
          have d0 := c0 W1 (Below.refl _ _)
          have d1 := c1 W1 (Below.refl _ _)
          have d4 := c4 W1 (Below.refl _ _)
          have d5 := c5 W1 (Below.refl _ _)
          clear hb0
          go_enter Try.func49, Try.ntmps49
          go_wp2
          go_region_held3 (fun w' => Below W1.heap.size W1 w') (first | assumption | exact (Below.refl _ _).drew | (refine mS_call ?_ ?_ ?_; assumption; assumption; rfl)) (first
            | (go_at_call 66; with_reducible refine (total_agg c 1 v le le _).mono ?_; rintro e wA ⟨rfl, hbA⟩; have hSA := mS_call hbA (by assumption) rfl)
            | (go_at_call 67; with_reducible refine (sumOf_agg le _ hle).mono ?_; rintro e wB ⟨rfl, hbB⟩; have hSB := mS_call hbB (by assumption) rfl))
          all_goals
            go_wp2
            go_ret
            exact ⟨by rw [Hr.out]; rfl, hb1.trans (Below.mono (B := W1.heap.size) (by assumption) hb1.size)⟩
        · have e2 := beq_no a3
          clear hr hne
          unfold redV
          obtain ⟨W1, hW1⟩ : ∃ W1, w.alloc (.cells #[.int .i64 c, .int .i64 1, .int .i64 (hiI v), .int .u64 (loI v), .int .i64 le, .int .i64 le] 37) = W1 := ⟨_, rfl⟩
          have c0 : ∀ W, Below W1.heap.size W1 W → W.cell? ⟨w.heap.size, 0, none⟩ = some (.int .i64 c) := fun W h => mnew_later (by rw [hW1]; exact h) 0 rfl
          have c1 : ∀ W, Below W1.heap.size W1 W → W.cell? ⟨w.heap.size, 1, none⟩ = some (.int .i64 1) := fun W h => mnew_later (by rw [hW1]; exact h) 1 rfl
          have c2 : ∀ W, Below W1.heap.size W1 W → W.cell? ⟨w.heap.size, 2, none⟩ = some (.int .i64 (hiI v)) := fun W h => mnew_later (by rw [hW1]; exact h) 2 rfl
          have c3 : ∀ W, Below W1.heap.size W1 W → W.cell? ⟨w.heap.size, 3, none⟩ = some (.int .u64 (loI v)) := fun W h => mnew_later (by rw [hW1]; exact h) 3 rfl
          have c4 : ∀ W, Below W1.heap.size W1 W → W.cell? ⟨w.heap.size, 4, none⟩ = some (.int .i64 le) := fun W h => mnew_later (by rw [hW1]; exact h) 4 rfl
          have c5 : ∀ W, Below W1.heap.size W1 W → W.cell? ⟨w.heap.size, 5, none⟩ = some (.int .i64 le) := fun W h => mnew_later (by rw [hW1]; exact h) 5 rfl
          have hb1 : Below w.heap.size w W1 := by rw [← hW1]; exact hb0
          have d0 := c0 W1 (Below.refl _ _)
          have d1 := c1 W1 (Below.refl _ _)
          have d4 := c4 W1 (Below.refl _ _)
          have d5 := c5 W1 (Below.refl _ _)
          clear hb0
          go_enter Try.func49, Try.ntmps49
          go_wp2
          go_region_held3 (fun w' => Below W1.heap.size W1 w') (first | assumption | exact (Below.refl _ _).drew | (refine mS_call ?_ ?_ ?_; assumption; assumption; rfl)) (first
            | (go_at_call 66; with_reducible refine (total_agg c 1 v le le _).mono ?_; rintro e wA ⟨rfl, hbA⟩; have hSA := mS_call hbA (by assumption) rfl)
            | (go_at_call 67; with_reducible refine (sumOf_agg le _ hle).mono ?_; rintro e wB ⟨rfl, hbB⟩; have hSB := mS_call hbB (by assumption) rfl))
          all_goals
            go_wp2
            go_ret
            exact ⟨by rw [Hr.out]; rfl, hb1.trans (Below.mono (B := W1.heap.size) (by assumption) hb1.size)⟩
    · have Hr := Lib.hid (hr.trans (decide_eq_false (fun h => a1 h.1)))
      have e1 := beq_no a1
      clear hr
      unfold redV
      go_enter Try.func49, Try.ntmps49
      go_wp2
      go_quiet (fail)
      go_wp2
      go_ret
      exact ⟨by rw [Hr.out]; rfl, below_drewN hb0 _⟩
  · have hd : decide (c < i) = false := decide_eq_false (by omega)
    have e0 : (i == 0) = false := beq_no (by omega)
    have e1 : (i == 1) = false := beq_no (by omega)
    by_cases a1 : le ≤ mo
    · have Hr := Lib.hid (hr.trans (by rw [decide_eq_true a1, Bool.true_and]))
      have dl : decide (le ≤ mo) = true := decide_eq_true a1
      clear hr
      unfold redV
      go_enter Try.func49, Try.ntmps49
      go_wp2_with fail
      refine (between_any c i v le mo _ hv hle hmo h2 (by omega)).mono ?_
      rintro e w1 ⟨rfl, hb1⟩
      generalize (decide (le + mo + le * (i - 2) ≤ v) && decide (v ≤ le + mo + mo * (i - 2))) = z at *
      go_wp2
      go_ret
      exact ⟨by rw [Hr.out]; rfl, hb0.trans (hb1.mono hb0.size)⟩
    · have Hr := Lib.hid (hr.trans (by rw [decide_eq_false a1, Bool.false_and]))
      have dl : decide (le ≤ mo) = false := decide_eq_false a1
      clear hr
      unfold redV
      go_enter Try.func49, Try.ntmps49
      go_wp2
      go_ret
      exact ⟨by rw [Hr.out]; rfl, hb0⟩

/-- What Check answers. -/
def redE (c i v le mo : Int) : Int := if validB c i v le mo = true then 0 else 230
set_option maxHeartbeats 1000000 in
theorem mcheck_any (c i v le mo : Int) (w : World) (hv : R128 v) (hle : R64 le) (hmo : R64 mo) :
    Calls Try.prog 104 #[redV c i v le mo] w fun e w' => e = .returned (.int .i64 (redE c i v le mo)) ∧ Below w.heap.size w w' := by
  have hb0 := (Below.refl w.heap.size w).alloc (Nat.le_refl _) (.cells #[.int .i64 c, .int .i64 i, .int .i64 (hiI v), .int .u64 (loI v), .int .i64 le, .int .i64 mo] 37)
  have hv' : redV c i v le mo = .agg #[.int .i64 c, .int .i64 i, .int .i64 (hiI v), .int .u64 (loI v), .int .i64 le, .int .i64 mo] := rfl
  have hc := fun W => mvalid_any c i v le mo W hv hle hmo
  rw [hv'] at hc ⊢
  clear hv'
  by_cases h : validB c i v le mo = true
  · have Hr := Lib.hid (show redE c i v le mo = 0 by unfold redE; rw [if_pos h])
    rw [h] at hc
    clear h
    go_enter Try.func104, Try.ntmps104
    go_wp2_with fail
    refine (hc _).mono ?_
    rintro e w1 ⟨rfl, hb1⟩
    go_wp2
    go_ret
    exact ⟨by rw [Hr.out]; rfl, hb0.trans (hb1.mono hb0.size)⟩
  · have Hr := Lib.hid (show redE c i v le mo = 230 by unfold redE; rw [if_neg h])
    have h2 : validB c i v le mo = false := by simpa using h
    rw [h2] at hc
    clear h h2
    go_enter Try.func104, Try.ntmps104
    go_wp2_with fail
    refine (hc _).mono ?_
    rintro e w1 ⟨rfl, hb1⟩
    go_wp2
    go_ret
    exact ⟨by rw [Hr.out]; rfl, hb0.trans (hb1.mono hb0.size)⟩
end Go.Proofs.Ytnfohlabmidliaa
/-
  Layer 13: the reference's Right.
-/
namespace Go.Proofs.Ytnfohlabmidliaa
open Go.RowKit
attribute [local go_sem ↓] Go.wp_at_zero Go.wp_at_succ

set_option maxRecDepth 20000 in
set_option maxHeartbeats 2000000 in
theorem right_big (c i v le mo : Int) (w : World) (hv : R128 v) (hle : R64 le) (hmo : R64 mo) (h2 : 2 ≤ i) (h3 : i ≤ c) (h4 : c ≤ 1073741824) :
    Calls Try.prog 52 #[.agg #[.int .i64 c, .int .i64 i, .int .i64 (hiI v), .int .u64 (loI v), .int .i64 le, .int .i64 mo]] w fun e w' => e = .returned (.bool (decide (le ≤ mo) && (decide (le + mo + le * (i - 2) ≤ v) && decide (v ≤ le + mo + mo * (i - 2))))) ∧ Below w.heap.size w w' := by
  have hb0 := (Below.refl w.heap.size w).alloc (Nat.le_refl _) (.cells #[.int .i64 c, .int .i64 i, .int .i64 (hiI v), .int .u64 (loI v), .int .i64 le, .int .i64 mo] 37)
  have hd : decide (c < i) = false := decide_eq_false (by omega)
  have e0 : (i == 0) = false := beq_no (by omega)
  have e1 : (i == 1) = false := beq_no (by omega)
  obtain ⟨W1, hW1⟩ : ∃ W1, w.alloc (.cells #[.int .i64 c, .int .i64 i, .int .i64 (hiI v), .int .u64 (loI v), .int .i64 le, .int .i64 mo] 37) = W1 := ⟨_, rfl⟩
  have hb1 : Below w.heap.size w W1 := by rw [← hW1]; exact hb0
  have c0 : ∀ W, Below W1.heap.size W1 W → W.cell? ⟨w.heap.size, 0, none⟩ = some (.int .i64 c) := fun W h => mnew_later (by rw [hW1]; exact h) 0 rfl
  have c1 : ∀ W, Below W1.heap.size W1 W → W.cell? ⟨w.heap.size, 1, none⟩ = some (.int .i64 i) := fun W h => mnew_later (by rw [hW1]; exact h) 1 rfl
  have c2 : ∀ W, Below W1.heap.size W1 W → W.cell? ⟨w.heap.size, 2, none⟩ = some (.int .i64 (hiI v)) := fun W h => mnew_later (by rw [hW1]; exact h) 2 rfl
  have c3 : ∀ W, Below W1.heap.size W1 W → W.cell? ⟨w.heap.size, 3, none⟩ = some (.int .u64 (loI v)) := fun W h => mnew_later (by rw [hW1]; exact h) 3 rfl
  have c4 : ∀ W, Below W1.heap.size W1 W → W.cell? ⟨w.heap.size, 4, none⟩ = some (.int .i64 le) := fun W h => mnew_later (by rw [hW1]; exact h) 4 rfl
  have c5 : ∀ W, Below W1.heap.size W1 W → W.cell? ⟨w.heap.size, 5, none⟩ = some (.int .i64 mo) := fun W h => mnew_later (by rw [hW1]; exact h) 5 rfl
  have d0 := c0 W1 (Below.refl _ _)
  have d1 := c1 W1 (Below.refl _ _)
  have d2 := c2 W1 (Below.refl _ _)
  have d3 := c3 W1 (Below.refl _ _)
  have d4 := c4 W1 (Below.refl _ _)
  have d5 := c5 W1 (Below.refl _ _)
  clear hb0
  have ht0 : 0 ≤ i - 2 := by omega
  have ht1 : i - 2 ≤ 1073741824 := by omega
  have hw2 : IntKind.i64.wrap (i - 2) = i - 2 := by rw [IntKind.wrap_i64]; omega
  have htm : ∀ (x : Int), R64 x → ∀ W, Calls Try.prog 71 #[.int .i64 x, .int .i64 (i - 2)] W fun e w' => e = .returned (.agg #[.int .i64 (hiI (x * (i - 2))), .int .u64 (loI (x * (i - 2)))]) ∧ Below W.heap.size W w' := fun x hx W => times_any (i - 2).toNat x (i - 2) W (by omega) hx ht0 ht1
  have Htm := Lib.hid htm
  clear htm
  go_enter Try.func52, Try.ntmps52
  go_wp2_with fail
  clear hW1 d0 d1 d2 d3 d4 d5
  go_upto_region 7 with fail
  go_cut [3] (fun s3 wx => ∃ g : Nat, s3 = .pointer (some ⟨g, 0, none⟩) ∧ Below W1.heap.size W1 wx ∧ wx.cell? ⟨g, 0, none⟩ = some (.int .i64 (hiI (le + mo))) ∧ wx.cell? ⟨g, 1, none⟩ = some (.int .u64 (loI (le + mo))))
  case first =>
    go_region_held3 (fun w' => Below W1.heap.size W1 w') (first | assumption | exact (Below.refl _ _).drew | exact ((Below.refl _ _).alloc (Nat.le_refl _) _).drew | (refine mS_alloc ?_; assumption) | (refine mS_call ?_ ?_ ?_; assumption; assumption; rfl) | (refine S_set2 ?_ ?_; assumption; first | exact Nat.le_refl _ | exact Below.size (by assumption))) (first
      | (go_at_call 70; with_reducible refine (refOf_any le _ hle).mono ?_; rintro e wA ⟨rfl, hbA⟩; have hSA := mS_call hbA (by assumption) rfl; (first | (have kk := keep_two hbA rfl kk; obtain ⟨k0, k1, f0, f1⟩ := id kk) | (have kk := new_two hbA rfl; obtain ⟨k0, k1, f0, f1⟩ := id kk) | (have kk := new_two (below_undrew hbA) rfl; obtain ⟨k0, k1, f0, f1⟩ := id kk) | skip))
      | (go_at_call 70; with_reducible refine (refOf_any mo _ hmo).mono ?_; rintro e wB ⟨rfl, hbB⟩; have hSB := mS_call hbB (by assumption) rfl; (first | (have kk := keep_two hbB rfl kk; obtain ⟨k0, k1, f0, f1⟩ := id kk) | (have kk := new_two hbB rfl; obtain ⟨k0, k1, f0, f1⟩ := id kk) | (have kk := new_two (below_undrew hbB) rfl; obtain ⟨k0, k1, f0, f1⟩ := id kk) | skip))
      | (go_at_call 56; with_reducible refine (refAdd_any le mo _).mono ?_; rintro e wC ⟨rfl, hbC⟩; have hSC := mS_call hbC (by assumption) rfl; (first | (have kk := keep_two hbC rfl kk; obtain ⟨k0, k1, f0, f1⟩ := id kk) | (have kk := new_two hbC rfl; obtain ⟨k0, k1, f0, f1⟩ := id kk) | (have kk := new_two (below_undrew hbC) rfl; obtain ⟨k0, k1, f0, f1⟩ := id kk) | skip)))
    all_goals
      go_wp2_with fail
      go_meet
      case rel => exact ⟨_, rfl, by assumption, by go_simp, by go_simp⟩
  case rest =>
    obtain ⟨g3, rfl, hb2, d0, d1⟩ := hcut
    have d0 : ∀ W, Below wc.heap.size wc W → W.cell? ⟨g3, 0, none⟩ = some (.int .i64 (hiI (le + mo))) := fun W h => mkept_later h d0
    have d1 : ∀ W, Below wc.heap.size wc W → W.cell? ⟨g3, 1, none⟩ = some (.int .u64 (loI (le + mo))) := fun W h => mkept_later h d1
    have c0 : ∀ W, Below wc.heap.size wc W → W.cell? ⟨w.heap.size, 0, none⟩ = some (.int .i64 c) := fun W h => c0 W (hb2.trans (h.mono hb2.size))
    have c1 : ∀ W, Below wc.heap.size wc W → W.cell? ⟨w.heap.size, 1, none⟩ = some (.int .i64 i) := fun W h => c1 W (hb2.trans (h.mono hb2.size))
    have c2 : ∀ W, Below wc.heap.size wc W → W.cell? ⟨w.heap.size, 2, none⟩ = some (.int .i64 (hiI v)) := fun W h => c2 W (hb2.trans (h.mono hb2.size))
    have c3 : ∀ W, Below wc.heap.size wc W → W.cell? ⟨w.heap.size, 3, none⟩ = some (.int .u64 (loI v)) := fun W h => c3 W (hb2.trans (h.mono hb2.size))
    have c4 : ∀ W, Below wc.heap.size wc W → W.cell? ⟨w.heap.size, 4, none⟩ = some (.int .i64 le) := fun W h => c4 W (hb2.trans (h.mono hb2.size))
    have c5 : ∀ W, Below wc.heap.size wc W → W.cell? ⟨w.heap.size, 5, none⟩ = some (.int .i64 mo) := fun W h => c5 W (hb2.trans (h.mono hb2.size))
    have hb1 := hb1.trans (hb2.mono hb1.size)
    clear hb2
    obtain ⟨W2, hW2⟩ : ∃ W2, W2 = wc := ⟨_, rfl⟩
    subst hW2
    go_upto_region 8 with fail
    go_cut [4] (fun s3 wx => ∃ g : Nat, s3 = .pointer (some ⟨g, 0, none⟩) ∧ Below W2.heap.size W2 wx ∧ wx.cell? ⟨g, 0, none⟩ = some (.int .i64 (hiI (le + mo + le * (i - 2)))) ∧ wx.cell? ⟨g, 1, none⟩ = some (.int .u64 (loI (le + mo + le * (i - 2)))))
    case first =>
      go_region_held3 (fun w' => Below W2.heap.size W2 w') (first | assumption | exact (Below.refl _ _).drew | exact ((Below.refl _ _).alloc (Nat.le_refl _) _).drew | (refine mS_alloc ?_; assumption) | (refine mS_call ?_ ?_ ?_; assumption; assumption; rfl) | (refine S_set2 ?_ ?_; assumption; first | exact Nat.le_refl _ | exact Below.size (by assumption))) (first
        | (go_at_call 71; with_reducible refine (Htm.out le hle _).mono ?_; rintro e wA ⟨rfl, hbA⟩; have hSA := mS_call hbA (by assumption) rfl; (first | (have kk := keep_two hbA rfl kk; obtain ⟨k0, k1, f0, f1⟩ := id kk) | (have kk := new_two hbA rfl; obtain ⟨k0, k1, f0, f1⟩ := id kk) | (have kk := new_two (below_undrew hbA) rfl; obtain ⟨k0, k1, f0, f1⟩ := id kk) | skip))
        | (go_at_call 56; with_reducible refine (refAdd_any (le + mo) (le * (i - 2)) _).mono ?_; rintro e wC ⟨rfl, hbC⟩; have hSC := mS_call hbC (by assumption) rfl; (first | (have kk := keep_two hbC rfl kk; obtain ⟨k0, k1, f0, f1⟩ := id kk) | (have kk := new_two hbC rfl; obtain ⟨k0, k1, f0, f1⟩ := id kk) | (have kk := new_two (below_undrew hbC) rfl; obtain ⟨k0, k1, f0, f1⟩ := id kk) | skip)))
      all_goals
        go_wp2_with fail
        go_meet
        case rel => exact ⟨_, rfl, by assumption, by go_simp, by go_simp⟩
    case rest =>
      obtain ⟨g4, rfl, hb3, e0, e1⟩ := hcut
      have e0 : ∀ W, Below wc.heap.size wc W → W.cell? ⟨g4, 0, none⟩ = some (.int .i64 (hiI (le + mo + le * (i - 2)))) := fun W h => mkept_later h e0
      have e1 : ∀ W, Below wc.heap.size wc W → W.cell? ⟨g4, 1, none⟩ = some (.int .u64 (loI (le + mo + le * (i - 2)))) := fun W h => mkept_later h e1
      have d0 : ∀ W, Below wc.heap.size wc W → W.cell? ⟨g3, 0, none⟩ = some (.int .i64 (hiI (le + mo))) := fun W h => d0 W (hb3.trans (h.mono hb3.size))
      have d1 : ∀ W, Below wc.heap.size wc W → W.cell? ⟨g3, 1, none⟩ = some (.int .u64 (loI (le + mo))) := fun W h => d1 W (hb3.trans (h.mono hb3.size))
      have c0 : ∀ W, Below wc.heap.size wc W → W.cell? ⟨w.heap.size, 0, none⟩ = some (.int .i64 c) := fun W h => c0 W (hb3.trans (h.mono hb3.size))
      have c1 : ∀ W, Below wc.heap.size wc W → W.cell? ⟨w.heap.size, 1, none⟩ = some (.int .i64 i) := fun W h => c1 W (hb3.trans (h.mono hb3.size))
      have c2 : ∀ W, Below wc.heap.size wc W → W.cell? ⟨w.heap.size, 2, none⟩ = some (.int .i64 (hiI v)) := fun W h => c2 W (hb3.trans (h.mono hb3.size))
      have c3 : ∀ W, Below wc.heap.size wc W → W.cell? ⟨w.heap.size, 3, none⟩ = some (.int .u64 (loI v)) := fun W h => c3 W (hb3.trans (h.mono hb3.size))
      have c4 : ∀ W, Below wc.heap.size wc W → W.cell? ⟨w.heap.size, 4, none⟩ = some (.int .i64 le) := fun W h => c4 W (hb3.trans (h.mono hb3.size))
      have c5 : ∀ W, Below wc.heap.size wc W → W.cell? ⟨w.heap.size, 5, none⟩ = some (.int .i64 mo) := fun W h => c5 W (hb3.trans (h.mono hb3.size))
      have hb1 := hb1.trans (hb3.mono hb1.size)
      clear hb3
      obtain ⟨W3, hW3⟩ : ∃ W3, W3 = wc := ⟨_, rfl⟩
      subst hW3
      go_upto_region 9 with fail
      go_cut [5] (fun s3 wx => ∃ g : Nat, s3 = .pointer (some ⟨g, 0, none⟩) ∧ Below W3.heap.size W3 wx ∧ wx.cell? ⟨g, 0, none⟩ = some (.int .i64 (hiI (le + mo + mo * (i - 2)))) ∧ wx.cell? ⟨g, 1, none⟩ = some (.int .u64 (loI (le + mo + mo * (i - 2)))))
      case first =>
        go_region_held3 (fun w' => Below W3.heap.size W3 w') (first | assumption | exact (Below.refl _ _).drew | exact ((Below.refl _ _).alloc (Nat.le_refl _) _).drew | (refine mS_alloc ?_; assumption) | (refine mS_call ?_ ?_ ?_; assumption; assumption; rfl) | (refine S_set2 ?_ ?_; assumption; first | exact Nat.le_refl _ | exact Below.size (by assumption))) (first
          | (go_at_call 71; with_reducible refine (Htm.out mo hmo _).mono ?_; rintro e wA ⟨rfl, hbA⟩; have hSA := mS_call hbA (by assumption) rfl; (first | (have kk := keep_two hbA rfl kk; obtain ⟨k0, k1, f0, f1⟩ := id kk) | (have kk := new_two hbA rfl; obtain ⟨k0, k1, f0, f1⟩ := id kk) | (have kk := new_two (below_undrew hbA) rfl; obtain ⟨k0, k1, f0, f1⟩ := id kk) | skip))
          | (go_at_call 56; with_reducible refine (refAdd_any (le + mo) (mo * (i - 2)) _).mono ?_; rintro e wC ⟨rfl, hbC⟩; have hSC := mS_call hbC (by assumption) rfl; (first | (have kk := keep_two hbC rfl kk; obtain ⟨k0, k1, f0, f1⟩ := id kk) | (have kk := new_two hbC rfl; obtain ⟨k0, k1, f0, f1⟩ := id kk) | (have kk := new_two (below_undrew hbC) rfl; obtain ⟨k0, k1, f0, f1⟩ := id kk) | skip)))
        all_goals
          go_wp2_with fail
          go_meet
          case rel => exact ⟨_, rfl, by assumption, by go_simp, by go_simp⟩
      case rest =>
        obtain ⟨g5, rfl, hb4, f0, f1⟩ := hcut
        have f0 : ∀ W, Below wc.heap.size wc W → W.cell? ⟨g5, 0, none⟩ = some (.int .i64 (hiI (le + mo + mo * (i - 2)))) := fun W h => mkept_later h f0
        have f1 : ∀ W, Below wc.heap.size wc W → W.cell? ⟨g5, 1, none⟩ = some (.int .u64 (loI (le + mo + mo * (i - 2)))) := fun W h => mkept_later h f1
        have e0 : ∀ W, Below wc.heap.size wc W → W.cell? ⟨g4, 0, none⟩ = some (.int .i64 (hiI (le + mo + le * (i - 2)))) := fun W h => e0 W (hb4.trans (h.mono hb4.size))
        have e1 : ∀ W, Below wc.heap.size wc W → W.cell? ⟨g4, 1, none⟩ = some (.int .u64 (loI (le + mo + le * (i - 2)))) := fun W h => e1 W (hb4.trans (h.mono hb4.size))
        have c0 : ∀ W, Below wc.heap.size wc W → W.cell? ⟨w.heap.size, 0, none⟩ = some (.int .i64 c) := fun W h => c0 W (hb4.trans (h.mono hb4.size))
        have c1 : ∀ W, Below wc.heap.size wc W → W.cell? ⟨w.heap.size, 1, none⟩ = some (.int .i64 i) := fun W h => c1 W (hb4.trans (h.mono hb4.size))
        have c2 : ∀ W, Below wc.heap.size wc W → W.cell? ⟨w.heap.size, 2, none⟩ = some (.int .i64 (hiI v)) := fun W h => c2 W (hb4.trans (h.mono hb4.size))
        have c3 : ∀ W, Below wc.heap.size wc W → W.cell? ⟨w.heap.size, 3, none⟩ = some (.int .u64 (loI v)) := fun W h => c3 W (hb4.trans (h.mono hb4.size))
        have c4 : ∀ W, Below wc.heap.size wc W → W.cell? ⟨w.heap.size, 4, none⟩ = some (.int .i64 le) := fun W h => c4 W (hb4.trans (h.mono hb4.size))
        have c5 : ∀ W, Below wc.heap.size wc W → W.cell? ⟨w.heap.size, 5, none⟩ = some (.int .i64 mo) := fun W h => c5 W (hb4.trans (h.mono hb4.size))
        have hb1 := hb1.trans (hb4.mono hb1.size)
        have s1 := hb1.size
        clear hb4 d0 d1 hw2 Htm
        have l1 := mul_bound le (i - 2) hle ht0 ht1
        have l2 := mul_bound mo (i - 2) hmo ht0 ht1
        have r1 : R128 (le + mo + le * (i - 2)) := by unfold R64 at hle hmo; unfold R128; omega
        have r2 : R128 (le + mo + mo * (i - 2)) := by unfold R64 at hle hmo; unfold R128; omega
        clear l1 l2
        obtain ⟨low, hlow⟩ : ∃ low, low = le + mo + le * (i - 2) := ⟨_, rfl⟩
        obtain ⟨high, hhigh⟩ : ∃ high, high = le + mo + mo * (i - 2) := ⟨_, rfl⟩
        rw [← hlow] at e0 e1 r1
        rw [← hhigh] at f0 f1 r2
        have Hlow := Lib.hid hlow
        have Hhigh := Lib.hid hhigh
        clear hlow hhigh
        obtain ⟨W4, hW4⟩ : ∃ W4, W4 = wc := ⟨_, rfl⟩
        subst hW4
        by_cases a1 : le ≤ mo
        · have hle1 : decide (le ≤ mo) = true := decide_eq_true a1
          by_cases h1 : v < low
          · have Hr := Lib.hid (show (decide (le ≤ mo) && (decide (le + mo + le * (i - 2) ≤ v) && decide (v ≤ le + mo + mo * (i - 2)))) = false by rw [← Hlow.out, decide_eq_false (p := low ≤ v) (by omega), Bool.false_and, Bool.and_false])
            have Hd := Lib.hid (show decide (v < low) = true from decide_eq_true h1)
            have hll : ∀ W, Calls Try.prog 72 #[.agg #[.int .i64 (hiI v), .int .u64 (loI v)], .agg #[.int .i64 (hiI low), .int .u64 (loI low)]] W fun e w' => e = .returned (.bool true) ∧ Below W.heap.size W w' := fun W => (refLess_any v low W hv r1).mono fun e w' h => ⟨by rw [h.1, Hd.out], h.2⟩
            have Hll := Lib.hid hll
            clear h1 hll
            go_wp2_with fail
            have hS0 : Below W4.heap.size W4 W4.drew := (Below.refl _ _).drew
            go_region_with (first
              | (go_at_call 57; with_reducible refine (whole_any c i v le mo _).mono ?_; rintro e wA ⟨rfl, hbA⟩; have hSA := mS_call hbA hS0 rfl)
              | (go_at_call 72; with_reducible refine (Hll.out _).mono ?_; rintro e wB ⟨rfl, hbB⟩; have hSB := mS_call hbB hSA rfl))
            all_goals
              go_wp2
              go_ret
              exact ⟨by rw [Hr.out]; rfl, hb1.trans (hSB.mono s1)⟩
          · obtain ⟨z, Hz⟩ : ∃ z, Hid (decide (high < v) = z) := ⟨_, Lib.hid rfl⟩
            have Hr := Lib.hid (show (decide (le ≤ mo) && (decide (le + mo + le * (i - 2) ≤ v) && decide (v ≤ le + mo + mo * (i - 2)))) = !z by
              rw [← Hlow.out, ← Hhigh.out, ← Hz.out, hle1, Bool.true_and, decide_eq_true (p := low ≤ v) (by omega), Bool.true_and]
              by_cases h2 : high < v
              · rw [decide_eq_true h2, decide_eq_false (by omega)]; rfl
              · rw [decide_eq_false h2, decide_eq_true (by omega)]; rfl)
            have Hd := Lib.hid (show decide (v < low) = false from decide_eq_false h1)
            have hll : ∀ W, Calls Try.prog 72 #[.agg #[.int .i64 (hiI v), .int .u64 (loI v)], .agg #[.int .i64 (hiI low), .int .u64 (loI low)]] W fun e w' => e = .returned (.bool false) ∧ Below W.heap.size W w' := fun W => (refLess_any v low W hv r1).mono fun e w' h => ⟨by rw [h.1, Hd.out], h.2⟩
            have hlh : ∀ W, Calls Try.prog 72 #[.agg #[.int .i64 (hiI high), .int .u64 (loI high)], .agg #[.int .i64 (hiI v), .int .u64 (loI v)]] W fun e w' => e = .returned (.bool z) ∧ Below W.heap.size W w' := fun W => (refLess_any high v W r2 hv).mono fun e w' h => ⟨by rw [h.1, Hz.out], h.2⟩
            have Hll := Lib.hid hll
            have Hlh := Lib.hid hlh
            clear h1 hll hlh
            go_wp2_with fail
            go_region_held3 (fun w' => Below W4.heap.size W4 w') (first | assumption | exact (Below.refl _ _).drew | (refine mS_call ?_ ?_ ?_; assumption; assumption; rfl)) (first
              | (go_at_call 57; with_reducible refine (whole_any c i v le mo _).mono ?_; rintro e wA ⟨rfl, hbA⟩; have hSA := mS_call hbA (by assumption) rfl)
              | (go_at_call 72; with_reducible refine (Hll.out _).mono ?_; rintro e wB ⟨rfl, hbB⟩; have hSB := mS_call hbB (by assumption) rfl)
              | (go_at_call 72; with_reducible refine (Hlh.out _).mono ?_; rintro e wC ⟨rfl, hbC⟩; have hSC := mS_call hbC (by assumption) rfl))
            all_goals
              go_wp2
              go_ret
              exact ⟨by rw [Hr.out]; rfl, hb1.trans (Below.mono (B := W4.heap.size) (by assumption) s1)⟩
        · have Hr := Lib.hid (show (decide (le ≤ mo) && (decide (le + mo + le * (i - 2) ≤ v) && decide (v ≤ le + mo + mo * (i - 2)))) = false by rw [decide_eq_false a1, Bool.false_and])
          have hle1 : decide (le ≤ mo) = false := decide_eq_false a1
          go_wp2_with fail
          have c4' := c4 W4 (Below.refl _ _)
          have c5' := c5 W4 (Below.refl _ _)
          go_quiet (fail)
          go_wp2
          go_ret
          exact ⟨by rw [Hr.out]; rfl, below_drewN hb1 _⟩
end Go.Proofs.Ytnfohlabmidliaa
/-
  Layer 13: the reference's Right, whole.
-/
namespace Go.Proofs.Ytnfohlabmidliaa
open Go.RowKit
attribute [local go_sem ↓] Go.wp_at_zero Go.wp_at_succ

set_option maxRecDepth 20000 in
set_option maxHeartbeats 2000000 in
theorem right_bad (c i v le mo : Int) (w : World) (h : i < 0 ∨ (0 ≤ i ∧ c < i) ∨ (0 ≤ i ∧ i ≤ c ∧ 1073741824 < c)) :
    Calls Try.prog 52 #[.agg #[.int .i64 c, .int .i64 i, .int .i64 (hiI v), .int .u64 (loI v), .int .i64 le, .int .i64 mo]] w fun e w' => e = .returned (.bool false) ∧ Below w.heap.size w w' := by
  have hb0 := (Below.refl w.heap.size w).alloc (Nat.le_refl _) (.cells #[.int .i64 c, .int .i64 i, .int .i64 (hiI v), .int .u64 (loI v), .int .i64 le, .int .i64 mo] 37)
  rcases h with h | ⟨h1, h2⟩ | ⟨h1, h2, h3⟩
  · go_enter Try.func52, Try.ntmps52
    go_wp2
    go_ret
    exact ⟨rfl, hb0⟩
  · have hd : decide (c < i) = true := decide_eq_true h2
    go_enter Try.func52, Try.ntmps52
    go_wp2
    go_ret
    exact ⟨rfl, hb0⟩
  · have hd : decide (c < i) = false := decide_eq_false (by omega)
    go_enter Try.func52, Try.ntmps52
    go_wp2
    go_ret
    exact ⟨rfl, hb0⟩

set_option maxRecDepth 20000 in
set_option maxHeartbeats 2000000 in
theorem right_zero (c v le mo : Int) (w : World) (hv : R128 v) (h0 : 0 ≤ c) (h1 : c ≤ 1073741824) (hr : validB c 0 v le mo = decide (v = 0 ∧ le = 0 ∧ mo = 0)) :
    Calls Try.prog 52 #[.agg #[.int .i64 c, .int .i64 0, .int .i64 (hiI v), .int .u64 (loI v), .int .i64 le, .int .i64 mo]] w fun e w' => e = .returned (.bool (validB c 0 v le mo)) ∧ Below w.heap.size w w' := by
  have hb0 := (Below.refl w.heap.size w).alloc (Nat.le_refl _) (.cells #[.int .i64 c, .int .i64 0, .int .i64 (hiI v), .int .u64 (loI v), .int .i64 le, .int .i64 mo] 37)
  have hlo := lo_bound v
  have hd : decide (c < 0) = false := decide_eq_false (by omega)
  have hz : (hiI v = 0 ∧ loI v = 0) ↔ v = 0 := by
    have := hl_inj v 0 hv (by unfold R128; omega)
    rw [hl_zero.1, hl_zero.2] at this
    exact this
  by_cases a1 : hiI v = 0
  · by_cases a2 : loI v = 0
    · have hv0 := hz.1 ⟨a1, a2⟩
      by_cases a3 : le = 0
      · by_cases a4 : mo = 0
        · have Hr := Lib.hid (hr.trans (decide_eq_true ⟨hv0, a3, a4⟩))
          clear hr hz hv0
          rw [a1, a2, a3, a4]
          rw [a1, a2, a3, a4] at hb0
          rw [a3, a4] at Hr
          clear a1 a2 a3 a4
          go_enter Try.func52, Try.ntmps52
          go_wp2
          go_ret
          exact ⟨by rw [Hr.out]; rfl, hb0⟩
        · have Hr := Lib.hid (hr.trans (decide_eq_false (fun h => a4 h.2.2)))
          have e4 := beq_no a4
          clear hr hz hv0
          rw [a1, a2, a3]
          rw [a1, a2, a3] at hb0
          rw [a3] at Hr
          clear a1 a2 a3
          go_enter Try.func52, Try.ntmps52
          go_wp2
          go_ret
          exact ⟨by rw [Hr.out]; rfl, hb0⟩
      · have Hr := Lib.hid (hr.trans (decide_eq_false (fun h => a3 h.2.1)))
        have e3 := beq_no a3
        clear hr hz hv0
        rw [a1, a2]
        rw [a1, a2] at hb0
        clear a1 a2
        go_enter Try.func52, Try.ntmps52
        go_wp2
        go_ret
        exact ⟨by rw [Hr.out]; rfl, hb0⟩
    · have Hr := Lib.hid (hr.trans (decide_eq_false (fun h => a2 (hz.2 h.1).2)))
      have e2 := beq_no a2
      clear hr hz
      rw [a1]
      rw [a1] at hb0
      clear a1
      go_enter Try.func52, Try.ntmps52
      go_wp2
      go_ret
      exact ⟨by rw [Hr.out]; rfl, hb0⟩
  · have Hr := Lib.hid (hr.trans (decide_eq_false (fun h => a1 (hz.2 h.1).1)))
    have e1 := beq_no a1
    clear hr hz
    go_enter Try.func52, Try.ntmps52
    go_wp2
    go_ret
    exact ⟨by rw [Hr.out]; rfl, hb0⟩

set_option maxRecDepth 20000 in
set_option maxHeartbeats 2000000 in
theorem right_one (c v le mo : Int) (w : World) (hv : R128 v) (hle : R64 le) (h0 : 1 ≤ c) (h1 : c ≤ 1073741824) (hr : validB c 1 v le mo = decide (le = mo ∧ v = le)) :
    Calls Try.prog 52 #[.agg #[.int .i64 c, .int .i64 1, .int .i64 (hiI v), .int .u64 (loI v), .int .i64 le, .int .i64 mo]] w fun e w' => e = .returned (.bool (validB c 1 v le mo)) ∧ Below w.heap.size w w' := by
  have hb0 := (Below.refl w.heap.size w).alloc (Nat.le_refl _) (.cells #[.int .i64 c, .int .i64 1, .int .i64 (hiI v), .int .u64 (loI v), .int .i64 le, .int .i64 mo] 37)
  have hlo := lo_bound v
  have hd : decide (c < 1) = false := decide_eq_false (by omega)
  by_cases a1 : le = mo
  · subst a1
    by_cases a2 : v = le
    · subst a2
      have Hr := Lib.hid (hr.trans (decide_eq_true ⟨rfl, rfl⟩))
      clear hr
      obtain ⟨W1, hW1⟩ : ∃ W1, w.alloc (.cells #[.int .i64 c, .int .i64 1, .int .i64 (hiI v), .int .u64 (loI v), .int .i64 v, .int .i64 v] 37) = W1 := ⟨_, rfl⟩
      have c0 : ∀ W, Below W1.heap.size W1 W → W.cell? ⟨w.heap.size, 0, none⟩ = some (.int .i64 c) := fun W h => mnew_later (by rw [hW1]; exact h) 0 rfl
      have c1 : ∀ W, Below W1.heap.size W1 W → W.cell? ⟨w.heap.size, 1, none⟩ = some (.int .i64 1) := fun W h => mnew_later (by rw [hW1]; exact h) 1 rfl
      have c2 : ∀ W, Below W1.heap.size W1 W → W.cell? ⟨w.heap.size, 2, none⟩ = some (.int .i64 (hiI v)) := fun W h => mnew_later (by rw [hW1]; exact h) 2 rfl
      have c3 : ∀ W, Below W1.heap.size W1 W → W.cell? ⟨w.heap.size, 3, none⟩ = some (.int .u64 (loI v)) := fun W h => mnew_later (by rw [hW1]; exact h) 3 rfl
      have c4 : ∀ W, Below W1.heap.size W1 W → W.cell? ⟨w.heap.size, 4, none⟩ = some (.int .i64 v) := fun W h => mnew_later (by rw [hW1]; exact h) 4 rfl
      have c5 : ∀ W, Below W1.heap.size W1 W → W.cell? ⟨w.heap.size, 5, none⟩ = some (.int .i64 v) := fun W h => mnew_later (by rw [hW1]; exact h) 5 rfl
      have hb1 : Below w.heap.size w W1 := by rw [← hW1]; exact hb0
      have d0 := c0 W1 (Below.refl _ _)
      have d1 := c1 W1 (Below.refl _ _)
      have d4 := c4 W1 (Below.refl _ _)
      have d5 := c5 W1 (Below.refl _ _)
      clear hb0
      go_enter Try.func52, Try.ntmps52
      go_wp2
      go_region_held3 (fun w' => Below W1.heap.size W1 w') (first | assumption | exact (Below.refl _ _).drew | (refine mS_call ?_ ?_ ?_; assumption; assumption; rfl)) (first
        | (go_at_call 57; with_reducible refine (whole_any c 1 v v v _).mono ?_; rintro e wA ⟨rfl, hbA⟩; have hSA := mS_call hbA (by assumption) rfl)
        | (go_at_call 70; with_reducible refine (refOf_any v _ hle).mono ?_; rintro e wB ⟨rfl, hbB⟩; have hSB := mS_call hbB (by assumption) rfl))
      all_goals
        go_wp2
        go_ret
        exact ⟨by rw [Hr.out]; rfl, hb1.trans (Below.mono (B := W1.heap.size) (by assumption) hb1.size)⟩
    · have Hr := Lib.hid (hr.trans (decide_eq_false (fun h => a2 h.2)))
      have hne : ¬ (hiI v = hiI le ∧ loI v = loI le) := fun h => a2 ((hl_inj v le hv (by unfold R64 at hle; unfold R128; omega)).1 h)
      by_cases a3 : hiI v = hiI le
      · have e2 := beq_no (fun h => hne ⟨a3, h⟩)
        have e3 : (hiI v == hiI le) = true := beq_iff_eq.2 a3
        clear hr a3 hne
        obtain ⟨W1, hW1⟩ : ∃ W1, w.alloc (.cells #[.int .i64 c, .int .i64 1, .int .i64 (hiI v), .int .u64 (loI v), .int .i64 le, .int .i64 le] 37) = W1 := ⟨_, rfl⟩
        have c0 : ∀ W, Below W1.heap.size W1 W → W.cell? ⟨w.heap.size, 0, none⟩ = some (.int .i64 c) := fun W h => mnew_later (by rw [hW1]; exact h) 0 rfl
        have c1 : ∀ W, Below W1.heap.size W1 W → W.cell? ⟨w.heap.size, 1, none⟩ = some (.int .i64 1) := fun W h => mnew_later (by rw [hW1]; exact h) 1 rfl
        have c2 : ∀ W, Below W1.heap.size W1 W → W.cell? ⟨w.heap.size, 2, none⟩ = some (.int .i64 (hiI v)) := fun W h => mnew_later (by rw [hW1]; exact h) 2 rfl
        have c3 : ∀ W, Below W1.heap.size W1 W → W.cell? ⟨w.heap.size, 3, none⟩ = some (.int .u64 (loI v)) := fun W h => mnew_later (by rw [hW1]; exact h) 3 rfl
        have c4 : ∀ W, Below W1.heap.size W1 W → W.cell? ⟨w.heap.size, 4, none⟩ = some (.int .i64 le) := fun W h => mnew_later (by rw [hW1]; exact h) 4 rfl
        have c5 : ∀ W, Below W1.heap.size W1 W → W.cell? ⟨w.heap.size, 5, none⟩ = some (.int .i64 le) := fun W h => mnew_later (by rw [hW1]; exact h) 5 rfl
        have hb1 : Below w.heap.size w W1 := by rw [← hW1]; exact hb0
        have d0 := c0 W1 (Below.refl _ _)
        have d1 := c1 W1 (Below.refl _ _)
        have d4 := c4 W1 (Below.refl _ _)
        have d5 := c5 W1 (Below.refl _ _)
        clear hb0
        go_enter Try.func52, Try.ntmps52
        go_wp2
        go_region_held3 (fun w' => Below W1.heap.size W1 w') (first | assumption | exact (Below.refl _ _).drew | (refine mS_call ?_ ?_ ?_; assumption; assumption; rfl)) (first
          | (go_at_call 57; with_reducible refine (whole_any c 1 v le le _).mono ?_; rintro e wA ⟨rfl, hbA⟩; have hSA := mS_call hbA (by assumption) rfl)
          | (go_at_call 70; with_reducible refine (refOf_any le _ hle).mono ?_; rintro e wB ⟨rfl, hbB⟩; have hSB := mS_call hbB (by assumption) rfl))
        all_goals
          go_wp2
          go_ret
          exact ⟨by rw [Hr.out]; rfl, hb1.trans (Below.mono (B := W1.heap.size) (by assumption) hb1.size)⟩
      · have e2 := beq_no a3
        clear hr hne
        obtain ⟨W1, hW1⟩ : ∃ W1, w.alloc (.cells #[.int .i64 c, .int .i64 1, .int .i64 (hiI v), .int .u64 (loI v), .int .i64 le, .int .i64 le] 37) = W1 := ⟨_, rfl⟩
        have c0 : ∀ W, Below W1.heap.size W1 W → W.cell? ⟨w.heap.size, 0, none⟩ = some (.int .i64 c) := fun W h => mnew_later (by rw [hW1]; exact h) 0 rfl
        have c1 : ∀ W, Below W1.heap.size W1 W → W.cell? ⟨w.heap.size, 1, none⟩ = some (.int .i64 1) := fun W h => mnew_later (by rw [hW1]; exact h) 1 rfl
        have c2 : ∀ W, Below W1.heap.size W1 W → W.cell? ⟨w.heap.size, 2, none⟩ = some (.int .i64 (hiI v)) := fun W h => mnew_later (by rw [hW1]; exact h) 2 rfl
        have c3 : ∀ W, Below W1.heap.size W1 W → W.cell? ⟨w.heap.size, 3, none⟩ = some (.int .u64 (loI v)) := fun W h => mnew_later (by rw [hW1]; exact h) 3 rfl
        have c4 : ∀ W, Below W1.heap.size W1 W → W.cell? ⟨w.heap.size, 4, none⟩ = some (.int .i64 le) := fun W h => mnew_later (by rw [hW1]; exact h) 4 rfl
        have c5 : ∀ W, Below W1.heap.size W1 W → W.cell? ⟨w.heap.size, 5, none⟩ = some (.int .i64 le) := fun W h => mnew_later (by rw [hW1]; exact h) 5 rfl
        have hb1 : Below w.heap.size w W1 := by rw [← hW1]; exact hb0
        have d0 := c0 W1 (Below.refl _ _)
        have d1 := c1 W1 (Below.refl _ _)
        have d4 := c4 W1 (Below.refl _ _)
        have d5 := c5 W1 (Below.refl _ _)
        clear hb0
        go_enter Try.func52, Try.ntmps52
        go_wp2
        go_region_held3 (fun w' => Below W1.heap.size W1 w') (first | assumption | exact (Below.refl _ _).drew | (refine mS_call ?_ ?_ ?_; assumption; assumption; rfl)) (first
          | (go_at_call 57; with_reducible refine (whole_any c 1 v le le _).mono ?_; rintro e wA ⟨rfl, hbA⟩; have hSA := mS_call hbA (by assumption) rfl)
          | (go_at_call 70; with_reducible refine (refOf_any le _ hle).mono ?_; rintro e wB ⟨rfl, hbB⟩; have hSB := mS_call hbB (by assumption) rfl))
        all_goals
          go_wp2
          go_ret
          exact ⟨by rw [Hr.out]; rfl, hb1.trans (Below.mono (B := W1.heap.size) (by assumption) hb1.size)⟩
  · have Hr := Lib.hid (hr.trans (decide_eq_false (fun h => a1 h.1)))
    have e1 := beq_no a1
    clear hr
    go_enter Try.func52, Try.ntmps52
    go_wp2
    go_quiet (fail)
    go_wp2
    go_ret
    exact ⟨by rw [Hr.out]; rfl, below_drewN hb0 _⟩

theorem mright_any (c i v le mo : Int) (w : World) (hv : R128 v) (hle : R64 le) (hmo : R64 mo) :
    Calls Try.prog 52 #[.agg #[.int .i64 c, .int .i64 i, .int .i64 (hiI v), .int .u64 (loI v), .int .i64 le, .int .i64 mo]] w fun e w' => e = .returned (.bool (validB c i v le mo)) ∧ Below w.heap.size w w' := by
  rcases valid_cases c i v le mo with ⟨h, hr⟩ | ⟨⟨h0, h⟩, hr⟩ | ⟨⟨⟨h0, h1⟩, h⟩, hr⟩ | ⟨⟨⟨h0, h1⟩, h2, h⟩, hr⟩ | ⟨⟨⟨h0, h1⟩, h⟩, hr⟩ | ⟨⟨⟨h0, h1⟩, h2, h⟩, hr⟩ | ⟨⟨⟨h0, h1⟩, h2, h3⟩, hr⟩
  · rw [hr]; exact right_bad c i v le mo w (by omega)
  · rw [hr]; exact right_bad c i v le mo w (by omega)
  · rw [hr]; exact right_bad c i v le mo w (by omega)
  · rw [hr]; exact right_bad c i v le mo w (by omega)
  · subst h; exact right_zero c v le mo w hv h0 h1 hr
  · subst h; exact right_one c v le mo w hv hle h2 h1 hr
  · rw [hr]; exact right_big c i v le mo w hv hle hmo h2 h3 h1
end Go.Proofs.Ytnfohlabmidliaa
