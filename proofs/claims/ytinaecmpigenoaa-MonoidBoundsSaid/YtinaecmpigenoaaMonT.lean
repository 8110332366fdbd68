/-
  Layer 13: the reference's Times.
-/
import Derived.Test.YtinaecmpigenoaaMonR
import Derived.RegionTactic
import Derived.Deep.RegionWith
namespace Go.Proofs.Ytinaecmpigenoaa
open Go.RowKit
attribute [local go_sem ↓] Go.wp_at_zero Go.wp_at_succ

theorem two_alloc {w : World} {p q : Addr} {a b : Value} (o : Obj) (h : w.cell? p = some a ∧ w.cell? q = some b ∧ w.frozen? p = false ∧ w.frozen? q = false) :
    (w.alloc o).cell? p = some a ∧ (w.alloc o).cell? q = some b ∧ (w.alloc o).frozen? p = false ∧ (w.alloc o).frozen? q = false :=
  ⟨cell_keep h.1 o, cell_keep h.2.1 o, (frozen_keep h.1 o).trans h.2.2.1, (frozen_keep h.2.1 o).trans h.2.2.2⟩
theorem two_here (w : World) (a b : Value) (t : TypeId) :
    (w.alloc (.cells #[a, b] t)).cell? ⟨w.heap.size, 0, none⟩ = some a ∧ (w.alloc (.cells #[a, b] t)).cell? ⟨w.heap.size, 1, none⟩ = some b ∧ (w.alloc (.cells #[a, b] t)).frozen? ⟨w.heap.size, 0, none⟩ = false ∧ (w.alloc (.cells #[a, b] t)).frozen? ⟨w.heap.size, 1, none⟩ = false := by
  refine ⟨World.cell?_alloc_new w _ _ 0, World.cell?_alloc_new w _ _ 1, ?_, ?_⟩ <;> go_simp
theorem times_even (x n : Int) (h : n % 2 = 0) : x * (n / 2) + x * (n / 2) = x * n := by
  rw [← Int.mul_add]
  congr 1
  omega
theorem times_odd (x n : Int) (h : n % 2 = 1) : x * (n / 2) + x * (n / 2) + x = x * n := by
  have e : x * (n / 2) + x * (n / 2) + x = x * (n / 2 + n / 2 + 1) := by rw [Int.mul_add, Int.mul_add, Int.mul_one]
  rw [e]
  congr 1
  omega

set_option maxHeartbeats 2000000 in
theorem times_any (k : Nat) : ∀ (x n : Int) (w : World), n ≤ k → R64 x → 0 ≤ n → n ≤ 1073741824 →
    Calls Try.prog 29 #[.int .i64 x, .int .i64 n] w fun e w' => e = .returned (.agg #[.int .i64 (hiI (x * n)), .int .u64 (loI (x * n))]) ∧ Below w.heap.size w w' := by
  induction k with
  | zero =>
    intro x n w hk _ h0 _
    obtain rfl : n = 0 := by omega
    have Hr := Lib.hid (show (Value.agg #[.int .i64 (hiI (x * 0)), .int .u64 (loI (x * 0))]) = .agg #[.int .i64 0, .int .u64 0] by rw [Int.mul_zero, hl_zero.1, hl_zero.2])
    clear hk h0
    go_enter Try.func29, Try.ntmps29
    go_wp2_with fail
    exact bodyPost_ret (v := .agg #[.int .i64 0, .int .u64 0]) (by simp [results, Try.results29, go_sem]) rfl ⟨by rw [Hr.out], (Below.refl _ _).alloc (Nat.le_refl _) _⟩
  | succ k ih =>
    intro x n w hk hx h0 h1
    by_cases hz : n = 0
    · subst hz
      have Hr := Lib.hid (show (Value.agg #[.int .i64 (hiI (x * 0)), .int .u64 (loI (x * 0))]) = .agg #[.int .i64 0, .int .u64 0] by rw [Int.mul_zero, hl_zero.1, hl_zero.2])
      clear hk h0 ih
      go_enter Try.func29, Try.ntmps29
      go_wp2_with fail
      exact bodyPost_ret (v := .agg #[.int .i64 0, .int .u64 0]) (by simp [results, Try.results29, go_sem]) rfl ⟨by rw [Hr.out], (Below.refl _ _).alloc (Nat.le_refl _) _⟩
    · have hpos : 0 < n := by omega
      have hih := Lib.hid (fun W => ih x (n / 2) W (by omega) hx (by omega) (by omega))
      have hb0 := (Below.refl w.heap.size w).alloc (Nat.le_refl _) (.cells #[.int .i64 0, .int .u64 0] 66)
      clear hz ih hk
      by_cases hr : n % 2 = 1
      · have Ho := Lib.hid (times_odd x n hr)
        go_enter Try.func29, Try.ntmps29
        go_wp2_with fail
        refine (hih.out _).mono ?_
        rintro e w1 ⟨rfl, hb1⟩
        have jj := new_two hb1 rfl
        have hb01 := hb0.trans (hb1.mono hb0.size)
        have s01 := hb01.size
        clear hb0 hb1
        go_wp2_with fail
        refine (refAdd_any (x * (n / 2)) (x * (n / 2)) _).mono ?_
        rintro e w2 ⟨rfl, hb2⟩
        have sg2 : w.heap.size < w2.heap.size := World.block_lt_of_cell? w2 _ (keep_two hb2 rfl (two_alloc (.cells #[.int .i64 (hiI (x * (n / 2))), .int .u64 (loI (x * (n / 2)))] 66) jj)).1
        have hne1 : ¬ w2.heap.size = w.heap.size := by omega
        have hne2 : ¬ w.heap.size = w2.heap.size := by omega
        have jj := two_alloc (.cells #[.int .i64 (hiI (x * (n / 2) + x * (n / 2))), .int .u64 (loI (x * (n / 2) + x * (n / 2)))] 66) (keep_two hb2 rfl (two_alloc (.cells #[.int .i64 (hiI (x * (n / 2))), .int .u64 (loI (x * (n / 2)))] 66) jj))
        have hb02 := (hb01.alloc s01 (.cells #[.int .i64 (hiI (x * (n / 2))), .int .u64 (loI (x * (n / 2)))] 66)).trans (hb2.mono (by simp; omega))
        have hb03 := hb02.alloc hb02.size (.cells #[.int .i64 (hiI (x * (n / 2) + x * (n / 2))), .int .u64 (loI (x * (n / 2) + x * (n / 2)))] 66)
        have s03 := hb03.size
        have sg : w.heap.size ≤ w2.heap.size := hb02.size
        have kk := two_here w2 (.int .i64 (hiI (x * (n / 2) + x * (n / 2)))) (.int .u64 (loI (x * (n / 2) + x * (n / 2)))) 66
        obtain ⟨k0, k1, k2, k3⟩ := id kk
        obtain ⟨i0, i1, i2, i3⟩ := id jj
        clear hb2 hb01 hb02
        go_wp2_with fail
        generalize hW : w2.alloc (.cells #[.int .i64 (hiI (x * (n / 2) + x * (n / 2))), .int .u64 (loI (x * (n / 2) + x * (n / 2)))] 66) = W3 at *
        clear hW
        generalize hg : w2.heap.size = g at *
        go_region_with (first
          | (go_at_call 27; with_reducible refine (refOf_any x _ hx).mono ?_; rintro e wA ⟨rfl, hbA⟩; (first | (have jj := keep_two (below_undrew hbA) rfl jj) | (have jj := keep_two hbA rfl jj)); (first | (have kk := keep_two (below_undrew hbA) rfl kk) | (have kk := keep_two hbA rfl kk)); obtain ⟨k0, k1, k2, k3⟩ := id kk; obtain ⟨i0, i1, i2, i3⟩ := id jj)
          | (go_at_call 28; with_reducible refine (refAdd_any (x * (n / 2) + x * (n / 2)) x _).mono ?_; rintro e wB ⟨rfl, hbB⟩; (first | (have jj := keep_two (below_undrew hbB) rfl jj) | (have jj := keep_two hbB rfl jj)); (first | (have kk := keep_two (below_undrew hbB) rfl kk) | (have kk := keep_two hbB rfl kk)); obtain ⟨k0, k1, k2, k3⟩ := id kk; obtain ⟨i0, i1, i2, i3⟩ := id jj))
        all_goals
          have e1 := hb03.trans (Below.mono (below_undrew hbA) s03)
          have e2 := e1.trans (hbB.mono e1.size)
          go_wp2_with fail
          refine bodyPost_ret (v := .agg #[.int .i64 (hiI (x * n)), .int .u64 (loI (x * n))]) ?_ rfl ⟨rfl, (((e2.setCell (p := ⟨g, 0, none⟩) sg _).setCell (p := ⟨g, 1, none⟩) sg _).setCell (p := ⟨w.heap.size, 0, none⟩) (Nat.le_refl _) _).setCell (p := ⟨w.heap.size, 1, none⟩) (Nat.le_refl _) _⟩
          rw [← Ho.out]
          simp [results, Try.results29, go_sem, *]
      · have hr0 : n % 2 = 0 := by omega
        have Ho := Lib.hid (times_even x n hr0)
        have hq : (n % 2 == 1) = false := beq_eq_false_iff_ne.2 hr
        clear hr
        go_enter Try.func29, Try.ntmps29
        go_wp2_with fail
        refine (hih.out _).mono ?_
        rintro e w1 ⟨rfl, hb1⟩
        have jj := new_two hb1 rfl
        have hb01 := hb0.trans (hb1.mono hb0.size)
        have s01 := hb01.size
        clear hb0 hb1
        go_wp2_with fail
        refine (refAdd_any (x * (n / 2)) (x * (n / 2)) _).mono ?_
        rintro e w2 ⟨rfl, hb2⟩
        rw [Ho.out]
        have jj := two_alloc (.cells #[.int .i64 (hiI (x * n)), .int .u64 (loI (x * n))] 66) (keep_two hb2 rfl (two_alloc (.cells #[.int .i64 (hiI (x * (n / 2))), .int .u64 (loI (x * (n / 2)))] 66) jj))
        have hb02 := (hb01.alloc s01 (.cells #[.int .i64 (hiI (x * (n / 2))), .int .u64 (loI (x * (n / 2)))] 66)).trans (hb2.mono (by simp; omega))
        have hb03 := hb02.alloc hb02.size (.cells #[.int .i64 (hiI (x * n)), .int .u64 (loI (x * n))] 66)
        have s03 := hb03.size
        obtain ⟨i0, i1, i2, i3⟩ := id jj
        clear hb2 hb01 hb02
        go_wp2_with fail
        refine bodyPost_ret (v := .agg #[.int .i64 (hiI (x * n)), .int .u64 (loI (x * n))]) ?_ rfl ⟨rfl, (hb03.setCell (p := ⟨w.heap.size, 0, none⟩) (Nat.le_refl _) _).setCell (p := ⟨w.heap.size, 1, none⟩) (Nat.le_refl _) _⟩
        simp [results, Try.results29, go_sem, *]
end Go.Proofs.Ytinaecmpigenoaa
