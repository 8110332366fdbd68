/-
  Layer 13: the reference's Right.
-/
import Derived.Test.YtinaecmpigenoaaMonT
import Derived.Test.YtinaecmpigenoaaMonW
import Derived.RegionTactic
import Derived.Deep.RegionWith
namespace Go.Proofs.Ytinaecmpigenoaa
open Go.RowKit
attribute [local go_sem ↓] Go.wp_at_zero Go.wp_at_succ

set_option maxRecDepth 20000 in
set_option maxHeartbeats 2000000 in
theorem right_big (c i v le mo : Int) (w : World) (hv : R128 v) (hle : R64 le) (hmo : R64 mo) (h2 : 2 ≤ i) (h3 : i ≤ c) (h4 : c ≤ 1073741824) :
    Calls Try.prog 10 #[.agg #[.int .i64 c, .int .i64 i, .int .i64 (hiI v), .int .u64 (loI v), .int .i64 le, .int .i64 mo]] w fun e w' => e = .returned (.bool (decide (le ≤ mo) && (decide (le + mo + le * (i - 2) ≤ v) && decide (v ≤ le + mo + mo * (i - 2))))) ∧ Below w.heap.size w w' := by
  have hb0 := (Below.refl w.heap.size w).alloc (Nat.le_refl _) (.cells #[.int .i64 c, .int .i64 i, .int .i64 (hiI v), .int .u64 (loI v), .int .i64 le, .int .i64 mo] 24)
  have hd : decide (c < i) = false := decide_eq_false (by omega)
  have e0 : (i == 0) = false := beq_no (by omega)
  have e1 : (i == 1) = false := beq_no (by omega)
  obtain ⟨W1, hW1⟩ : ∃ W1, w.alloc (.cells #[.int .i64 c, .int .i64 i, .int .i64 (hiI v), .int .u64 (loI v), .int .i64 le, .int .i64 mo] 24) = W1 := ⟨_, rfl⟩
  have hb1 : Below w.heap.size w W1 := by rw [← hW1]; exact hb0
  have c0 : ∀ W, Below W1.heap.size W1 W → W.cell? ⟨w.heap.size, 0, none⟩ = some (.int .i64 c) := fun W h => new_later (by rw [hW1]; exact h) 0 rfl
  have c1 : ∀ W, Below W1.heap.size W1 W → W.cell? ⟨w.heap.size, 1, none⟩ = some (.int .i64 i) := fun W h => new_later (by rw [hW1]; exact h) 1 rfl
  have c2 : ∀ W, Below W1.heap.size W1 W → W.cell? ⟨w.heap.size, 2, none⟩ = some (.int .i64 (hiI v)) := fun W h => new_later (by rw [hW1]; exact h) 2 rfl
  have c3 : ∀ W, Below W1.heap.size W1 W → W.cell? ⟨w.heap.size, 3, none⟩ = some (.int .u64 (loI v)) := fun W h => new_later (by rw [hW1]; exact h) 3 rfl
  have c4 : ∀ W, Below W1.heap.size W1 W → W.cell? ⟨w.heap.size, 4, none⟩ = some (.int .i64 le) := fun W h => new_later (by rw [hW1]; exact h) 4 rfl
  have c5 : ∀ W, Below W1.heap.size W1 W → W.cell? ⟨w.heap.size, 5, none⟩ = some (.int .i64 mo) := fun W h => new_later (by rw [hW1]; exact h) 5 rfl
  have d0 := c0 W1 (Below.refl _ _)
  have d1 := c1 W1 (Below.refl _ _)
  have d2 := c2 W1 (Below.refl _ _)
  have d3 := c3 W1 (Below.refl _ _)
  have d4 := c4 W1 (Below.refl _ _)
  have d5 := c5 W1 (Below.refl _ _)
  clear hb0
  have ht0 : 0 ≤ i - 2 := by omega
  have ht1 : i - 2 ≤ 1073741824 := by omega
  have hw2 : IntKind.i64.wrap (i - 2) = i - 2 := by rw [IntKind.wrap_i64]; omega
  have htm : ∀ (x : Int), R64 x → ∀ W, Calls Try.prog 29 #[.int .i64 x, .int .i64 (i - 2)] W fun e w' => e = .returned (.agg #[.int .i64 (hiI (x * (i - 2))), .int .u64 (loI (x * (i - 2)))]) ∧ Below W.heap.size W w' := fun x hx W => times_any (i - 2).toNat x (i - 2) W (by omega) hx ht0 ht1
  have Htm := Lib.hid htm
  clear htm
  go_enter Try.func10, Try.ntmps10
  go_wp2_with fail
  clear hW1 d0 d1 d2 d3 d4 d5
  go_upto_region 7 with fail
  go_cut [3] (fun s3 wx => ∃ g : Nat, s3 = .pointer (some ⟨g, 0, none⟩) ∧ Below W1.heap.size W1 wx ∧ wx.cell? ⟨g, 0, none⟩ = some (.int .i64 (hiI (le + mo))) ∧ wx.cell? ⟨g, 1, none⟩ = some (.int .u64 (loI (le + mo))))
  case first =>
    go_region_held3 (fun w' => Below W1.heap.size W1 w') (first | assumption | exact (Below.refl _ _).drew | exact ((Below.refl _ _).alloc (Nat.le_refl _) _).drew | (refine S_alloc ?_; assumption) | (refine S_call ?_ ?_ ?_; assumption; assumption; rfl) | (refine S_set2 ?_ ?_; assumption; first | exact Nat.le_refl _ | exact Below.size (by assumption))) (first
      | (go_at_call 27; with_reducible refine (refOf_any le _ hle).mono ?_; rintro e wA ⟨rfl, hbA⟩; have hSA := S_call hbA (by assumption) rfl; (first | (have kk := keep_two hbA rfl kk; obtain ⟨k0, k1, f0, f1⟩ := id kk) | (have kk := new_two hbA rfl; obtain ⟨k0, k1, f0, f1⟩ := id kk) | (have kk := new_two (below_undrew hbA) rfl; obtain ⟨k0, k1, f0, f1⟩ := id kk) | skip))
      | (go_at_call 27; with_reducible refine (refOf_any mo _ hmo).mono ?_; rintro e wB ⟨rfl, hbB⟩; have hSB := S_call hbB (by assumption) rfl; (first | (have kk := keep_two hbB rfl kk; obtain ⟨k0, k1, f0, f1⟩ := id kk) | (have kk := new_two hbB rfl; obtain ⟨k0, k1, f0, f1⟩ := id kk) | (have kk := new_two (below_undrew hbB) rfl; obtain ⟨k0, k1, f0, f1⟩ := id kk) | skip))
      | (go_at_call 28; with_reducible refine (refAdd_any le mo _).mono ?_; rintro e wC ⟨rfl, hbC⟩; have hSC := S_call hbC (by assumption) rfl; (first | (have kk := keep_two hbC rfl kk; obtain ⟨k0, k1, f0, f1⟩ := id kk) | (have kk := new_two hbC rfl; obtain ⟨k0, k1, f0, f1⟩ := id kk) | (have kk := new_two (below_undrew hbC) rfl; obtain ⟨k0, k1, f0, f1⟩ := id kk) | skip)))
    all_goals
      go_wp2_with fail
      go_meet
      case rel => exact ⟨_, rfl, by assumption, by go_simp, by go_simp⟩
  case rest =>
    obtain ⟨g3, rfl, hb2, d0, d1⟩ := hcut
    have d0 : ∀ W, Below wc.heap.size wc W → W.cell? ⟨g3, 0, none⟩ = some (.int .i64 (hiI (le + mo))) := fun W h => kept_later h d0
    have d1 : ∀ W, Below wc.heap.size wc W → W.cell? ⟨g3, 1, none⟩ = some (.int .u64 (loI (le + mo))) := fun W h => kept_later h d1
    have c0 : ∀ W, Below wc.heap.size wc W → W.cell? ⟨w.heap.size, 0, none⟩ = some (.int .i64 c) := fun W h => c0 W (hb2.trans (h.mono hb2.size))
    have c1 : ∀ W, Below wc.heap.size wc W → W.cell? ⟨w.heap.size, 1, none⟩ = some (.int .i64 i) := fun W h => c1 W (hb2.trans (h.mono hb2.size))
    have c2 : ∀ W, Below wc.heap.size wc W → W.cell? ⟨w.heap.size, 2, none⟩ = some (.int .i64 (hiI v)) := fun W h => c2 W (hb2.trans (h.mono hb2.size))
    have c3 : ∀ W, Below wc.heap.size wc W → W.cell? ⟨w.heap.size, 3, none⟩ = some (.int .u64 (loI v)) := fun W h => c3 W (hb2.trans (h.mono hb2.size))
    have c4 : ∀ W, Below wc.heap.size wc W → W.cell? ⟨w.heap.size, 4, none⟩ = some (.int .i64 le) := fun W h => c4 W (hb2.trans (h.mono hb2.size))
    have c5 : ∀ W, Below wc.heap.size wc W → W.cell? ⟨w.heap.size, 5, none⟩ = some (.int .i64 mo) := fun W h => c5 W (hb2.trans (h.mono hb2.size))
    have hb1 := hb1.trans (hb2.mono hb1.size)
    clear hb2
    obtain ⟨W2, hW2⟩ : ∃ W2, W2 = wc := ⟨_, rfl⟩
    subst hW2
    go_upto_region 8 with fail
    go_cut [4] (fun s3 wx => ∃ g : Nat, s3 = .pointer (some ⟨g, 0, none⟩) ∧ Below W2.heap.size W2 wx ∧ wx.cell? ⟨g, 0, none⟩ = some (.int .i64 (hiI (le + mo + le * (i - 2)))) ∧ wx.cell? ⟨g, 1, none⟩ = some (.int .u64 (loI (le + mo + le * (i - 2)))))
    case first =>
      go_region_held3 (fun w' => Below W2.heap.size W2 w') (first | assumption | exact (Below.refl _ _).drew | exact ((Below.refl _ _).alloc (Nat.le_refl _) _).drew | (refine S_alloc ?_; assumption) | (refine S_call ?_ ?_ ?_; assumption; assumption; rfl) | (refine S_set2 ?_ ?_; assumption; first | exact Nat.le_refl _ | exact Below.size (by assumption))) (first
        | (go_at_call 29; with_reducible refine (Htm.out le hle _).mono ?_; rintro e wA ⟨rfl, hbA⟩; have hSA := S_call hbA (by assumption) rfl; (first | (have kk := keep_two hbA rfl kk; obtain ⟨k0, k1, f0, f1⟩ := id kk) | (have kk := new_two hbA rfl; obtain ⟨k0, k1, f0, f1⟩ := id kk) | (have kk := new_two (below_undrew hbA) rfl; obtain ⟨k0, k1, f0, f1⟩ := id kk) | skip))
        | (go_at_call 28; with_reducible refine (refAdd_any (le + mo) (le * (i - 2)) _).mono ?_; rintro e wC ⟨rfl, hbC⟩; have hSC := S_call hbC (by assumption) rfl; (first | (have kk := keep_two hbC rfl kk; obtain ⟨k0, k1, f0, f1⟩ := id kk) | (have kk := new_two hbC rfl; obtain ⟨k0, k1, f0, f1⟩ := id kk) | (have kk := new_two (below_undrew hbC) rfl; obtain ⟨k0, k1, f0, f1⟩ := id kk) | skip)))
      all_goals
        go_wp2_with fail
        go_meet
        case rel => exact ⟨_, rfl, by assumption, by go_simp, by go_simp⟩
    case rest =>
      obtain ⟨g4, rfl, hb3, e0, e1⟩ := hcut
      have e0 : ∀ W, Below wc.heap.size wc W → W.cell? ⟨g4, 0, none⟩ = some (.int .i64 (hiI (le + mo + le * (i - 2)))) := fun W h => kept_later h e0
      have e1 : ∀ W, Below wc.heap.size wc W → W.cell? ⟨g4, 1, none⟩ = some (.int .u64 (loI (le + mo + le * (i - 2)))) := fun W h => kept_later h e1
      have d0 : ∀ W, Below wc.heap.size wc W → W.cell? ⟨g3, 0, none⟩ = some (.int .i64 (hiI (le + mo))) := fun W h => d0 W (hb3.trans (h.mono hb3.size))
      have d1 : ∀ W, Below wc.heap.size wc W → W.cell? ⟨g3, 1, none⟩ = some (.int .u64 (loI (le + mo))) := fun W h => d1 W (hb3.trans (h.mono hb3.size))
      have c0 : ∀ W, Below wc.heap.size wc W → W.cell? ⟨w.heap.size, 0, none⟩ = some (.int .i64 c) := fun W h => c0 W (hb3.trans (h.mono hb3.size))
      have c1 : ∀ W, Below wc.heap.size wc W → W.cell? ⟨w.heap.size, 1, none⟩ = some (.int .i64 i) := fun W h => c1 W (hb3.trans (h.mono hb3.size))
      have c2 : ∀ W, Below wc.heap.size wc W → W.cell? ⟨w.heap.size, 2, none⟩ = some (.int .i64 (hiI v)) := fun W h => c2 W (hb3.trans (h.mono hb3.size))
      have c3 : ∀ W, Below wc.heap.size wc W → W.cell? ⟨w.heap.size, 3, none⟩ = some (.int .u64 (loI v)) := fun W h => c3 W (hb3.trans (h.mono hb3.size))
      have c4 : ∀ W, Below wc.heap.size wc W → W.cell? ⟨w.heap.size, 4, none⟩ = some (.int .i64 le) := fun W h => c4 W (hb3.trans (h.mono hb3.size))
      have c5 : ∀ W, Below wc.heap.size wc W → W.cell? ⟨w.heap.size, 5, none⟩ = some (.int .i64 mo) := fun W h => c5 W (hb3.trans (h.mono hb3.size))
      have hb1 := hb1.trans (hb3.mono hb1.size)
      clear hb3
      obtain ⟨W3, hW3⟩ : ∃ W3, W3 = wc := ⟨_, rfl⟩
      subst hW3
      go_upto_region 9 with fail
      go_cut [5] (fun s3 wx => ∃ g : Nat, s3 = .pointer (some ⟨g, 0, none⟩) ∧ Below W3.heap.size W3 wx ∧ wx.cell? ⟨g, 0, none⟩ = some (.int .i64 (hiI (le + mo + mo * (i - 2)))) ∧ wx.cell? ⟨g, 1, none⟩ = some (.int .u64 (loI (le + mo + mo * (i - 2)))))
      case first =>
        go_region_held3 (fun w' => Below W3.heap.size W3 w') (first | assumption | exact (Below.refl _ _).drew | exact ((Below.refl _ _).alloc (Nat.le_refl _) _).drew | (refine S_alloc ?_; assumption) | (refine S_call ?_ ?_ ?_; assumption; assumption; rfl) | (refine S_set2 ?_ ?_; assumption; first | exact Nat.le_refl _ | exact Below.size (by assumption))) (first
          | (go_at_call 29; with_reducible refine (Htm.out mo hmo _).mono ?_; rintro e wA ⟨rfl, hbA⟩; have hSA := S_call hbA (by assumption) rfl; (first | (have kk := keep_two hbA rfl kk; obtain ⟨k0, k1, f0, f1⟩ := id kk) | (have kk := new_two hbA rfl; obtain ⟨k0, k1, f0, f1⟩ := id kk) | (have kk := new_two (below_undrew hbA) rfl; obtain ⟨k0, k1, f0, f1⟩ := id kk) | skip))
          | (go_at_call 28; with_reducible refine (refAdd_any (le + mo) (mo * (i - 2)) _).mono ?_; rintro e wC ⟨rfl, hbC⟩; have hSC := S_call hbC (by assumption) rfl; (first | (have kk := keep_two hbC rfl kk; obtain ⟨k0, k1, f0, f1⟩ := id kk) | (have kk := new_two hbC rfl; obtain ⟨k0, k1, f0, f1⟩ := id kk) | (have kk := new_two (below_undrew hbC) rfl; obtain ⟨k0, k1, f0, f1⟩ := id kk) | skip)))
        all_goals
          go_wp2_with fail
          go_meet
          case rel => exact ⟨_, rfl, by assumption, by go_simp, by go_simp⟩
      case rest =>
        obtain ⟨g5, rfl, hb4, f0, f1⟩ := hcut
        have f0 : ∀ W, Below wc.heap.size wc W → W.cell? ⟨g5, 0, none⟩ = some (.int .i64 (hiI (le + mo + mo * (i - 2)))) := fun W h => kept_later h f0
        have f1 : ∀ W, Below wc.heap.size wc W → W.cell? ⟨g5, 1, none⟩ = some (.int .u64 (loI (le + mo + mo * (i - 2)))) := fun W h => kept_later h f1
        have e0 : ∀ W, Below wc.heap.size wc W → W.cell? ⟨g4, 0, none⟩ = some (.int .i64 (hiI (le + mo + le * (i - 2)))) := fun W h => e0 W (hb4.trans (h.mono hb4.size))
        have e1 : ∀ W, Below wc.heap.size wc W → W.cell? ⟨g4, 1, none⟩ = some (.int .u64 (loI (le + mo + le * (i - 2)))) := fun W h => e1 W (hb4.trans (h.mono hb4.size))
        have c0 : ∀ W, Below wc.heap.size wc W → W.cell? ⟨w.heap.size, 0, none⟩ = some (.int .i64 c) := fun W h => c0 W (hb4.trans (h.mono hb4.size))
        have c1 : ∀ W, Below wc.heap.size wc W → W.cell? ⟨w.heap.size, 1, none⟩ = some (.int .i64 i) := fun W h => c1 W (hb4.trans (h.mono hb4.size))
        have c2 : ∀ W, Below wc.heap.size wc W → W.cell? ⟨w.heap.size, 2, none⟩ = some (.int .i64 (hiI v)) := fun W h => c2 W (hb4.trans (h.mono hb4.size))
        have c3 : ∀ W, Below wc.heap.size wc W → W.cell? ⟨w.heap.size, 3, none⟩ = some (.int .u64 (loI v)) := fun W h => c3 W (hb4.trans (h.mono hb4.size))
        have c4 : ∀ W, Below wc.heap.size wc W → W.cell? ⟨w.heap.size, 4, none⟩ = some (.int .i64 le) := fun W h => c4 W (hb4.trans (h.mono hb4.size))
        have c5 : ∀ W, Below wc.heap.size wc W → W.cell? ⟨w.heap.size, 5, none⟩ = some (.int .i64 mo) := fun W h => c5 W (hb4.trans (h.mono hb4.size))
        have hb1 := hb1.trans (hb4.mono hb1.size)
        have s1 := hb1.size
        clear hb4 d0 d1 hw2 Htm
        have l1 := mul_bound le (i - 2) hle ht0 ht1
        have l2 := mul_bound mo (i - 2) hmo ht0 ht1
        have r1 : R128 (le + mo + le * (i - 2)) := by unfold R64 at hle hmo; unfold R128; omega
        have r2 : R128 (le + mo + mo * (i - 2)) := by unfold R64 at hle hmo; unfold R128; omega
        clear l1 l2
        obtain ⟨low, hlow⟩ : ∃ low, low = le + mo + le * (i - 2) := ⟨_, rfl⟩
        obtain ⟨high, hhigh⟩ : ∃ high, high = le + mo + mo * (i - 2) := ⟨_, rfl⟩
        rw [← hlow] at e0 e1 r1
        rw [← hhigh] at f0 f1 r2
        have Hlow := Lib.hid hlow
        have Hhigh := Lib.hid hhigh
        clear hlow hhigh
        obtain ⟨W4, hW4⟩ : ∃ W4, W4 = wc := ⟨_, rfl⟩
        subst hW4
        by_cases a1 : le ≤ mo
        · have hle1 : decide (le ≤ mo) = true := decide_eq_true a1
          by_cases h1 : v < low
          · have Hr := Lib.hid (show (decide (le ≤ mo) && (decide (le + mo + le * (i - 2) ≤ v) && decide (v ≤ le + mo + mo * (i - 2)))) = false by rw [← Hlow.out, decide_eq_false (p := low ≤ v) (by omega), Bool.false_and, Bool.and_false])
            have Hd := Lib.hid (show decide (v < low) = true from decide_eq_true h1)
            have hll : ∀ W, Calls Try.prog 30 #[.agg #[.int .i64 (hiI v), .int .u64 (loI v)], .agg #[.int .i64 (hiI low), .int .u64 (loI low)]] W fun e w' => e = .returned (.bool true) ∧ Below W.heap.size W w' := fun W => (refLess_any v low W hv r1).mono fun e w' h => ⟨by rw [h.1, Hd.out], h.2⟩
            have Hll := Lib.hid hll
            clear h1 hll
            go_wp2_with fail
            have hS0 : Below W4.heap.size W4 W4.drew := (Below.refl _ _).drew
            go_region_with (first
              | (go_at_call 26; with_reducible refine (whole_any c i v le mo _).mono ?_; rintro e wA ⟨rfl, hbA⟩; have hSA := S_call hbA hS0 rfl)
              | (go_at_call 30; with_reducible refine (Hll.out _).mono ?_; rintro e wB ⟨rfl, hbB⟩; have hSB := S_call hbB hSA rfl))
            all_goals
              go_wp2
              go_ret
              exact ⟨by rw [Hr.out]; rfl, hb1.trans (hSB.mono s1)⟩
          · obtain ⟨z, Hz⟩ : ∃ z, Hid (decide (high < v) = z) := ⟨_, Lib.hid rfl⟩
            have Hr := Lib.hid (show (decide (le ≤ mo) && (decide (le + mo + le * (i - 2) ≤ v) && decide (v ≤ le + mo + mo * (i - 2)))) = !z by
              rw [← Hlow.out, ← Hhigh.out, ← Hz.out, hle1, Bool.true_and, decide_eq_true (p := low ≤ v) (by omega), Bool.true_and]
              by_cases h2 : high < v
              · rw [decide_eq_true h2, decide_eq_false (by omega)]; rfl
              · rw [decide_eq_false h2, decide_eq_true (by omega)]; rfl)
            have Hd := Lib.hid (show decide (v < low) = false from decide_eq_false h1)
            have hll : ∀ W, Calls Try.prog 30 #[.agg #[.int .i64 (hiI v), .int .u64 (loI v)], .agg #[.int .i64 (hiI low), .int .u64 (loI low)]] W fun e w' => e = .returned (.bool false) ∧ Below W.heap.size W w' := fun W => (refLess_any v low W hv r1).mono fun e w' h => ⟨by rw [h.1, Hd.out], h.2⟩
            have hlh : ∀ W, Calls Try.prog 30 #[.agg #[.int .i64 (hiI high), .int .u64 (loI high)], .agg #[.int .i64 (hiI v), .int .u64 (loI v)]] W fun e w' => e = .returned (.bool z) ∧ Below W.heap.size W w' := fun W => (refLess_any high v W r2 hv).mono fun e w' h => ⟨by rw [h.1, Hz.out], h.2⟩
            have Hll := Lib.hid hll
            have Hlh := Lib.hid hlh
            clear h1 hll hlh
            go_wp2_with fail
            go_region_held3 (fun w' => Below W4.heap.size W4 w') (first | assumption | exact (Below.refl _ _).drew | (refine S_call ?_ ?_ ?_; assumption; assumption; rfl)) (first
              | (go_at_call 26; with_reducible refine (whole_any c i v le mo _).mono ?_; rintro e wA ⟨rfl, hbA⟩; have hSA := S_call hbA (by assumption) rfl)
              | (go_at_call 30; with_reducible refine (Hll.out _).mono ?_; rintro e wB ⟨rfl, hbB⟩; have hSB := S_call hbB (by assumption) rfl)
              | (go_at_call 30; with_reducible refine (Hlh.out _).mono ?_; rintro e wC ⟨rfl, hbC⟩; have hSC := S_call hbC (by assumption) rfl))
            all_goals
              go_wp2
              go_ret
              exact ⟨by rw [Hr.out]; rfl, hb1.trans (Below.mono (B := W4.heap.size) (by assumption) s1)⟩
        · have Hr := Lib.hid (show (decide (le ≤ mo) && (decide (le + mo + le * (i - 2) ≤ v) && decide (v ≤ le + mo + mo * (i - 2)))) = false by rw [decide_eq_false a1, Bool.false_and])
          have hle1 : decide (le ≤ mo) = false := decide_eq_false a1
          go_wp2_with fail
          have c4' := c4 W4 (Below.refl _ _)
          have c5' := c5 W4 (Below.refl _ _)
          go_quiet (fail)
          go_wp2
          go_ret
          exact ⟨by rw [Hr.out]; rfl, below_drewN hb1 _⟩
end Go.Proofs.Ytinaecmpigenoaa
