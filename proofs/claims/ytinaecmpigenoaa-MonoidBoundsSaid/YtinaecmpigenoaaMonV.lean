/-
  Package monoid: which reductions may be.
-/
import Derived.Test.YtinaecmpigenoaaMonS
import Derived.Deep.DeepCutAuto
namespace Go.Proofs.Ytinaecmpigenoaa
open Go.RowKit
attribute [local go_sem ↓] Go.wp_at_zero Go.wp_at_succ

theorem new_later {w w1 : World} {C : Array Value} {t : TypeId} (hb : Below (w.alloc (.cells C t)).heap.size (w.alloc (.cells C t)) w1) (k : Nat) {v : Value} (hk : C[k]? = some v) : w1.cell? ⟨w.heap.size, k, none⟩ = some v :=
  (hb.cell (p := ⟨w.heap.size, k, none⟩) (by simp)).trans ((World.cell?_alloc_new w C t k).trans hk)
theorem kept_later {w w1 : World} (hb : Below w.heap.size w w1) {p : Addr} {v : Value} (h : w.cell? p = some v) : w1.cell? p = some v :=
  (hb.cell (p := p) (World.block_lt_of_cell? w _ h)).trans h
theorem S_call {W0 w1 w2 : World} {B : Nat} (hb : Below B w1 w2) (h : Below W0.heap.size W0 w1) (hB : B = w1.heap.size) : Below W0.heap.size W0 w2 := h.trans (hb.mono (by rw [hB]; exact h.size))
theorem new_two {w w1 : World} {a b : Value} {t : TypeId} {B : Nat} (hb : Below B (w.alloc (.cells #[a, b] t)) w1) (hB : B = (w.alloc (.cells #[a, b] t)).heap.size) :
    w1.cell? ⟨w.heap.size, 0, none⟩ = some a ∧ w1.cell? ⟨w.heap.size, 1, none⟩ = some b ∧ w1.frozen? ⟨w.heap.size, 0, none⟩ = false ∧ w1.frozen? ⟨w.heap.size, 1, none⟩ = false := by
  subst hB
  refine ⟨new_later hb 0 rfl, new_later hb 1 rfl, ?_, ?_⟩
  · rw [hb.frozen (p := ⟨w.heap.size, 0, none⟩) (by simp)]; go_simp
  · rw [hb.frozen (p := ⟨w.heap.size, 1, none⟩) (by simp)]; go_simp
theorem keep_two {w w1 : World} {p q : Addr} {a b : Value} {B : Nat} (hb : Below B w w1) (hB : B = w.heap.size) (h : w.cell? p = some a ∧ w.cell? q = some b ∧ w.frozen? p = false ∧ w.frozen? q = false) :
    w1.cell? p = some a ∧ w1.cell? q = some b ∧ w1.frozen? p = false ∧ w1.frozen? q = false := by
  subst hB
  exact ⟨kept_later hb h.1, kept_later hb h.2.1, (hb.frozen (World.block_lt_of_cell? w _ h.1)).trans h.2.2.1, (hb.frozen (World.block_lt_of_cell? w _ h.2.1)).trans h.2.2.2⟩
theorem S_set2 {W0 w1 : World} {g : Nat} {a b : Nat} {x y : Value} (h : Below W0.heap.size W0 w1) (hg : W0.heap.size ≤ g) : Below W0.heap.size W0 ((w1.setCell ⟨g, a, none⟩ x).setCell ⟨g, b, none⟩ y) := (h.setCell hg x).setCell hg y
theorem S_alloc {W0 w1 : World} {o : Obj} (h : Below W0.heap.size W0 w1) : Below W0.heap.size W0 (w1.alloc o) := h.alloc h.size _

theorem plus_agg (a b : Int) (w : World) : Calls Try.prog 42 #[.agg #[.int .i64 (hiI a), .int .u64 (loI a)], sumV b] w fun e w' => e = .returned (.agg #[.int .i64 (hiI (a + b)), .int .u64 (loI (a + b))]) ∧ Below w.heap.size w w' := plus_any a b w
theorem less_agg (a b : Int) (w : World) (ha : R128 a) (hb : R128 b) : Calls Try.prog 52 #[.agg #[.int .i64 (hiI a), .int .u64 (loI a)], .agg #[.int .i64 (hiI b), .int .u64 (loI b)]] w fun e w' => e = .returned (.bool (decide (a < b))) ∧ Below w.heap.size w w' := less_any a b w ha hb
theorem total_agg (c i v le mo : Int) (w : World) : Calls Try.prog 35 #[.agg #[.int .i64 c, .int .i64 i, .int .i64 (hiI v), .int .u64 (loI v), .int .i64 le, .int .i64 mo]] w fun e w' => e = .returned (.agg #[.int .i64 (hiI v), .int .u64 (loI v)]) ∧ Below w.heap.size w w' := total_any c i v le mo w
theorem sumOf_agg (n : Int) (w : World) (h : R64 n) : Calls Try.prog 31 #[.int .i64 n] w fun e w' => e = .returned (.agg #[.int .i64 (hiI n), .int .u64 (loI n)]) ∧ Below w.heap.size w w' := sumOf_any n w h

set_option maxRecDepth 20000 in
set_option maxHeartbeats 2000000 in
theorem between_any (c i v le mo : Int) (w : World) (hv : R128 v) (hle : R64 le) (hmo : R64 mo) (i0 : 2 ≤ i) (i1 : i ≤ 1073741824) :
    Calls Try.prog 41 #[redV c i v le mo] w fun e w' => e = .returned (.bool (decide (le + mo + le * (i - 2) ≤ v) && decide (v ≤ le + mo + mo * (i - 2)))) ∧ Below w.heap.size w w' := by
  obtain ⟨W1, hW1⟩ : ∃ W1, w.alloc (.cells #[.int .i64 c, .int .i64 i, .int .i64 (hiI v), .int .u64 (loI v), .int .i64 le, .int .i64 mo] 24) = W1 := ⟨_, rfl⟩
  have hb1 : Below w.heap.size w W1 := by rw [← hW1]; exact (Below.refl _ _).alloc (Nat.le_refl _) _
  have c0 : ∀ W, Below W1.heap.size W1 W → W.cell? ⟨w.heap.size, 0, none⟩ = some (.int .i64 c) := fun W h => new_later (by rw [hW1]; exact h) 0 rfl
  have c1 : ∀ W, Below W1.heap.size W1 W → W.cell? ⟨w.heap.size, 1, none⟩ = some (.int .i64 i) := fun W h => new_later (by rw [hW1]; exact h) 1 rfl
  have c2 : ∀ W, Below W1.heap.size W1 W → W.cell? ⟨w.heap.size, 2, none⟩ = some (.int .i64 (hiI v)) := fun W h => new_later (by rw [hW1]; exact h) 2 rfl
  have c3 : ∀ W, Below W1.heap.size W1 W → W.cell? ⟨w.heap.size, 3, none⟩ = some (.int .u64 (loI v)) := fun W h => new_later (by rw [hW1]; exact h) 3 rfl
  have c4 : ∀ W, Below W1.heap.size W1 W → W.cell? ⟨w.heap.size, 4, none⟩ = some (.int .i64 le) := fun W h => new_later (by rw [hW1]; exact h) 4 rfl
  have c5 : ∀ W, Below W1.heap.size W1 W → W.cell? ⟨w.heap.size, 5, none⟩ = some (.int .i64 mo) := fun W h => new_later (by rw [hW1]; exact h) 5 rfl
  unfold redV
  go_enter Try.func41, Try.ntmps41
  go_wp2_with fail
  clear hW1
  go_upto_region 1 with fail
  go_cut [3] (fun s3 wx => ∃ g : Nat, s3 = .pointer (some ⟨g, 0, none⟩) ∧ Below W1.heap.size W1 wx ∧ wx.cell? ⟨g, 0, none⟩ = some (.int .i64 (hiI (le + mo))) ∧ wx.cell? ⟨g, 1, none⟩ = some (.int .u64 (loI (le + mo))))
  case first =>
    go_region_held3 (fun w' => Below W1.heap.size W1 w') (first | assumption | exact (Below.refl _ _).drew | exact ((Below.refl _ _).alloc (Nat.le_refl _) _).drew | (refine S_alloc ?_; assumption) | (refine S_call ?_ ?_ ?_; assumption; assumption; rfl) | (refine S_set2 ?_ ?_; assumption; first | exact Nat.le_refl _ | exact Below.size (by assumption))) (first
      | (go_at_call 31; with_reducible refine (sumOf_any le _ hle).mono ?_; rintro e wA ⟨rfl, hbA⟩; have hSA := S_call hbA (by assumption) rfl; (first | (have kk := keep_two hbA rfl kk; obtain ⟨k0, k1, f0, f1⟩ := id kk) | (have kk := new_two hbA rfl; obtain ⟨k0, k1, f0, f1⟩ := id kk) | (have kk := new_two (below_undrew hbA) rfl; obtain ⟨k0, k1, f0, f1⟩ := id kk) | skip))
      | (go_at_call 31; with_reducible refine (sumOf_any mo _ hmo).mono ?_; rintro e wB ⟨rfl, hbB⟩; have hSB := S_call hbB (by assumption) rfl; (first | (have kk := keep_two hbB rfl kk; obtain ⟨k0, k1, f0, f1⟩ := id kk) | (have kk := new_two hbB rfl; obtain ⟨k0, k1, f0, f1⟩ := id kk) | (have kk := new_two (below_undrew hbB) rfl; obtain ⟨k0, k1, f0, f1⟩ := id kk) | skip))
      | (go_at_call 42; with_reducible refine (plus_any le mo _).mono ?_; rintro e wC ⟨rfl, hbC⟩; have hSC := S_call hbC (by assumption) rfl; (first | (have kk := keep_two hbC rfl kk; obtain ⟨k0, k1, f0, f1⟩ := id kk) | (have kk := new_two hbC rfl; obtain ⟨k0, k1, f0, f1⟩ := id kk) | (have kk := new_two (below_undrew hbC) rfl; obtain ⟨k0, k1, f0, f1⟩ := id kk) | skip); unfold sumV))
    all_goals
      go_wp2_with fail
      go_meet
      case rel => exact ⟨_, rfl, by assumption, by go_simp, by go_simp⟩
  case rest =>
    obtain ⟨g3, rfl, hb2, d0, d1⟩ := hcut
    have d0 : ∀ W, Below wc.heap.size wc W → W.cell? ⟨g3, 0, none⟩ = some (.int .i64 (hiI (le + mo))) := fun W h => kept_later h d0
    have d1 : ∀ W, Below wc.heap.size wc W → W.cell? ⟨g3, 1, none⟩ = some (.int .u64 (loI (le + mo))) := fun W h => kept_later h d1
    have c0 : ∀ W, Below wc.heap.size wc W → W.cell? ⟨w.heap.size, 0, none⟩ = some (.int .i64 c) := fun W h => c0 W (hb2.trans (h.mono hb2.size))
    have c1 : ∀ W, Below wc.heap.size wc W → W.cell? ⟨w.heap.size, 1, none⟩ = some (.int .i64 i) := fun W h => c1 W (hb2.trans (h.mono hb2.size))
    have c2 : ∀ W, Below wc.heap.size wc W → W.cell? ⟨w.heap.size, 2, none⟩ = some (.int .i64 (hiI v)) := fun W h => c2 W (hb2.trans (h.mono hb2.size))
    have c3 : ∀ W, Below wc.heap.size wc W → W.cell? ⟨w.heap.size, 3, none⟩ = some (.int .u64 (loI v)) := fun W h => c3 W (hb2.trans (h.mono hb2.size))
    have c4 : ∀ W, Below wc.heap.size wc W → W.cell? ⟨w.heap.size, 4, none⟩ = some (.int .i64 le) := fun W h => c4 W (hb2.trans (h.mono hb2.size))
    have c5 : ∀ W, Below wc.heap.size wc W → W.cell? ⟨w.heap.size, 5, none⟩ = some (.int .i64 mo) := fun W h => c5 W (hb2.trans (h.mono hb2.size))
    have hb1 := hb1.trans (hb2.mono hb1.size)
    clear hb2
    obtain ⟨W2, hW2⟩ : ∃ W2, W2 = wc := ⟨_, rfl⟩
    subst hW2
    have ht0 : 0 ≤ i - 2 := by omega
    have ht1 : i - 2 ≤ 1073741824 := by omega
    have hw2 : IntKind.i64.wrap (i - 2) = i - 2 := by rw [IntKind.wrap_i64]; omega
    go_upto_region 2 with fail
    go_cut [4] (fun s3 wx => ∃ g : Nat, s3 = .pointer (some ⟨g, 0, none⟩) ∧ Below W2.heap.size W2 wx ∧ wx.cell? ⟨g, 0, none⟩ = some (.int .i64 (hiI (le + mo + le * (i - 2)))) ∧ wx.cell? ⟨g, 1, none⟩ = some (.int .u64 (loI (le + mo + le * (i - 2)))))
    case first =>
      go_region_held3 (fun w' => Below W2.heap.size W2 w') (first | assumption | exact (Below.refl _ _).drew | exact ((Below.refl _ _).alloc (Nat.le_refl _) _).drew | (refine S_alloc ?_; assumption) | (refine S_call ?_ ?_ ?_; assumption; assumption; rfl) | (refine S_set2 ?_ ?_; assumption; first | exact Nat.le_refl _ | exact Below.size (by assumption))) (first
        | (go_at_call 51; with_reducible refine (product_any le (i - 2) _ hle ht0 ht1).mono ?_; rintro e wA ⟨rfl, hbA⟩; have hSA := S_call hbA (by assumption) rfl; (first | (have kk := keep_two hbA rfl kk; obtain ⟨k0, k1, f0, f1⟩ := id kk) | (have kk := new_two hbA rfl; obtain ⟨k0, k1, f0, f1⟩ := id kk) | (have kk := new_two (below_undrew hbA) rfl; obtain ⟨k0, k1, f0, f1⟩ := id kk) | skip))
        | (go_at_call 42; with_reducible refine (plus_agg (le + mo) (le * (i - 2)) _).mono ?_; rintro e wC ⟨rfl, hbC⟩; have hSC := S_call hbC (by assumption) rfl; (first | (have kk := keep_two hbC rfl kk; obtain ⟨k0, k1, f0, f1⟩ := id kk) | (have kk := new_two hbC rfl; obtain ⟨k0, k1, f0, f1⟩ := id kk) | (have kk := new_two (below_undrew hbC) rfl; obtain ⟨k0, k1, f0, f1⟩ := id kk) | skip)))
      all_goals
        go_wp2_with fail
        go_meet
        case rel => exact ⟨_, rfl, by assumption, by go_simp, by go_simp⟩
    case rest =>
      obtain ⟨g4, rfl, hb3, e0, e1⟩ := hcut
      have e0 : ∀ W, Below wc.heap.size wc W → W.cell? ⟨g4, 0, none⟩ = some (.int .i64 (hiI (le + mo + le * (i - 2)))) := fun W h => kept_later h e0
      have e1 : ∀ W, Below wc.heap.size wc W → W.cell? ⟨g4, 1, none⟩ = some (.int .u64 (loI (le + mo + le * (i - 2)))) := fun W h => kept_later h e1
      have d0 : ∀ W, Below wc.heap.size wc W → W.cell? ⟨g3, 0, none⟩ = some (.int .i64 (hiI (le + mo))) := fun W h => d0 W (hb3.trans (h.mono hb3.size))
      have d1 : ∀ W, Below wc.heap.size wc W → W.cell? ⟨g3, 1, none⟩ = some (.int .u64 (loI (le + mo))) := fun W h => d1 W (hb3.trans (h.mono hb3.size))
      have c0 : ∀ W, Below wc.heap.size wc W → W.cell? ⟨w.heap.size, 0, none⟩ = some (.int .i64 c) := fun W h => c0 W (hb3.trans (h.mono hb3.size))
      have c1 : ∀ W, Below wc.heap.size wc W → W.cell? ⟨w.heap.size, 1, none⟩ = some (.int .i64 i) := fun W h => c1 W (hb3.trans (h.mono hb3.size))
      have c2 : ∀ W, Below wc.heap.size wc W → W.cell? ⟨w.heap.size, 2, none⟩ = some (.int .i64 (hiI v)) := fun W h => c2 W (hb3.trans (h.mono hb3.size))
      have c3 : ∀ W, Below wc.heap.size wc W → W.cell? ⟨w.heap.size, 3, none⟩ = some (.int .u64 (loI v)) := fun W h => c3 W (hb3.trans (h.mono hb3.size))
      have c4 : ∀ W, Below wc.heap.size wc W → W.cell? ⟨w.heap.size, 4, none⟩ = some (.int .i64 le) := fun W h => c4 W (hb3.trans (h.mono hb3.size))
      have c5 : ∀ W, Below wc.heap.size wc W → W.cell? ⟨w.heap.size, 5, none⟩ = some (.int .i64 mo) := fun W h => c5 W (hb3.trans (h.mono hb3.size))
      have hb1 := hb1.trans (hb3.mono hb1.size)
      clear hb3
      obtain ⟨W3, hW3⟩ : ∃ W3, W3 = wc := ⟨_, rfl⟩
      subst hW3
      go_upto_region 3 with fail
      go_cut [5] (fun s3 wx => ∃ g : Nat, s3 = .pointer (some ⟨g, 0, none⟩) ∧ Below W3.heap.size W3 wx ∧ wx.cell? ⟨g, 0, none⟩ = some (.int .i64 (hiI (le + mo + mo * (i - 2)))) ∧ wx.cell? ⟨g, 1, none⟩ = some (.int .u64 (loI (le + mo + mo * (i - 2)))))
      case first =>
        go_region_held3 (fun w' => Below W3.heap.size W3 w') (first | assumption | exact (Below.refl _ _).drew | exact ((Below.refl _ _).alloc (Nat.le_refl _) _).drew | (refine S_alloc ?_; assumption) | (refine S_call ?_ ?_ ?_; assumption; assumption; rfl) | (refine S_set2 ?_ ?_; assumption; first | exact Nat.le_refl _ | exact Below.size (by assumption))) (first
          | (go_at_call 51; with_reducible refine (product_any mo (i - 2) _ hmo ht0 ht1).mono ?_; rintro e wA ⟨rfl, hbA⟩; have hSA := S_call hbA (by assumption) rfl; (first | (have kk := keep_two hbA rfl kk; obtain ⟨k0, k1, f0, f1⟩ := id kk) | (have kk := new_two hbA rfl; obtain ⟨k0, k1, f0, f1⟩ := id kk) | (have kk := new_two (below_undrew hbA) rfl; obtain ⟨k0, k1, f0, f1⟩ := id kk) | skip))
          | (go_at_call 42; with_reducible refine (plus_agg (le + mo) (mo * (i - 2)) _).mono ?_; rintro e wC ⟨rfl, hbC⟩; have hSC := S_call hbC (by assumption) rfl; (first | (have kk := keep_two hbC rfl kk; obtain ⟨k0, k1, f0, f1⟩ := id kk) | (have kk := new_two hbC rfl; obtain ⟨k0, k1, f0, f1⟩ := id kk) | (have kk := new_two (below_undrew hbC) rfl; obtain ⟨k0, k1, f0, f1⟩ := id kk) | skip)))
        all_goals
          go_wp2_with fail
          go_meet
          case rel => exact ⟨_, rfl, by assumption, by go_simp, by go_simp⟩
      case rest =>
        obtain ⟨g5, rfl, hb4, f0, f1⟩ := hcut
        have e0 := e0 wc hb4
        have e1 := e1 wc hb4
        have c0 := c0 wc hb4
        have c1 := c1 wc hb4
        have c2 := c2 wc hb4
        have c3 := c3 wc hb4
        have c4 := c4 wc hb4
        have c5 := c5 wc hb4
        have hb1 := hb1.trans (hb4.mono hb1.size)
        have s1 := hb1.size
        clear hb4 d0 d1
        have l1 := mul_bound le (i - 2) hle ht0 ht1
        have l2 := mul_bound mo (i - 2) hmo ht0 ht1
        have r1 : R128 (le + mo + le * (i - 2)) := by unfold R64 at hle hmo; unfold R128; omega
        have r2 : R128 (le + mo + mo * (i - 2)) := by unfold R64 at hle hmo; unfold R128; omega
        clear l1 l2
        obtain ⟨low, hlow⟩ : ∃ low, low = le + mo + le * (i - 2) := ⟨_, rfl⟩
        obtain ⟨high, hhigh⟩ : ∃ high, high = le + mo + mo * (i - 2) := ⟨_, rfl⟩
        rw [← hlow] at e0 e1 r1
        rw [← hhigh] at f0 f1 r2
        have Hlow := Lib.hid hlow
        have Hhigh := Lib.hid hhigh
        clear hlow hhigh hw2
        go_wp2_with fail
        refine (total_agg c i v le mo _).mono ?_
        rintro e w1 ⟨rfl, hb5⟩
        have e0 := cell_keep (kept_later hb5 e0) (.cells #[.int .i64 (hiI v), .int .u64 (loI v)] 75)
        have e1 := cell_keep (kept_later hb5 e1) (.cells #[.int .i64 (hiI v), .int .u64 (loI v)] 75)
        have f0 := cell_keep (kept_later hb5 f0) (.cells #[.int .i64 (hiI v), .int .u64 (loI v)] 75)
        have f1 := cell_keep (kept_later hb5 f1) (.cells #[.int .i64 (hiI v), .int .u64 (loI v)] 75)
        have hb6 := (hb1.trans (hb5.mono s1)).alloc (by have := hb5.size; omega) (.cells #[.int .i64 (hiI v), .int .u64 (loI v)] 75)
        have s6 := hb6.size
        clear hb5 c0 c1 c2 c3 c4 c5 hb1
        by_cases h1 : v < low
        · have Hr := Lib.hid (show (decide (le + mo + le * (i - 2) ≤ v) && decide (v ≤ le + mo + mo * (i - 2))) = false by rw [← Hlow.out, decide_eq_false (by omega)]; rfl)
          have Hd := Lib.hid (show decide (v < low) = true from decide_eq_true h1)
          clear h1
          go_wp2_with fail
          refine (less_agg v low _ hv r1).mono ?_
          rintro e w2 ⟨rfl, hb7⟩
          rw [Hd.out]
          go_wp2
          go_ret
          exact ⟨by rw [Hr.out]; rfl, hb6.trans (hb7.mono s6)⟩
        · have Hd := Lib.hid (show decide (v < low) = false from decide_eq_false h1)
          obtain ⟨z, Hz⟩ : ∃ z, Hid (decide (high < v) = z) := ⟨_, Lib.hid rfl⟩
          have Hr := Lib.hid (show (decide (le + mo + le * (i - 2) ≤ v) && decide (v ≤ le + mo + mo * (i - 2))) = !z by
            rw [← Hlow.out, ← Hhigh.out, ← Hz.out, decide_eq_true (by omega), Bool.true_and]
            by_cases h2 : high < v
            · rw [decide_eq_true h2, decide_eq_false (by omega)]; rfl
            · rw [decide_eq_false h2, decide_eq_true (by omega)]; rfl)
          clear h1
          go_wp2_with fail
          refine (less_agg v low _ hv r1).mono ?_
          rintro e w2 ⟨rfl, hb7⟩
          rw [Hd.out]
          have n0 := kept_later hb7 (World.cell?_alloc_new w1 #[.int .i64 (hiI v), .int .u64 (loI v)] 75 0)
          have n1 := kept_later hb7 (World.cell?_alloc_new w1 #[.int .i64 (hiI v), .int .u64 (loI v)] 75 1)
          have f0 := kept_later hb7 f0
          have f1 := kept_later hb7 f1
          have hb8 := hb6.trans (hb7.mono s6)
          have s8 := hb8.size
          clear hb7
          go_wp2_with fail
          refine (less_agg high v _ r2 hv).mono ?_
          rintro e w3 ⟨rfl, hb9⟩
          rw [Hz.out]
          go_wp2
          go_ret
          exact ⟨by rw [Hr.out]; rfl, hb8.trans (hb9.mono s8)⟩
end Go.Proofs.Ytinaecmpigenoaa
