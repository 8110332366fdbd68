import Derived.Test.YtnfohlabmidliaaGae
import Derived.Test.YtnfohlabmidliaaGab
/-
  The reference: Item, Kid.
-/
namespace Go.Proofs.Ytnfohlabmidliaa
open Go.RowKit
set_option linter.unusedVariables false

set_option maxRecDepth 20000 in
set_option maxHeartbeats 2000000 in
theorem rItem_any (x : ItT) (B : Nat) (w : World) (hx : x.Ok w B) : Calls Try.prog 36 #[x.agg] w fun e w' => e = .returned (.bool x.okB) ∧ Below w.heap.size w w' := by
  have hb := bel_alloc (Below.refl w.heap.size w) (.cells #[.slice x.k.A x.k.n x.k.c, .slice x.v.A x.v.n x.v.c, .bool x.b, .int .i64 x.n] 58)
  have hkl := hx.key.len
  have hvl := hx.val.len
  obtain ⟨z, hz⟩ : ∃ z, x.okB = z := ⟨_, rfl⟩
  have HZ := Lib.hid hz
  rw [hz]
  clear hz hx
  have hR : z = (decide (1 ≤ x.k.n ∧ x.k.n ≤ 120) && decide (x.v.n ≤ 100) && (x.b || decide (x.n = 0))) := by
    rw [← HZ.out]
    unfold ItT.okB keyB
    rw [hvl, hkl]
  clear HZ hkl hvl
  unfold ItT.agg
  obtain ⟨⟨kA, kn, kc, kl⟩, ⟨vA, vn, vc, vl⟩, b, n⟩ := x
  simp only at hb hR ⊢
  by_cases h1 : 1 ≤ kn
  · have g1 : (1 : Int) ≤ (kn : Int) := by omega
    by_cases h2 : kn ≤ 120
    · have g2 : (kn : Int) ≤ 120 := by omega
      rw [decide_eq_true (And.intro h1 h2)] at hR
      by_cases h3 : vn ≤ 100
      · have g3 : (vn : Int) ≤ 100 := by omega
        rw [decide_eq_true h3] at hR
        cases b
        · by_cases h4 : n = 0
          · subst h4
            obtain rfl : z = true := hR
            clear h1 h2 h3
            go_enter Try.func36, Try.ntmps36
            go_wp2
            go_ret
            exact ⟨rfl, hb⟩
          · have g4 : (n == 0) = false := by simpa using h4
            rw [decide_eq_false h4] at hR
            obtain rfl : z = false := hR
            clear h1 h2 h3
            go_enter Try.func36, Try.ntmps36
            go_wp2
            go_ret
            exact ⟨rfl, hb⟩
        · obtain rfl : z = true := by rw [hR]; rfl
          clear hR h1 h2 h3
          go_enter Try.func36, Try.ntmps36
          go_wp2
          go_ret
          exact ⟨rfl, hb⟩
      · have g3 : ¬ (vn : Int) ≤ 100 := by omega
        rw [decide_eq_false h3] at hR
        obtain rfl : z = false := hR
        clear h1 h2 h3
        go_enter Try.func36, Try.ntmps36
        go_wp2
        go_ret
        exact ⟨rfl, hb⟩
    · have g2 : ¬ (kn : Int) ≤ 120 := by omega
      rw [decide_eq_false (fun h => h2 h.2)] at hR
      obtain rfl : z = false := hR
      clear h1 h2
      go_enter Try.func36, Try.ntmps36
      go_wp2
      go_ret
      exact ⟨rfl, hb⟩
  · obtain rfl : kn = 0 := by omega
    rw [decide_eq_false (fun h => h1 h.1)] at hR
    obtain rfl : z = false := hR
    clear h1
    go_enter Try.func36, Try.ntmps36
    go_wp2
    go_ret
    exact ⟨rfl, hb⟩
set_option maxRecDepth 20000 in
set_option maxHeartbeats 2000000 in
theorem rKid_any (x : KiT) (B : Nat) (w : World) (hx : x.Ok w B) : Calls Try.prog 38 #[x.agg] w fun e w' => e = .returned (.bool x.okB) ∧ Below w.heap.size w w' := by
  have hb := bel_alloc (Below.refl w.heap.size w) (.cells #[.slice x.k.A x.k.n x.k.c, .int .i64 x.a, .int .i64 x.r.c, .int .i64 x.r.i, .int .i64 (hiI x.r.v), .int .u64 (loI x.r.v), .int .i64 x.r.l, .int .i64 x.r.m] 60)
  have hc := fun W => mright_any x.r.c x.r.i x.r.v x.r.l x.r.m W hx.red.2.2.1 hx.red.2.2.2.1 hx.red.2.2.2.2
  have hkl := hx.key.len
  obtain ⟨z, hz⟩ : ∃ z, x.okB = z := ⟨_, rfl⟩
  obtain ⟨v, hv⟩ : ∃ v, validB x.r.c x.r.i x.r.v x.r.l x.r.m = v := ⟨_, rfl⟩
  simp only [hv] at hc
  have hR : z = (decide (1 ≤ x.k.n ∧ x.k.n ≤ 120) && decide (1 ≤ x.a) && decide (x.a < 524288) && v && decide (1 ≤ x.r.c)) := by
    rw [← hz, ← hv]
    unfold KiT.okB keyB
    rw [hkl]
    rfl
  rw [hz]
  clear hz hv hx hkl
  unfold KiT.agg
  obtain ⟨⟨kA, kn, kc, kl⟩, a, r⟩ := x
  obtain ⟨c, i, s, l, m⟩ := r
  simp only at hb hc hR ⊢
  generalize hiI s = hi at *
  generalize loI s = lo at *
  by_cases h1 : 1 ≤ kn
  · have g1 : (1 : Int) ≤ (kn : Int) := by omega
    by_cases h2 : kn ≤ 120
    · have g2 : (kn : Int) ≤ 120 := by omega
      rw [decide_eq_true (And.intro h1 h2)] at hR
      by_cases h3 : 1 ≤ a
      · rw [decide_eq_true h3] at hR
        by_cases h4 : a < 524288
        · rw [decide_eq_true h4] at hR
          by_cases h5 : 1 ≤ c
          · rw [decide_eq_true h5] at hR
            obtain rfl : z = v := by rw [hR]; cases v <;> rfl
            clear hR h1 h2
            go_enter Try.func38, Try.ntmps38
            go_wp2_with fail
            refine (hc _).mono ?_
            rintro e w1 ⟨rfl, hb1⟩
            have hb := bel_next hb hb1
            go_wp2
            go_ret
            exact ⟨rfl, hb⟩
          · rw [decide_eq_false h5] at hR
            obtain rfl : z = false := by rw [hR]; cases v <;> rfl
            clear hR h1 h2
            go_enter Try.func38, Try.ntmps38
            go_wp2
            go_ret
            exact ⟨rfl, hb⟩
        · rw [decide_eq_false h4] at hR
          obtain rfl : z = false := hR
          clear h1 h2
          go_enter Try.func38, Try.ntmps38
          go_wp2
          go_ret
          exact ⟨rfl, hb⟩
      · rw [decide_eq_false h3] at hR
        obtain rfl : z = false := hR
        clear h1 h2
        go_enter Try.func38, Try.ntmps38
        go_wp2
        go_ret
        exact ⟨rfl, hb⟩
    · have g2 : ¬ (kn : Int) ≤ 120 := by omega
      rw [decide_eq_false (fun h => h2 h.2)] at hR
      obtain rfl : z = false := hR
      clear h1 h2
      go_enter Try.func38, Try.ntmps38
      go_wp2
      go_ret
      exact ⟨rfl, hb⟩
  · obtain rfl : kn = 0 := by omega
    rw [decide_eq_false (fun h => h1 h.1)] at hR
    obtain rfl : z = false := hR
    clear h1
    go_enter Try.func38, Try.ntmps38
    go_wp2
    go_ret
    exact ⟨rfl, hb⟩
end Go.Proofs.Ytnfohlabmidliaa
