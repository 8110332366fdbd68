import Derived.Test.YtnfohlabmidliaaGaf
/-
  The reference: First.
-/
namespace Go.Proofs.Ytnfohlabmidliaa
open Go.RowKit
set_option linter.unusedVariables false

set_option maxRecDepth 20000 in
set_option maxHeartbeats 2000000 in
theorem rFirst_any (X : NoT) (B : Nat) (w : World) (hX : LieN w B X) (hB : B ≤ w.heap.size) (hok : X.okB = true) :
    Calls Try.prog 20 #[X.agg] w fun e w' => e = .returned (.slice X.fst.A X.fst.n X.fst.c) ∧ Below w.heap.size w w' := by
  have hb := bel_alloc (Below.refl w.heap.size w) (.cells #[.bool X.leaf, .slice X.iA X.iN X.iC, .slice X.kA X.kN X.kC] 25)
  have hagg : X.agg = .agg #[.bool X.leaf, .slice X.iA X.iN X.iC, .slice X.kA X.kN X.kC] := rfl
  have hX1 := hX.later (hb.mono hB)
  have hs := (okB_parts hok).1
  obtain ⟨p, hp⟩ : ∃ p, X.fst = p := ⟨_, rfl⟩
  rw [hagg, hp]
  clear hagg hok
  by_cases hl : X.leaf = true
  · have hn : 0 < X.iN := by
      unfold NoT.shape at hs
      rw [if_pos hl] at hs
      simp at hs
      omega
    obtain ⟨b, off, x, hA, hbB, hx, c0, -⟩ := it_at hX1.irow hn
    have e : p = x.k := by
      rw [← hp]
      unfold NoT.fst NoT.ents
      rw [if_pos hl]
      cases hI : X.I with
      | nil => rw [hI] at hx; simp at hx
      | cons y L => rw [hI] at hx; simp at hx; rw [hx]; rfl
    subst e
    rw [Nat.zero_mul, Nat.add_zero] at c0
    have hn' : (0 : Int) < (X.iN : Int) := by omega
    rw [hA, hl] at hb c0 ⊢
    clear hs hx hX1 hX hl hA hp hn
    go_enter Try.func20, Try.ntmps20
    go_wp2
    go_ret
    exact ⟨rfl, hb⟩
  · have hl : X.leaf = false := by simpa using hl
    have hn : 0 < X.kN := by
      unfold NoT.shape at hs
      rw [if_neg (by rw [hl]; exact Bool.false_ne_true)] at hs
      simp at hs
      omega
    obtain ⟨b, off, x, hA, hbB, hx, c0, -⟩ := ki_at hX1.krow hn
    have e : p = x.k := by
      rw [← hp]
      unfold NoT.fst NoT.ents
      rw [if_neg (by rw [hl]; exact Bool.false_ne_true)]
      cases hI : X.K with
      | nil => rw [hI] at hx; simp at hx
      | cons y L => rw [hI] at hx; simp at hx; rw [hx]; rfl
    subst e
    rw [Nat.zero_mul, Nat.add_zero] at c0
    have hn' : (0 : Int) < (X.kN : Int) := by omega
    rw [hA, hl] at hb c0 ⊢
    clear hs hx hX1 hX hl hA hp hn
    go_enter Try.func20, Try.ntmps20
    go_wp2
    go_ret
    exact ⟨rfl, hb⟩
end Go.Proofs.Ytnfohlabmidliaa
