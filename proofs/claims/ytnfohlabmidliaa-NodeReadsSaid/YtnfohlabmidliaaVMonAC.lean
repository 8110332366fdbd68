import Derived.Test.YtnfohlabmidliaaGad
/-
  What the reduction of rows says of the rows. No program in sight.
-/
namespace Go.Proofs.Ytnfohlabmidliaa
open Go.RowKit

def metB (l : List ItemT) (v : Int) : Bool := l.any fun x => x.b && (x.n == v)
theorem snoc_ind {P : List ItemT → Prop} (h0 : P []) (hs : ∀ l x, P l → P (l ++ [x])) : ∀ l, P l := by
  intro l
  have key : ∀ k, k ≤ l.length → P (l.take k) := by
    intro k
    induction k with
    | zero => intro _; exact h0
    | succ k ih =>
      intro hk
      rw [List.take_succ_eq_append_getElem (by omega)]
      exact hs _ _ (ih (by omega))
  have := key l.length (Nat.le_refl _)
  rwa [List.take_length] at this
/-- The rows' reduction: no number, no ends; else both ends bound and are met. -/
structure Ends (l : List ItemT) (a : RedT) : Prop where
  pos : 0 ≤ a.i
  none : a.i = 0 → a.v = 0 ∧ a.l = 0 ∧ a.m = 0 ∧ ∀ x ∈ l, x.b = false
  low : ∀ x ∈ l, x.b = true → a.l ≤ x.n ∧ x.n ≤ a.m
  least : 0 < a.i → metB l a.l = true
  most : 0 < a.i → metB l a.m = true
theorem metB_snoc (l : List ItemT) (x : ItemT) (v : Int) : metB (l ++ [x]) v = (metB l v || (x.b && (x.n == v))) := by
  unfold metB
  rw [List.any_append]
  simp
theorem ends (l : List ItemT) : Ends l (allR l) := by
  refine snoc_ind (P := fun l => Ends l (allR l)) ?_ ?_ l
  · exact ⟨by decide, fun _ => ⟨rfl, rfl, rfl, by simp⟩, by simp, fun h => absurd h (by decide), fun h => absurd h (by decide)⟩
  · intro l x h
    rw [allR_snoc]
    obtain ⟨h1, h2, h3, h4, h5⟩ := h
    generalize allR l = a at *
    obtain ⟨c, i, v, le, mo⟩ := a
    simp only at h1 h2 h3 h4 h5
    cases hb : x.b
    · have e : (⟨c, i, v, le, mo⟩ : RedT).join x.one = ⟨c + 1, i, v, le, mo⟩ := by
        simp only [RedT.join, ItemT.one, hb, o1, oN, jL, jM]
        by_cases hi : i = 0
        · obtain ⟨-, hl, hm, -⟩ := h2 hi
          simp [hi, hl, hm]
        · simp [hi]
      rw [e]
      refine ⟨h1, fun hi => ?_, ?_, fun hi => ?_, fun hi => ?_⟩
      · obtain ⟨k1, k2, k3, k4⟩ := h2 hi
        refine ⟨k1, k2, k3, fun y hy => ?_⟩
        rcases List.mem_append.1 hy with hy | hy
        · exact k4 y hy
        · simp at hy; rw [hy, hb]
      · intro y hy hyb
        rcases List.mem_append.1 hy with hy | hy
        · exact h3 y hy hyb
        · simp at hy; rw [hy, hb] at hyb; cases hyb
      · rw [metB_snoc, h4 hi]; rfl
      · rw [metB_snoc, h5 hi]; rfl
    · have e : (⟨c, i, v, le, mo⟩ : RedT).join x.one = ⟨c + 1, i + 1, v + x.n, if i = 0 then x.n else min le x.n, if i = 0 then x.n else max mo x.n⟩ := by
        simp [RedT.join, ItemT.one, hb, o1, oN, jL, jM]
      rw [e]
      refine ⟨by simp only; omega, fun hi => absurd hi (by simp only; omega), ?_, fun _ => ?_, fun _ => ?_⟩
      · intro y hy hyb
        simp only
        rcases List.mem_append.1 hy with hy | hy
        · have := h3 y hy hyb
          by_cases hi : i = 0
          · have := (h2 hi).2.2.2 y hy
            rw [this] at hyb
            cases hyb
          · rw [if_neg hi, if_neg hi]; omega
        · simp at hy
          rw [hy]
          by_cases hi : i = 0
          · rw [if_pos hi, if_pos hi]; omega
          · rw [if_neg hi, if_neg hi]; omega
      · rw [metB_snoc, hb]
        simp only
        by_cases hi : i = 0
        · rw [if_pos hi]; simp
        · rw [if_neg hi]
          by_cases hn : le ≤ x.n
          · rw [show min le x.n = le by omega, h4 (by omega)]; rfl
          · rw [show min le x.n = x.n by omega]; simp
      · rw [metB_snoc, hb]
        simp only
        by_cases hi : i = 0
        · rw [if_pos hi]; simp
        · rw [if_neg hi]
          by_cases hn : x.n ≤ mo
          · rw [show max mo x.n = mo by omega, h5 (by omega)]; rfl
          · rw [show max mo x.n = x.n by omega]; simp
theorem allR_count (l : List ItemT) : (allR l).i ≤ l.length ∧ (allR l).c = l.length := by
  refine snoc_ind (P := fun l => (allR l).i ≤ l.length ∧ (allR l).c = l.length) ⟨by decide, rfl⟩ ?_ l
  intro l x h
  rw [allR_snoc]
  have : 0 ≤ o1 x.b ∧ o1 x.b ≤ 1 := by unfold o1; cases x.b <;> simp
  simp [RedT.join, ItemT.one]
  omega
theorem take_snocI {l : List ItemT} {k : Nat} {x : ItemT} (hx : l[k]? = some x) : l.take (k + 1) = l.take k ++ [x] := by
  have hk : k < l.length := (List.getElem?_eq_some_iff.1 hx).1
  have e : l[k] = x := (List.getElem?_eq_some_iff.1 hx).2
  rw [List.take_succ_eq_append_getElem hk, e]
theorem allR_i_snoc (l : List ItemT) (x : ItemT) : (allR (l ++ [x])).i = (allR l).i + o1 x.b := by rw [allR_snoc]; rfl
end Go.Proofs.Ytnfohlabmidliaa
