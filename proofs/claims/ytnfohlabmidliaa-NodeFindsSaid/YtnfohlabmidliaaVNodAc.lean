import Derived.Test.YtnfohlabmidliaaGak
import Derived.Test.YtnfohlabmidliaaVNodAa
/-
  Layer 14, plain: where a key stands among keys in order.
-/
namespace Go.Proofs.Ytnfohlabmidliaa
open Go.RowKit
set_option linter.unusedVariables false

theorem run_tail {x : EnT} {L : List EnT} : ∀ {p : Option (List UInt8)}, runOk p (x :: L) = true → runOk (some x.key.l) L = true
  | none, h => by
    unfold runOk at h
    simp only [Bool.and_eq_true] at h
    exact h.2
  | some q, h => by
    unfold runOk at h
    simp only [Bool.and_eq_true] at h
    exact h.2.2
theorem run_above : ∀ (L : List EnT) (q : List UInt8), runOk (some q) L = true → ∀ y ∈ L, cmpL q y.key.l < 0
  | [], _, _, y, hy => by cases hy
  | x :: L, q, h, y, hy => by
    have ht := run_tail h
    unfold runOk at h
    simp only [Bool.and_eq_true] at h
    have h1 : cmpL q x.key.l < 0 := of_decide_eq_true h.2.1
    rcases List.mem_cons.1 hy with rfl | hy
    · exact h1
    · exact cmpL_trans _ _ _ h1 (run_above L _ ht y hy)
theorem less_iff : ∀ (L : List EnT) (p : Option (List UInt8)) (q : List UInt8), runOk p L = true → ∀ (j : Nat) (x : EnT), L[j]? = some x → (j < lessN L q ↔ 0 < cmpL q x.key.l)
  | [], _, _, _, j, x, h => by simp at h
  | y :: L, p, q, h, j, x, hx => by
    have ht := run_tail h
    have ih := less_iff L _ q ht
    have ha := run_above L _ ht
    have hc : lessN (y :: L) q = lessN L q + if 0 < cmpL q y.key.l then 1 else 0 := by
      unfold lessN
      rw [List.countP_cons]
      by_cases h0 : 0 < cmpL q y.key.l
      · rw [decide_eq_true h0, if_pos h0, if_pos rfl]
      · rw [decide_eq_false h0, if_neg h0, if_neg Bool.false_ne_true]
    by_cases h0 : 0 < cmpL q y.key.l
    · rw [hc, if_pos h0]
      cases j with
      | zero =>
        have e : y = x := by simpa using hx
        subst e
        exact ⟨fun _ => h0, fun _ => by omega⟩
      | succ j =>
        have := ih j x (by simpa using hx)
        rw [← this]
        omega
    · have hno : ∀ z ∈ L, ¬ 0 < cmpL q z.key.l := by
        intro z hz
        have h1 := ha z hz
        rcases cmpL_ends q y.key.l with h2 | h2 | h2
        · have := cmpL_trans q _ _ (by omega) h1
          omega
        · rw [cmpL_zero _ _ h2]
          omega
        · omega
      have hz : lessN L q = 0 := by
        unfold lessN
        rw [List.countP_eq_zero]
        intro z hz
        simp only [decide_eq_true_eq]
        exact hno z hz
      rw [hc, if_neg h0, hz]
      cases j with
      | zero =>
        have e : y = x := by simpa using hx
        subst e
        exact ⟨fun h => by omega, fun h => absurd h h0⟩
      | succ j =>
        have hm : x ∈ L := List.mem_of_getElem? (show L[j]? = some x by simpa using hx)
        exact ⟨fun h => by omega, fun h => absurd h (hno x hm)⟩
/-- Behind where a key stands or would, all are above it. -/
theorem less_above {L : List EnT} {p : Option (List UInt8)} {q : List UInt8} (h : runOk p L = true) {j : Nat} {x : EnT} (hx : L[j]? = some x) (hj : lessN L q < j) : cmpL q x.key.l < 0 := by
  have hlt : j < L.length := (List.getElem?_eq_some_iff.1 hx).1
  obtain ⟨y, hy⟩ : ∃ y, L[lessN L q]? = some y := ⟨_, List.getElem?_eq_getElem (by omega)⟩
  have h1 : ¬ 0 < cmpL q y.key.l := fun h0 => by
    have := (less_iff L p q h _ y hy).2 h0
    omega
  have h2 : cmpL y.key.l x.key.l < 0 := by
    have hd : L = L.take (lessN L q) ++ y :: L.drop (lessN L q + 1) := by
      rw [← dropN hy, List.take_append_drop]
    have h3 : runOk none (y :: L.drop (lessN L q + 1)) = true := runOk_back (L.take (lessN L q)) _ p (by rw [← hd]; exact h)
    refine run_above _ _ (run_tail h3) x ?_
    refine List.mem_of_getElem? (i := j - (lessN L q + 1)) ?_
    rw [List.getElem?_drop, show lessN L q + 1 + (j - (lessN L q + 1)) = j by omega]
    exact hx
  rcases cmpL_ends q y.key.l with h3 | h3 | h3
  · exact cmpL_trans q _ _ (by omega) h2
  · rw [cmpL_zero _ _ h3]
    exact h2
  · omega
theorem sameB_iff {l m : List UInt8} : sameB l m = true ↔ l = m := by unfold sameB; exact decide_eq_true_iff
/-- A key is met where it stands. -/
theorem hit_iff {X : NoT} (hr : runOk none X.ents = true) {q : List UInt8} {j : Nat} {x : EnT} (hx : X.ents[j]? = some x) : x.key.l = q ↔ (j = lessN X.ents q ∧ X.isAt q = true) := by
  constructor
  · intro e
    subst e
    have h0 : ¬ j < lessN X.ents x.key.l := fun h => by
      have := (less_iff _ _ _ hr j x hx).1 h
      rw [cmpL_self] at this
      omega
    have h1 : ¬ lessN X.ents x.key.l < j := fun h => by
      have := less_above hr hx h
      rw [cmpL_self] at this
      omega
    have e : j = lessN X.ents x.key.l := by omega
    refine ⟨e, ?_⟩
    unfold NoT.isAt
    rw [← e, hx]
    exact sameB_iff.2 rfl
  · rintro ⟨rfl, h⟩
    unfold NoT.isAt at h
    rw [hx] at h
    exact sameB_iff.1 h
/-- A key of the node is found. -/
theorem key_found {X : NoT} (hr : runOk none X.ents = true) {j : Nat} {x : EnT} (hx : X.ents[j]? = some x) : X.plAt x.key.l = j ∧ X.isAt x.key.l = true := by
  obtain ⟨h1, h2⟩ := (hit_iff hr hx).1 rfl
  refine ⟨?_, h2⟩
  unfold NoT.plAt
  rw [h2, if_pos rfl]
  split <;> exact h1.symm
theorem is_lt {X : NoT} {q : List UInt8} (h : X.isAt q = true) : ∃ x, X.ents[lessN X.ents q]? = some x ∧ x.key.l = q := by
  unfold NoT.isAt at h
  cases hx : X.ents[lessN X.ents q]? with
  | none => rw [hx] at h; cases h
  | some x =>
    rw [hx] at h
    exact ⟨x, rfl, sameB_iff.1 h⟩
/-- Up to which entry the keys are not above a key. -/
def NoT.upTo (X : NoT) (q : List UInt8) : Nat := if X.isAt q = true then lessN X.ents q + 1 else lessN X.ents q
theorem upto_iff {X : NoT} (hr : runOk none X.ents = true) {q : List UInt8} {j : Nat} {x : EnT} (hx : X.ents[j]? = some x) : ltB q x.key.l = false ↔ j < X.upTo q := by
  unfold ltB NoT.upTo
  have h1 := less_iff _ _ q hr j x hx
  have h2 := hit_iff hr (q := q) hx
  have ht := cmpL_ends q x.key.l
  rw [decide_eq_false_iff_not]
  by_cases hi : X.isAt q = true
  · rw [if_pos hi]
    constructor
    · intro h
      rcases ht with h3 | h3 | h3
      · omega
      · have := (h2.1 (cmpL_zero _ _ h3).symm).1
        omega
      · have := h1.2 (by omega)
        omega
    · intro h
      by_cases hj : j < lessN X.ents q
      · have := h1.1 hj
        omega
      · have e := h2.2 ⟨by omega, hi⟩
        rw [e, cmpL_self]
        omega
  · rw [if_neg hi]
    constructor
    · intro h
      rcases ht with h3 | h3 | h3
      · omega
      · exact absurd (h2.1 (cmpL_zero _ _ h3).symm).2 hi
      · exact h1.2 (by omega)
    · intro h
      have := h1.1 h
      omega
theorem plAt_inner {X : NoT} {q : List UInt8} (hl : X.leaf = false) : X.plAt q = X.upTo q - 1 := by
  unfold NoT.plAt NoT.upTo
  rw [hl, if_neg Bool.false_ne_true]
  by_cases h : X.isAt q = true
  · rw [if_pos h, if_pos h]
    rfl
  · rw [if_neg h, if_neg h]
theorem plAt_leaf {X : NoT} {q : List UInt8} (hl : X.leaf = true) : X.plAt q = lessN X.ents q := by
  unfold NoT.plAt
  rw [hl, if_pos rfl]
end Go.Proofs.Ytnfohlabmidliaa
