import Derived.Test.YtnfohlabmidliaaGad
/-
  Joining is associative and commutative: rows in parts. No program in sight.
-/
namespace Go.Proofs.Ytnfohlabmidliaa
open Go.RowKit

/-- No numbers, no ends. -/
def Norm (r : RedT) : Prop := 0 ≤ r.i ∧ (r.i = 0 → r.l = 0 ∧ r.m = 0)
theorem norm_zero : Norm RedT.zero := ⟨by decide, fun _ => ⟨rfl, rfl⟩⟩
theorem norm_valid (r : RedT) (h : r.valid = true) : Norm r := by
  unfold RedT.valid at h
  rw [valid_iff] at h
  unfold Norm
  omega
theorem norm_one (x : ItemT) : Norm x.one := norm_valid _ (one_is x)
theorem norm_join (a b : RedT) (ha : Norm a) (hb : Norm b) : Norm (a.join b) := by
  obtain ⟨a1, a2⟩ := ha
  obtain ⟨b1, b2⟩ := hb
  refine ⟨by simp only [RedT.join]; omega, fun h => ?_⟩
  simp only [RedT.join] at h ⊢
  have h1 : a.i = 0 := by omega
  have h2 : b.i = 0 := by omega
  simp [jL, jM, h1, b2 h2]
theorem join_comm (a b : RedT) (ha : Norm a) (hb : Norm b) : a.join b = b.join a := by
  obtain ⟨a1, a2⟩ := ha
  obtain ⟨b1, b2⟩ := hb
  obtain ⟨c1, i1, v1, l1, m1⟩ := a
  obtain ⟨c2, i2, v2, l2, m2⟩ := b
  simp only at a1 a2 b1 b2
  simp only [RedT.join, jL, jM, RedT.mk.injEq]
  refine ⟨by omega, by omega, by omega, ?_, ?_⟩
  · by_cases h1 : i1 = 0 <;> by_cases h2 : i2 = 0 <;> simp [h1, h2] <;> first | (have := a2 h1; have := b2 h2; omega) | omega
  · by_cases h1 : i1 = 0 <;> by_cases h2 : i2 = 0 <;> simp [h1, h2] <;> first | (have := a2 h1; have := b2 h2; omega) | omega
theorem join_assoc (a b c : RedT) (ha : Norm a) (hb : Norm b) (hc : Norm c) : (a.join b).join c = a.join (b.join c) := by
  obtain ⟨a1, a2⟩ := ha
  obtain ⟨b1, b2⟩ := hb
  obtain ⟨d1, d2⟩ := hc
  obtain ⟨c1, i1, v1, l1, m1⟩ := a
  obtain ⟨c2, i2, v2, l2, m2⟩ := b
  obtain ⟨c3, i3, v3, l3, m3⟩ := c
  simp only at a1 a2 b1 b2 d1 d2
  simp only [RedT.join, jL, jM, RedT.mk.injEq]
  refine ⟨by omega, by omega, by omega, ?_, ?_⟩
  all_goals
    by_cases h1 : i1 = 0
    · by_cases h2 : i2 = 0
      · subst h1 h2; simp
      · subst h1; simp [h2]
    · have h12 : ¬ i1 + i2 = 0 := by omega
      by_cases h2 : i2 = 0
      · subst h2; simp [h1]
      · have h23 : ¬ i2 + i3 = 0 := by omega
        by_cases h3 : i3 = 0
        · subst h3; simp [h1, h2, h12]
        · simp only [if_neg h1, if_neg h2, if_neg h3, if_neg h12, if_neg h23]; omega
theorem join_zero (a : RedT) (ha : Norm a) : a.join RedT.zero = a := by rw [join_comm a _ ha norm_zero, zero_join]
theorem norm_all (l : List ItemT) : Norm (allR l) := by
  have key : ∀ k, k ≤ l.length → Norm (allR (l.take k)) := by
    intro k
    induction k with
    | zero => intro _; exact norm_zero
    | succ k ih =>
      intro hk
      rw [List.take_succ_eq_append_getElem (by omega), allR_snoc]
      exact norm_join _ _ (ih (by omega)) (norm_one _)
  have := key l.length (Nat.le_refl _)
  rwa [List.take_length] at this
theorem allR_append (l m : List ItemT) : allR (l ++ m) = (allR l).join (allR m) := by
  have key : ∀ k, k ≤ m.length → allR (l ++ m.take k) = (allR l).join (allR (m.take k)) := by
    intro k
    induction k with
    | zero => intro _; simp only [List.take_zero, List.append_nil]; exact (join_zero _ (norm_all l)).symm
    | succ k ih =>
      intro hk
      rw [List.take_succ_eq_append_getElem (by omega), ← List.append_assoc, allR_snoc, ih (by omega), allR_snoc, join_assoc _ _ _ (norm_all _) (norm_all _) (norm_one _)]
  have := key m.length (Nat.le_refl _)
  rwa [List.take_length] at this
/-- The fold of parts. -/
def foldR (ps : List RedT) : RedT := ps.foldl RedT.join RedT.zero
theorem foldR_from (ps : List RedT) : ∀ a, Norm a → (∀ p ∈ ps, Norm p) → ps.foldl RedT.join a = a.join (foldR ps) := by
  induction ps with
  | nil => intro a ha _; exact (join_zero a ha).symm
  | cons p ps ih =>
    intro a ha hp
    have hn := hp p List.mem_cons_self
    have hps : ∀ q ∈ ps, Norm q := fun q hq => hp q (List.mem_cons_of_mem _ hq)
    have hf : Norm (foldR ps) := by
      have : ∀ (l : List RedT) (b : RedT), Norm b → (∀ q ∈ l, Norm q) → Norm (l.foldl RedT.join b) := by
        intro l
        induction l with
        | nil => intro b hb _; exact hb
        | cons q l ih2 => intro b hb hq; exact ih2 _ (norm_join _ _ hb (hq q List.mem_cons_self)) (fun r hr => hq r (List.mem_cons_of_mem _ hr))
      exact this ps _ norm_zero hps
    show ps.foldl RedT.join (a.join p) = a.join (ps.foldl RedT.join (RedT.zero.join p))
    rw [zero_join, ih _ (norm_join _ _ ha hn) hps, ih p hn hps, join_assoc _ _ _ ha hn hf]
theorem foldR_cons (p : RedT) (ps : List RedT) (hp : Norm p) (hps : ∀ q ∈ ps, Norm q) : foldR (p :: ps) = p.join (foldR ps) := by
  show ps.foldl RedT.join (RedT.zero.join p) = _
  rw [zero_join, foldR_from ps p hp hps]
theorem foldR_snoc (ps : List RedT) (p : RedT) : foldR (ps ++ [p]) = (foldR ps).join p := by unfold foldR; rw [List.foldl_append]; rfl
theorem norm_fold (ps : List RedT) (hps : ∀ q ∈ ps, Norm q) : Norm (foldR ps) := by
  have : ∀ (l : List RedT) (b : RedT), Norm b → (∀ q ∈ l, Norm q) → Norm (l.foldl RedT.join b) := by
    intro l
    induction l with
    | nil => intro b hb _; exact hb
    | cons q l ih2 => intro b hb hq; exact ih2 _ (norm_join _ _ hb (hq q List.mem_cons_self)) (fun r hr => hq r (List.mem_cons_of_mem _ hr))
  exact this ps _ norm_zero hps
/-- Join of parts that are few enough. -/
theorem fold_c (ps : List RedT) : ∀ a, (∀ p ∈ ps, 0 ≤ p.c) → a.c ≤ (ps.foldl RedT.join a).c := by
  induction ps with
  | nil => intro a _; exact Int.le_refl _
  | cons p ps ih =>
    intro a h
    have h1 := h p List.mem_cons_self
    have h2 := ih (a.join p) (fun q hq => h q (List.mem_cons_of_mem _ hq))
    show a.c ≤ (ps.foldl RedT.join (a.join p)).c
    have h3 : (a.join p).c = a.c + p.c := rfl
    omega
theorem jrun_fold (ps : List RedT) : ∀ a, (∀ p ∈ ps, 0 ≤ p.c) → (ps.foldl RedT.join a).c ≤ 1073741824 → jrun ps a = (ps.foldl RedT.join a, 0) := by
  induction ps with
  | nil => intro a _ _; rfl
  | cons p ps ih =>
    intro a h hc
    have hc' : (ps.foldl RedT.join (a.join p)).c ≤ 1073741824 := hc
    have hq := fun q hq => h q (List.mem_cons_of_mem _ hq)
    have h2 := fold_c ps (a.join p) hq
    have h3 : (a.join p).c = a.c + p.c := rfl
    show (if 1073741824 - a.c < p.c then (RedT.zero, 5) else jrun ps (a.join p)) = (ps.foldl RedT.join (a.join p), 0)
    rw [if_neg (by omega)]
    exact ih _ hq hc'
theorem jall_fold (ps : List RedT) (hv : ∀ p ∈ ps, p.valid = true) (hc : (foldR ps).c ≤ 1073741824) : jall ps = (foldR ps, 0) := by
  rw [jall_of ps (List.all_eq_true.2 hv)]
  exact jrun_fold ps _ (fun p hp => (valid_bounds p (hv p hp)).1.1) hc
/-- Part and zero behind, or part ahead: the fold of what has been taken. -/
theorem fold_behind (ps : List RedT) (L : List ItemT) (d k : Nat) (h : foldR ps = allR (L.take d)) : foldR (ps ++ [allR ((L.drop d).take k), RedT.zero]) = allR (L.take (d + k)) := by
  have e : ps ++ [allR ((L.drop d).take k), RedT.zero] = (ps ++ [allR ((L.drop d).take k)]) ++ [RedT.zero] := by simp
  rw [e, foldR_snoc, foldR_snoc, h, ← allR_append, join_zero _ (norm_all _), ← List.take_add]
theorem fold_ahead (ps : List RedT) (L : List ItemT) (d k : Nat) (hp : ∀ p ∈ ps, Norm p) (h : foldR ps = allR (L.take d)) : foldR (allR ((L.drop d).take k) :: ps) = allR (L.take (d + k)) := by
  rw [foldR_cons _ _ (norm_all _) hp, h, join_comm _ _ (norm_all _) (norm_all _), ← allR_append, ← List.take_add]
theorem fold_last (ps : List RedT) (L : List ItemT) (d : Nat) (h : foldR ps = allR (L.take d)) : foldR (ps ++ [allR (L.drop d)]) = allR L := by
  rw [foldR_snoc, h, ← allR_append, List.take_append_drop]
end Go.Proofs.Ytnfohlabmidliaa
