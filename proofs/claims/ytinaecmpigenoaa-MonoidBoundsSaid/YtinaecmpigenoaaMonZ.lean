/-
  The reduction of rows, one by one. No program in sight.
-/
import Derived.Test.YtinaecmpigenoaaMonE
namespace Go.Proofs.Ytinaecmpigenoaa
open Go.RowKit

def ItemT.one (x : ItemT) : RedT := ⟨1, o1 x.b, oN x.b x.n, oN x.b x.n, oN x.b x.n⟩
def allR (l : List ItemT) : RedT := l.foldl (fun a x => a.join x.one) RedT.zero
theorem allR_nil : allR [] = RedT.zero := rfl
theorem allR_snoc (l : List ItemT) (x : ItemT) : allR (l ++ [x]) = (allR l).join x.one := by unfold allR; rw [List.foldl_append]; rfl
theorem one_is (x : ItemT) : x.one.valid = true := one_valid x.b x.n
theorem one_ok (x : ItemT) (h : R64 x.n) : x.one.ok := by
  obtain ⟨h1, h2⟩ := oN_r64 x.b x.n h
  refine ⟨?_, ?_, h2, h1, h1⟩
  · show R64 1; unfold R64; omega
  · show R64 (o1 x.b); unfold R64 o1; cases x.b <;> simp

theorem valid_iff (c i v le mo : Int) : validB c i v le mo = true ↔ (0 ≤ c ∧ c ≤ 1073741824 ∧ 0 ≤ i ∧ i ≤ c) ∧ ((i = 0 ∧ v = 0 ∧ le = 0 ∧ mo = 0) ∨ (i = 1 ∧ le = mo ∧ v = le) ∨ (2 ≤ i ∧ le ≤ mo ∧ le + mo + le * (i - 2) ≤ v ∧ v ≤ le + mo + mo * (i - 2))) := by
  rcases valid_cases c i v le mo with ⟨h, hr⟩ | ⟨h, hr⟩ | ⟨h, hr⟩ | ⟨h, hr⟩ | ⟨h, hr⟩ | ⟨h, hr⟩ | ⟨h, hr⟩
  · rw [hr]; simp only [Bool.false_eq_true, false_iff]; intro hh; omega
  · rw [hr]; simp only [Bool.false_eq_true, false_iff]; intro hh; omega
  · rw [hr]; simp only [Bool.false_eq_true, false_iff]; intro hh; omega
  · rw [hr]; simp only [Bool.false_eq_true, false_iff]; intro hh; omega
  · rw [hr, decide_eq_true_iff]
    constructor
    · intro hh; exact ⟨by omega, .inl ⟨h.2, hh⟩⟩
    · rintro ⟨_, ⟨_, hh⟩ | ⟨hi, _⟩ | ⟨hi, _⟩⟩
      · exact hh
      · omega
      · omega
  · rw [hr, decide_eq_true_iff]
    constructor
    · intro hh; exact ⟨by omega, .inr (.inl ⟨h.2.2, hh⟩)⟩
    · rintro ⟨_, ⟨hi, _⟩ | ⟨_, hh⟩ | ⟨hi, _⟩⟩
      · omega
      · exact hh
      · omega
  · rw [hr]
    simp only [Bool.and_eq_true, decide_eq_true_iff]
    constructor
    · intro hh; exact ⟨by omega, .inr (.inr ⟨h.2.1, hh⟩)⟩
    · rintro ⟨_, ⟨hi, _⟩ | ⟨hi, _⟩ | ⟨_, hh⟩⟩
      · omega
      · omega
      · exact hh
/-- One number more. -/
theorem join_one_valid (a : RedT) (x : ItemT) (h : a.valid = true) (hc : a.c + 1 ≤ 1073741824) : (a.join x.one).valid = true := by
  obtain ⟨c, i, v, le, mo⟩ := a
  unfold RedT.valid at h ⊢
  rw [valid_iff] at h ⊢
  simp only at h hc
  obtain ⟨⟨h1, h2, h3, h4⟩, h⟩ := h
  cases hb : x.b
  · simp only [RedT.join, ItemT.one, hb, o1, oN, jL, jM]
    refine ⟨by simp; omega, ?_⟩
    rcases h with ⟨h, hv, hl, hm⟩ | ⟨h, hl, hv⟩ | ⟨h, hl, hv, hw⟩
    · left; subst h hv hl hm; simp
    · right; left; subst h; simp [hl, hv]
    · right; right
      have hi0 : ¬ i = 0 := by omega
      simp [hi0]
      exact ⟨by omega, hl, hv, hw⟩
  · simp only [RedT.join, ItemT.one, hb, o1, oN, jL, jM]
    refine ⟨by simp; omega, ?_⟩
    rcases h with ⟨h, hv, hl, hm⟩ | ⟨h, hl, hv⟩ | ⟨h, hl, hv, hw⟩
    · right; left; subst h hv hl hm; simp
    · right; right; subst h; simp; omega
    · right; right
      have hi0 : ¬ i = 0 := by omega
      simp [hi0]
      have e : i + 1 - 2 = (i - 2) + 1 := by omega
      have hk : 0 ≤ i - 2 := by omega
      rw [e]
      generalize i - 2 = k at *
      rw [Int.mul_add, Int.mul_add, Int.mul_one, Int.mul_one]
      have m1 : min le x.n * k ≤ le * k := Int.mul_le_mul_of_nonneg_right (by omega) hk
      have m2 : mo * k ≤ max mo x.n * k := Int.mul_le_mul_of_nonneg_right (by omega) hk
      generalize le * k = p at *
      generalize mo * k = q at *
      generalize min le x.n * k = p' at *
      generalize max mo x.n * k = q' at *
      omega
theorem jL_r64 (i1 i2 l1 l2 : Int) (h1 : R64 l1) (h2 : R64 l2) : R64 (jL i1 i2 l1 l2) := by
  unfold R64 jL at *
  split
  · exact h2
  · split
    · exact h1
    · omega
theorem jM_r64 (i1 i2 l1 l2 : Int) (h1 : R64 l1) (h2 : R64 l2) : R64 (jM i1 i2 l1 l2) := by
  unfold R64 jM at *
  split
  · exact h2
  · split
    · exact h1
    · omega
/-- What is known of the reduction of rows. -/
structure AllOk (l : List ItemT) (a : RedT) : Prop where
  cnt : a.c = l.length
  valid : a.valid = true
  low : -9223372036854775808 * (l.length : Int) ≤ a.v
  high : a.v ≤ 9223372036854775808 * (l.length : Int)
  least : R64 a.l
  most : R64 a.m
theorem allOk_snoc (l : List ItemT) (x : ItemT) (hx : R64 x.n) (hl : l.length < 1000) (h : AllOk l (allR l)) : AllOk (l ++ [x]) (allR (l ++ [x])) := by
  rw [allR_snoc]
  have hv := join_one_valid (allR l) x h.valid (by rw [h.cnt]; omega)
  obtain ⟨h1, h2, h3, h4, h5, h6⟩ := h
  generalize allR l = a at *
  have hn := (oN_r64 x.b x.n hx).1
  have hn' := hn
  unfold R64 at hn'
  refine ⟨?_, hv, ?_, ?_, ?_, ?_⟩
  · simp [RedT.join, ItemT.one, h1]
  · simp [RedT.join, ItemT.one]; omega
  · simp [RedT.join, ItemT.one]; omega
  · exact jL_r64 _ _ _ _ h5 hn
  · exact jM_r64 _ _ _ _ h6 hn
theorem allOk (l : List ItemT) (hx : ∀ x ∈ l, R64 x.n) (hl : l.length ≤ 1000) : AllOk l (allR l) := by
  have key : ∀ k, k ≤ l.length → AllOk (l.take k) (allR (l.take k)) := by
    intro k
    induction k with
    | zero => intro _; exact ⟨rfl, by rfl, by simp [allR, RedT.zero], by simp [allR, RedT.zero], by unfold allR RedT.zero R64; simp, by unfold allR RedT.zero R64; simp⟩
    | succ k ih =>
      intro hk
      rw [List.take_succ_eq_append_getElem (by omega)]
      exact allOk_snoc _ _ (hx _ (List.getElem_mem _)) (by simp; omega) (ih (by omega))
  have := key l.length (Nat.le_refl _)
  rwa [List.take_length] at this
theorem AllOk.ok {l : List ItemT} {a : RedT} (h : AllOk l a) (hl : l.length ≤ 1000) : a.ok := by
  obtain ⟨⟨b1, b2⟩, b3, b4⟩ := valid_bounds a h.valid
  have := h.low
  have := h.high
  refine ⟨?_, ?_, ?_, h.least, h.most⟩
  · unfold R64; omega
  · unfold R64; omega
  · unfold R128; omega
/-- What Join makes of two. -/
theorem zero_join (a : RedT) : RedT.zero.join a = a := by
  obtain ⟨c, i, v, le, mo⟩ := a
  simp [RedT.join, RedT.zero, jL, jM]
theorem jall_two (a r : RedT) (ha : a.valid = true) (hr : r.valid = true) (hc : a.c + r.c ≤ 1073741824) : jall [a, r] = (a.join r, 0) := by
  have hb := (valid_bounds a ha).1
  unfold jall
  rw [if_pos (by simp [ha, hr])]
  show (if 1073741824 - 0 < a.c then _ else (if 1073741824 - (RedT.zero.join a).c < r.c then _ else (((RedT.zero.join a).join r), 0))) = _
  rw [zero_join, if_neg (by omega), if_neg (by omega)]
theorem reds_two (w : World) (a r : RedT) (t : TypeId) : Reds (w.alloc (.cells #[.int .i64 a.c, .int .i64 a.i, .int .i64 (hiI a.v), .int .u64 (loI a.v), .int .i64 a.l, .int .i64 a.m, .int .i64 r.c, .int .i64 r.i, .int .i64 (hiI r.v), .int .u64 (loI r.v), .int .i64 r.l, .int .i64 r.m] t)) (w.heap.size + 1) (some ⟨w.heap.size, 0, none⟩) 2 [a, r] := by
  have hcells : ∀ (j : Nat) (u : Value), ([a, r].flatMap RedT.cells)[j]? = some u → (#[.int .i64 a.c, .int .i64 a.i, .int .i64 (hiI a.v), .int .u64 (loI a.v), .int .i64 a.l, .int .i64 a.m, .int .i64 r.c, .int .i64 r.i, .int .i64 (hiI r.v), .int .u64 (loI r.v), .int .i64 r.l, .int .i64 r.m] : Array Value)[j]? = some u := by
    intro j u hu
    simpa [RedT.cells] using hu
  refine ⟨rfl, fun _ => ⟨w.heap.size, 0, rfl, by omega, fun j u hu => ?_⟩⟩
  rw [Nat.zero_add]
  exact (World.cell?_alloc_new w _ t j).trans (hcells j u hu)
end Go.Proofs.Ytinaecmpigenoaa
