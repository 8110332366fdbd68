/-
  Checksums of sequences that differ only within four bytes. No program in sight.
-/
import Derived.Test.YtedoajiapicpnaaDoorCrcW
namespace Go.Proofs.YtedoajiapicpnaaDoor
open Go.RowKit

theorem st_inj {s t : Nat} (hs : s < 4294967296) (ht : t < 4294967296) (h : Crc.st s = Crc.st t) : s = t := by
  have big : ∀ x : Nat, x < 2147483648 → 2147483648 ≤ x ^^^ Crc.pol := by
    intro x hx
    have h1 : (x ^^^ Crc.pol).testBit 31 = true := by
      rw [Nat.testBit_xor, Nat.testBit_lt_two_pow (x := x) (i := 31) (by simpa using hx)]
      decide
    rcases Nat.lt_or_ge (x ^^^ Crc.pol) 2147483648 with h2 | h2
    · rw [Nat.testBit_lt_two_pow (x := x ^^^ Crc.pol) (i := 31) (by simpa using h2)] at h1
      cases h1
    · exact h2
  have key : ∀ u : Nat, u < 4294967296 → (u % 2 = 1 → Crc.st u = u / 2 ^^^ Crc.pol ∧ 2147483648 ≤ Crc.st u) ∧ (u % 2 = 0 → Crc.st u = u / 2 ∧ Crc.st u < 2147483648) := by
    intro u hu
    refine ⟨fun h1 => ?_, fun h0 => ?_⟩
    · have e : Crc.st u = u / 2 ^^^ Crc.pol := if_pos h1
      exact ⟨e, by rw [e]; exact big _ (by omega)⟩
    · have e : Crc.st u = u / 2 := if_neg (by omega)
      exact ⟨e, by rw [e]; omega⟩
  obtain ⟨a1, a0⟩ := key s hs
  obtain ⟨b1, b0⟩ := key t ht
  rcases Nat.mod_two_eq_zero_or_one s with h1 | h1 <;> rcases Nat.mod_two_eq_zero_or_one t with h2 | h2
  · have := (a0 h1).1; have := (b0 h2).1; omega
  · have := (a0 h1).2; have := (b1 h2).2; omega
  · have := (a1 h1).2; have := (b0 h2).2; omega
  · have e1 := (a1 h1).1
    have e2 := (b1 h2).1
    rw [e1, e2] at h
    have h3 : s / 2 = t / 2 := by
      have := congrArg (· ^^^ Crc.pol) h
      simpa [Nat.xor_assoc] using this
    omega
theorem stN_inj (n : Nat) : ∀ {s t : Nat}, s < 4294967296 → t < 4294967296 → Crc.stN n s = Crc.stN n t → s = t := by
  induction n with
  | zero => intro s t _ _ h; exact h
  | succ n ih => intro s t hs ht h; exact st_inj hs ht (ih (Crc.st_lt hs) (Crc.st_lt ht) h)
theorem take_inj (l : List UInt8) : ∀ {s t : Nat}, s < 4294967296 → t < 4294967296 → Crc.take s l = Crc.take t l → s = t := by
  induction l with
  | nil => intro s t _ _ h; exact h
  | cons c l ih =>
    intro s t hs ht h
    have h1 := ih (Crc.eat_lt c hs) (Crc.eat_lt c ht) h
    unfold Crc.eat at h1
    have hc := c.toNat_lt
    have h2 := stN_inj 8 (Nat.xor_lt_two_pow (n := 32) hs (by omega)) (Nat.xor_lt_two_pow (n := 32) ht (by omega)) h1
    have := congrArg (· ^^^ c.toNat) h2
    simpa [Nat.xor_assoc] using this
/-- The number that four bytes make. -/
def word (a b c d : UInt8) : Nat := a.toNat ^^^ (2 ^ 8 * b.toNat ^^^ (2 ^ 16 * c.toNat ^^^ 2 ^ 24 * d.toNat))
theorem stN_shift (m k x : Nat) : Crc.stN (m + k) (2 ^ m * x) = Crc.stN k x := by rw [Crc.stN_add, Crc.stN_pow]
theorem take4 (s : Nat) (a b c d : UInt8) : Crc.take s [a, b, c, d] = Crc.stN 32 (s ^^^ word a b c d) := by
  show Crc.eat (Crc.eat (Crc.eat (Crc.eat s a) b) c) d = _
  unfold Crc.eat word
  have e : ∀ x k y, Crc.stN 8 (Crc.stN k x ^^^ y) = Crc.stN (k + 8) (x ^^^ 2 ^ k * y) := by
    intro x k y
    rw [Crc.stN_add, Crc.stN_xor k, Crc.stN_pow]
  rw [e (s ^^^ a.toNat) 8 b.toNat, e (s ^^^ a.toNat ^^^ 2 ^ 8 * b.toNat) (8 + 8) c.toNat, e _ (8 + 8 + 8) d.toNat]
  simp only [Nat.reduceAdd]
  rw [Nat.xor_assoc, Nat.xor_assoc, Nat.xor_assoc]
theorem word_sum (a b c d : UInt8) : word a b c d = a.toNat + 256 * b.toNat + 65536 * c.toNat + 16777216 * d.toNat := by
  have ha := a.toNat_lt
  have hb := b.toNat_lt
  have hc := c.toNat_lt
  have hd := d.toNat_lt
  have j : ∀ (i x y : Nat), y < 2 ^ i → y ^^^ 2 ^ i * x = y + 2 ^ i * x := by
    intro i x y hy
    rw [Nat.xor_comm]
    have h1 : 2 ^ i * x ^^^ y = 2 ^ i * x + y := by
      apply Nat.eq_of_testBit_eq
      intro n
      rw [Nat.testBit_xor, Nat.testBit_two_pow_mul_add _ hy, Nat.testBit_two_pow_mul]
      by_cases hi : n < i
      · rw [if_pos hi, decide_eq_false (by omega)]; simp
      · rw [if_neg hi, decide_eq_true (by omega : n ≥ i), Nat.testBit_lt_two_pow (x := y) (i := n) (Nat.lt_of_lt_of_le hy (Nat.pow_le_pow_right (by decide) (by omega)))]
        simp
    omega
  unfold word
  rw [← Nat.xor_assoc, ← Nat.xor_assoc, j 8 _ _ (by omega), j 16 _ _ (by omega), j 24 _ _ (by omega)]
theorem word_inj {a b c d a' b' c' d' : UInt8} (h : word a b c d = word a' b' c' d') : [a, b, c, d] = [a', b', c', d'] := by
  rw [word_sum, word_sum] at h
  have ha := a.toNat_lt
  have hb := b.toNat_lt
  have hc := c.toNat_lt
  have hd := d.toNat_lt
  have ha' := a'.toNat_lt
  have hb' := b'.toNat_lt
  have hc' := c'.toNat_lt
  have hd' := d'.toNat_lt
  have h1 : a = a' := UInt8.toNat_inj.1 (by omega)
  have h2 : b = b' := UInt8.toNat_inj.1 (by omega)
  have h3 : c = c' := UInt8.toNat_inj.1 (by omega)
  have h4 : d = d' := UInt8.toNat_inj.1 (by omega)
  rw [h1, h2, h3, h4]
theorem word_lt (a b c d : UInt8) : word a b c d < 4294967296 := by
  rw [word_sum]
  have ha := a.toNat_lt
  have hb := b.toNat_lt
  have hc := c.toNat_lt
  have hd := d.toNat_lt
  omega
theorem take4_inj (s : Nat) (hs : s < 4294967296) {v w : List UInt8} (hv : v.length = 4) (hw : w.length = 4) (h : Crc.take s v = Crc.take s w) : v = w := by
  match v, hv, w, hw with
  | [a, b, c, d], _, [a', b', c', d'], _ =>
    rw [take4, take4] at h
    have h1 := stN_inj 32 (Nat.xor_lt_two_pow (n := 32) hs (word_lt _ _ _ _)) (Nat.xor_lt_two_pow (n := 32) hs (word_lt _ _ _ _)) h
    have h2 := congrArg (s ^^^ ·) h1
    simp only [← Nat.xor_assoc, Nat.xor_self, Nat.zero_xor] at h2
    exact word_inj h2
/-- Sequences that differ only within four bytes have one checksum, from any start, only if they are one. -/
theorem apart (s : Nat) (x v w y : List UInt8) (hv : v.length = 4) (hw : w.length = 4) (h : Crc.more s (x ++ (v ++ y)) = Crc.more s (x ++ (w ++ y))) : v = w := by
  unfold Crc.more at h
  have hs : 4294967295 - s < 4294967296 := by omega
  have b1 := Crc.take_lt (x ++ (v ++ y)) (s := 4294967295 - s) hs
  have b2 := Crc.take_lt (x ++ (w ++ y)) (s := 4294967295 - s) hs
  have h1 : Crc.take (4294967295 - s) (x ++ (v ++ y)) = Crc.take (4294967295 - s) (x ++ (w ++ y)) := by omega
  rw [Crc.take_append, Crc.take_append, Crc.take_append, Crc.take_append] at h1
  have hx := Crc.take_lt x (s := 4294967295 - s) hs
  exact take4_inj _ hx hv hw (take_inj y (Crc.take_lt v hx) (Crc.take_lt w hx) h1)

theorem beq_cast (a b : Nat) : ((a : Int) == (b : Int)) = decide (a = b) := by
  rw [Bool.eq_iff_iff, beq_iff_eq, decide_eq_true_iff]
  omega
theorem own_some {w : World} {base : Nat} {e : TypeId} {A : Option Addr} {n c size : Nat} {xs : List Value} (h : w.ownsRow base e size (.slice A n c) n xs) (hn : 0 < n) : ∃ g, A = some ⟨g, 0, none⟩ := by
  obtain ⟨g, cap, hv, _, _⟩ := h.form hn
  injection hv with hA
  exact ⟨g, hA⟩
end Go.Proofs.YtedoajiapicpnaaDoor
