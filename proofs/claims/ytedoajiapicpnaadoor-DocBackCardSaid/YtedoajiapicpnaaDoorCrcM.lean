/-
  The mathematics of the checksum: a register of 32 bits that consumes bits, over the natural numbers. No program in sight.
-/
import Derived.WalkKit
namespace Go.Proofs.YtedoajiapicpnaaDoor.Crc

def pol : Nat := 2197175160
/-- A zero bit is consumed. -/
def st (s : Nat) : Nat := if s % 2 = 1 then (s / 2) ^^^ pol else s / 2
/-- A bit x is consumed. -/
def bit (s x : Nat) : Nat := if s % 2 = x then s / 2 else (s / 2) ^^^ pol
def stN : Nat → Nat → Nat
  | 0, s => s
  | n + 1, s => stN n (st s)

theorem xor_half (a b : Nat) : (a ^^^ b) / 2 = a / 2 ^^^ b / 2 := by
  have h := Nat.shiftRight_xor_distrib (a := a) (b := b) (i := 1)
  simpa [Nat.shiftRight_eq_div_pow] using h
theorem xor_16 (a b : Nat) : (a ^^^ b) / 16 = a / 16 ^^^ b / 16 := by
  have h := Nat.shiftRight_xor_distrib (a := a) (b := b) (i := 4)
  simpa [Nat.shiftRight_eq_div_pow] using h
theorem xor_odd (a b : Nat) : (a ^^^ b) % 2 = (a + b) % 2 := by
  have h := Nat.xor_mod_two_pow (a := a) (b := b) (n := 1)
  simp only [Nat.pow_one] at h
  rw [h]
  rcases Nat.mod_two_eq_zero_or_one a with ha | ha <;> rcases Nat.mod_two_eq_zero_or_one b with hb | hb <;> rw [ha, hb] <;> first | (show 0 = _; omega) | (show 1 = _; omega)
theorem xor_swap (a b c d : Nat) : (a ^^^ b) ^^^ (c ^^^ d) = (a ^^^ c) ^^^ (b ^^^ d) := by
  rw [Nat.xor_assoc, ← Nat.xor_assoc b c d, Nat.xor_comm b c, Nat.xor_assoc c b d, ← Nat.xor_assoc]
theorem st_xor (a b : Nat) : st (a ^^^ b) = st a ^^^ st b := by
  unfold st
  rw [xor_half, xor_odd]
  rcases Nat.mod_two_eq_zero_or_one a with ha | ha <;> rcases Nat.mod_two_eq_zero_or_one b with hb | hb
  · rw [if_neg (by omega), if_neg (by omega), if_neg (by omega)]
  · rw [if_pos (by omega), if_neg (by omega), if_pos (by omega), Nat.xor_assoc]
  · rw [if_pos (by omega), if_pos (by omega), if_neg (by omega), Nat.xor_assoc, Nat.xor_comm (b / 2) pol, ← Nat.xor_assoc]
  · rw [if_neg (by omega), if_pos (by omega), if_pos (by omega), xor_swap, Nat.xor_self, Nat.xor_zero]
theorem st_lt {s : Nat} (h : s < 4294967296) : st s < 4294967296 := by
  unfold st
  split
  · exact Nat.xor_lt_two_pow (n := 32) (by omega) (by decide)
  · omega
theorem st_double (s : Nat) : st (2 * s) = s := by
  unfold st
  rw [if_neg (by omega)]
  omega
theorem bit_st (s c : Nat) : bit s (c % 2) ^^^ (c / 2) = st (s ^^^ c) := by
  unfold st bit
  rw [xor_half, xor_odd]
  by_cases h : s % 2 = c % 2
  · rw [if_pos h, if_neg (by omega)]
  · rw [if_neg h, if_pos (by omega), Nat.xor_assoc, Nat.xor_comm pol, ← Nat.xor_assoc]
theorem bit_lt {s : Nat} (x : Nat) (h : s < 4294967296) : bit s x < 4294967296 := by
  unfold bit
  split
  · omega
  · exact Nat.xor_lt_two_pow (n := 32) (by omega) (by decide)
theorem stN_xor (n : Nat) : ∀ a b : Nat, stN n (a ^^^ b) = stN n a ^^^ stN n b := by
  induction n with
  | zero => intro a b; rfl
  | succ n ih => intro a b; show stN n (st (a ^^^ b)) = _; rw [st_xor, ih]; rfl
theorem stN_lt (n : Nat) : ∀ {s : Nat}, s < 4294967296 → stN n s < 4294967296 := by
  induction n with
  | zero => intro s h; exact h
  | succ n ih => intro s h; exact ih (st_lt h)
theorem stN_add (m n : Nat) : ∀ s, stN (m + n) s = stN n (stN m s) := by
  induction m with
  | zero => intro s; rw [Nat.zero_add]; rfl
  | succ m ih => intro s; rw [show m + 1 + n = (m + n) + 1 by omega]; exact ih (st s)
theorem stN_succ (n s : Nat) : stN (n + 1) s = st (stN n s) := by rw [stN_add]; rfl
theorem stN_zero (n : Nat) : stN n 0 = 0 := by
  induction n with
  | zero => rfl
  | succ n ih => exact ih
theorem stN_pow (k : Nat) : ∀ s, stN k (2 ^ k * s) = s := by
  induction k with
  | zero => intro s; show 1 * s = s; omega
  | succ k ih => intro s; show stN k (st (2 ^ (k + 1) * s)) = s; rw [show 2 ^ (k + 1) * s = 2 * (2 ^ k * s) by rw [Nat.pow_succ, Nat.mul_comm (2 ^ k) 2, Nat.mul_assoc], st_double, ih]

/-- What four zero bits make of the lowest four. -/
def tab : List Nat := [0, 274646895, 549293790, 820201905, 1098587580, 1361435347, 1640403810, 1905808397, 2197175160, 2460548119, 2722870694, 2987750089, 3280807620, 3553878443, 3811616794, 4084100981]
def tb (i : Nat) : Nat := tab.getD i 0
theorem tb_st (i : Nat) (h : i < 16) : tb i = stN 4 i := by
  have : ∀ i < 16, tb i = stN 4 i := by decide
  exact this i h
theorem tb_lt (i : Nat) (h : i < 16) : tb i < 4294967296 := by rw [tb_st i h]; exact stN_lt 4 (by omega)
theorem split16 (u : Nat) : u = 2 ^ 4 * (u / 16) ^^^ u % 16 := by
  have h1 : 2 ^ 4 * (u / 16) ^^^ u % 16 = 2 ^ 4 * (u / 16) + u % 16 := by
    apply Nat.eq_of_testBit_eq
    intro i
    rw [Nat.testBit_xor, Nat.testBit_two_pow_mul_add _ (by omega), Nat.testBit_two_pow_mul]
    by_cases hi : i < 4
    · rw [if_pos hi, decide_eq_false (by omega)]; simp
    · rw [if_neg hi, decide_eq_true (by omega : i ≥ 4), Nat.testBit_lt_two_pow (x := u % 16) (i := i) (by have := Nat.pow_le_pow_right (n := 2) (by decide) (show 4 ≤ i by omega); omega)]
      simp
  rw [h1]; omega
theorem stN4 (u : Nat) : stN 4 u = u / 16 ^^^ tb (u % 16) := by
  conv => lhs; rw [split16 u]
  rw [stN_xor, stN_pow 4, tb_st _ (by omega)]
/-- A quarter of two bytes. -/
def quarter (s x : Nat) : Nat := s / 16 ^^^ tb ((s ^^^ x) % 16)
theorem quarter_st (s x : Nat) : quarter s x = stN 4 (s ^^^ x % 16) := by
  rw [stN4, xor_16, show x % 16 / 16 = 0 by omega, Nat.xor_zero]
  unfold quarter
  have h1 := Nat.xor_mod_two_pow (a := s) (b := x) (n := 4)
  have h2 := Nat.xor_mod_two_pow (a := s) (b := x % 16) (n := 4)
  simp only [Nat.reducePow] at h1 h2
  rw [h1, h2, Nat.mod_mod]
theorem quarter_lt {s : Nat} (x : Nat) (h : s < 4294967296) : quarter s x < 4294967296 := by
  rw [quarter_st]; exact stN_lt 4 (Nat.xor_lt_two_pow (n := 32) h (by omega))
/-- A byte is consumed. -/
def eat (s : Nat) (c : UInt8) : Nat := stN 8 (s ^^^ c.toNat)
theorem eat_lt {s : Nat} (c : UInt8) (h : s < 4294967296) : eat s c < 4294967296 := stN_lt 8 (Nat.xor_lt_two_pow (n := 32) h (by have := c.toNat_lt; omega))
theorem quarters (s : Nat) (c : UInt8) : quarter (quarter s c.toNat) (c.toNat / 16) = eat s c := by
  have hc := c.toNat_lt
  unfold eat
  rw [quarter_st, quarter_st, show c.toNat / 16 % 16 = c.toNat / 16 by omega, stN_add 4 4]
  conv => rhs; rw [split16 c.toNat]
  rw [Nat.xor_comm (2 ^ 4 * _), ← Nat.xor_assoc, stN_xor 4 (s ^^^ c.toNat % 16), stN_pow 4]
def take (s : Nat) (l : List UInt8) : Nat := l.foldl eat s
theorem take_lt (l : List UInt8) : ∀ {s : Nat}, s < 4294967296 → take s l < 4294967296 := by
  induction l with
  | nil => intro s h; exact h
  | cons c l ih => intro s h; exact ih (eat_lt c h)
theorem take_append (s : Nat) (l m : List UInt8) : take s (l ++ m) = take (take s l) m := List.foldl_append
theorem take_one (s : Nat) (c : UInt8) : take s [c] = eat s c := by unfold take; rw [List.foldl_cons, List.foldl_nil]
/-- A sum that goes on. -/
def more (s : Nat) (l : List UInt8) : Nat := 4294967295 - take (4294967295 - s) l
theorem more_lt (s : Nat) (l : List UInt8) : more s l < 4294967296 := Nat.lt_of_le_of_lt (Nat.sub_le _ _) (by decide)
def laid (s : Nat) : List UInt8 := [UInt8.ofNat s, UInt8.ofNat (s / 256), UInt8.ofNat (s / 65536), UInt8.ofNat (s / 16777216)]

/-- The complement is an exclusive or. -/
theorem comp (s : Nat) (h : s < 4294967296) : 4294967295 - s = 4294967295 ^^^ s := by
  apply Nat.eq_of_testBit_eq
  intro i
  have h1 := Nat.testBit_two_pow_sub_succ (x := s) (n := 32) (by simpa using h) i
  have h2 := Nat.testBit_two_pow_sub_one 32 i
  simp only [Nat.reducePow, Nat.reduceSub] at h1 h2
  rw [Nat.testBit_xor, h2, show 4294967295 - s = 4294967296 - (s + 1) by omega, h1]
  by_cases hi : i < 32
  · simp [hi]
  · rw [Nat.testBit_lt_two_pow (x := s) (i := i) (by have := Nat.pow_le_pow_right (n := 2) (by decide) (show 32 ≤ i by omega); omega)]
    simp [hi]
/-- A linear map of the register. -/
structure Lin (f : Nat → Nat) : Prop where
  zero : f 0 = 0
  xor : ∀ a b, f (a ^^^ b) = f a ^^^ f b
  lt : ∀ a, a < 4294967296 → f a < 4294967296
theorem Lin.stN (n : Nat) : Lin (stN n) := ⟨stN_zero n, stN_xor n, fun _ h => stN_lt n h⟩
theorem Lin.twice {f : Nat → Nat} (h : Lin f) : Lin (fun s => f (f s)) := ⟨by rw [h.zero, h.zero], fun a b => by rw [h.xor, h.xor], fun a ha => h.lt _ (h.lt a ha)⟩
theorem split_bit (s k : Nat) : s % 2 ^ (k + 1) = s % 2 ^ k ^^^ s / 2 ^ k % 2 * 2 ^ k := by
  have h1 : s % 2 ^ k ^^^ s / 2 ^ k % 2 * 2 ^ k = s / 2 ^ k % 2 * 2 ^ k + s % 2 ^ k := by
    rw [Nat.xor_comm]
    apply Nat.eq_of_testBit_eq
    intro i
    rw [Nat.mul_comm, Nat.testBit_xor, Nat.testBit_two_pow_mul_add _ (Nat.mod_lt _ (Nat.two_pow_pos k)), Nat.testBit_two_pow_mul]
    by_cases hi : i < k
    · rw [if_pos hi, decide_eq_false (by omega)]; simp
    · rw [if_neg hi, decide_eq_true (by omega : i ≥ k), Nat.testBit_lt_two_pow (x := s % 2 ^ k) (i := i) (Nat.lt_of_lt_of_le (Nat.mod_lt _ (Nat.two_pow_pos k)) (Nat.pow_le_pow_right (by decide) (by omega)))]
      simp
  rw [h1, Nat.mod_pow_succ, Nat.mul_comm, Nat.add_comm]
theorem Lin.next {f : Nat → Nat} (h : Lin f) (s k : Nat) : f (s % 2 ^ (k + 1)) = if s / 2 ^ k % 2 = 1 then f (s % 2 ^ k) ^^^ f (2 ^ k) else f (s % 2 ^ k) := by
  rw [split_bit, h.xor]
  split
  · rename_i h1
    rw [h1, Nat.one_mul]
  · rename_i h1
    rw [show s / 2 ^ k % 2 = 0 by omega, Nat.zero_mul, h.zero, Nat.xor_zero]
end Go.Proofs.YtedoajiapicpnaaDoor.Crc
