/-
  Layer 1, plain: reading by the forms.
-/
import Derived.Test.YtnldiemggabdkaaDoorUtfE
import Derived.Test.YtnldiemggabdkaaDoorUtfB
namespace Go.Proofs.YtnldiemggabdkaaDoor
open Go.RowKit

/-- The index of the form that a first byte begins. -/
def sIdx (n : Int) : Nat := firstK fun k => startsB (fs k) (fd k) n
theorem sIdx_cases (n : Nat) (h : n < 256) : (n < 128 ∧ sIdx n = 0) ∨ (128 ≤ n ∧ n < 192 ∧ sIdx n = 4) ∨ (192 ≤ n ∧ n < 224 ∧ sIdx n = 1) ∨ (224 ≤ n ∧ n < 240 ∧ sIdx n = 2) ∨ (240 ≤ n ∧ n < 248 ∧ sIdx n = 3) ∨ (248 ≤ n ∧ sIdx n = 4) := by
  unfold sIdx
  have s0 : startsB (fs 0) (fd 0) n = decide (n < 128) := by rw [Bool.eq_iff_iff]; simp [startsB, fs, fd, roomOf]; omega
  have s1 : startsB (fs 1) (fd 1) n = decide (192 ≤ n ∧ n < 224) := by rw [Bool.eq_iff_iff]; simp [startsB, fs, fd, roomOf]; omega
  have s2 : startsB (fs 2) (fd 2) n = decide (224 ≤ n ∧ n < 240) := by rw [Bool.eq_iff_iff]; simp [startsB, fs, fd, roomOf]; omega
  have s3 : startsB (fs 3) (fd 3) n = decide (240 ≤ n ∧ n < 248) := by rw [Bool.eq_iff_iff]; simp [startsB, fs, fd, roomOf]; omega
  unfold firstK
  simp only [s0, s1, s2, s3, decide_eq_true_eq]
  by_cases h0 : n < 128
  · exact .inl ⟨h0, by rw [if_pos h0]⟩
  by_cases h1 : n < 192
  · exact .inr (.inl ⟨by omega, h1, by rw [if_neg (by omega), if_neg (by omega), if_neg (by omega), if_neg (by omega)]⟩)
  by_cases h2 : n < 224
  · exact .inr (.inr (.inl ⟨by omega, h2, by rw [if_neg (by omega), if_pos (by omega)]⟩))
  by_cases h3 : n < 240
  · exact .inr (.inr (.inr (.inl ⟨by omega, h3, by rw [if_neg (by omega), if_neg (by omega), if_pos (by omega)]⟩)))
  by_cases h4 : n < 248
  · exact .inr (.inr (.inr (.inr (.inl ⟨by omega, h4, by rw [if_neg (by omega), if_neg (by omega), if_neg (by omega), if_pos (by omega)]⟩))))
  · exact .inr (.inr (.inr (.inr (.inr ⟨by omega, by rw [if_neg (by omega), if_neg (by omega), if_neg (by omega), if_neg (by omega)]⟩))))
theorem holds_iff (l h n : Int) : holdsB l h n = true ↔ l ≤ n ∧ n ≤ h ∧ (n < 55296 ∨ 57343 < n) := by unfold holdsB; simp
def fdN : Nat → Nat | 0 => 0 | 1 => 192 | 2 => 224 | 3 => 240 | _ => 0
theorem fdN_fd (k : Nat) : fd k = (fdN k : Int) := by
  match k with
  | 0 => rfl
  | 1 => rfl
  | 2 => rfl
  | 3 => rfl
  | _ + 4 => rfl
theorem fs_of (k : Nat) (h : k < 4) : fs k = ((k + 1 : Nat) : Int) := by
  rcases (show k = 0 ∨ k = 1 ∨ k = 2 ∨ k = 3 by omega) with rfl | rfl | rfl | rfl <;> rfl
/-- The number that j bytes give, the first less its lead. -/
def part (l : List UInt8) (d : Nat) : Nat → Nat
  | 0 => 0
  | 1 => (l.getD 0 0).toNat - d
  | j + 2 => part l d (j + 1) * 64 + ((l.getD (j + 1) 0).toNat - 128)
theorem part_succ (l : List UInt8) (d j : Nat) (h : 1 ≤ j) : part l d (j + 1) = part l d j * 64 + ((l.getD j 0).toNat - 128) := by
  match j, h with
  | j + 1, _ => rfl
theorem part_lt (l : List UInt8) (d : Nat) (hc : ∀ q, (l.getD q 0).toNat < 256) (h0 : (l.getD 0 0).toNat - d < 128) (j : Nat) (hj : j ≤ 4) : part l d j < 100000000 := by
  have p0 : part l d 0 = 0 := rfl
  have p1 : part l d 1 = (l.getD 0 0).toNat - d := rfl
  have p2 := part_succ l d 1 (by omega)
  have p3 := part_succ l d 2 (by omega)
  have p4 := part_succ l d 3 (by omega)
  have q1 := hc 1
  have q2 := hc 2
  have q3 := hc 3
  rcases (show j = 0 ∨ j = 1 ∨ j = 2 ∨ j = 3 ∨ j = 4 by omega) with rfl | rfl | rfl | rfl | rfl
  · omega
  · omega
  · simp only [Nat.reduceAdd] at p2; omega
  · simp only [Nat.reduceAdd] at p2 p3; omega
  · simp only [Nat.reduceAdd] at p2 p3 p4; omega

theorem dec_none (l : List UInt8) (h : sIdx ((l.getD 0 0).toNat : Int) = 4) : decL l = (0, 0) := by
  rcases l with _ | ⟨a, r⟩
  · rfl
  have hs := sIdx_cases a.toNat a.toNat_lt
  have h' : sIdx (a.toNat : Int) = 4 := h
  simp only [decL]
  rw [h'] at hs
  rcases hs with h | h | h | h | h | h
  · omega
  · rw [if_neg (by omega), if_pos (by omega)]
  · omega
  · omega
  · omega
  · rw [if_neg (by omega), if_neg (by omega), if_neg (by omega), if_neg (by omega), if_neg (by omega)]
theorem dec_short (l : List UInt8) (k : Nat) (hk : sIdx ((l.getD 0 0).toNat : Int) = k) (hl : 0 < l.length) (h4 : k < 4) (h : l.length < k + 1) : decL l = (0, 0) := by
  rcases l with _ | ⟨a, r⟩
  · rfl
  have hs := sIdx_cases a.toNat a.toNat_lt
  have h' : sIdx (a.toNat : Int) = k := hk
  simp only [decL]
  simp only [List.length_cons] at h
  rw [h'] at hs
  rcases hs with h | h | h | h | h | h
  · omega
  · omega
  · rw [if_neg (by omega), if_neg (by omega), if_pos (by omega)]
    rcases r with _ | ⟨b, r⟩
    · rfl
    · simp at *; omega
  · rw [if_neg (by omega), if_neg (by omega), if_neg (by omega), if_pos (by omega)]
    rcases r with _ | ⟨b, _ | ⟨c, r⟩⟩
    · rfl
    · rfl
    · simp at *; omega
  · rw [if_neg (by omega), if_neg (by omega), if_neg (by omega), if_neg (by omega), if_pos (by omega)]
    rcases r with _ | ⟨b, _ | ⟨c, _ | ⟨d, r⟩⟩⟩
    · rfl
    · rfl
    · rfl
    · simp at *; omega
  · omega
theorem okIf_false (c n : Nat) : okIf false c n = (0, 0) := rfl
theorem dec_bad (l : List UInt8) (k : Nat) (hk : sIdx ((l.getD 0 0).toNat : Int) = k) (h4 : k < 4) (hl : k + 1 ≤ l.length) (q : Nat) (hq1 : 1 ≤ q) (hq : q ≤ k) (hb : cont (l.getD q 0) = false) : decL l = (0, 0) := by
  rcases l with _ | ⟨a, r⟩
  · rfl
  have hs := sIdx_cases a.toNat a.toNat_lt
  have h' : sIdx (a.toNat : Int) = k := hk
  simp only [decL]
  simp only [List.length_cons] at hl
  rw [h'] at hs
  rcases hs with h | h | h | h | h | h
  · omega
  · omega
  · rw [if_neg (by omega), if_neg (by omega), if_pos (by omega)]
    obtain rfl : q = 1 := by omega
    rcases r with _ | ⟨b, r⟩
    · rfl
    · have hb' : cont b = false := hb
      simp only [hb', Bool.false_and, okIf_false]
  · rw [if_neg (by omega), if_neg (by omega), if_neg (by omega), if_pos (by omega)]
    rcases r with _ | ⟨b, _ | ⟨c, r⟩⟩
    · rfl
    · rfl
    · rcases (show q = 1 ∨ q = 2 by omega) with rfl | rfl
      · have hb' : cont b = false := hb
        simp only [hb', Bool.false_and, okIf_false]
      · have hb' : cont c = false := hb
        simp only [hb', Bool.false_and, Bool.and_false, okIf_false]
  · rw [if_neg (by omega), if_neg (by omega), if_neg (by omega), if_neg (by omega), if_pos (by omega)]
    rcases r with _ | ⟨b, _ | ⟨c, _ | ⟨d, r⟩⟩⟩
    · rfl
    · rfl
    · rfl
    · rcases (show q = 1 ∨ q = 2 ∨ q = 3 by omega) with rfl | rfl | rfl
      · have hb' : cont b = false := hb
        simp only [hb', Bool.false_and, okIf_false]
      · have hb' : cont c = false := hb
        simp only [hb', Bool.false_and, Bool.and_false, okIf_false]
      · have hb' : cont d = false := hb
        simp only [hb', Bool.false_and, Bool.and_false, okIf_false]
  · omega
theorem dec_all (l : List UInt8) (k : Nat) (hk : sIdx ((l.getD 0 0).toNat : Int) = k) (h4 : k < 4) (hl : k + 1 ≤ l.length) (hc : ∀ q, 1 ≤ q → q < k + 1 → cont (l.getD q 0) = true) :
    decL l = okIf (holdsB (fl k) (fh k) (part l (fdN k) (k + 1) : Nat)) (part l (fdN k) (k + 1)) (k + 1) := by
  rcases l with _ | ⟨a, r⟩
  · simp at hl
  have hs := sIdx_cases a.toNat a.toNat_lt
  have h' : sIdx (a.toNat : Int) = k := hk
  simp only [decL]
  simp only [List.length_cons] at hl
  rw [h'] at hs
  rcases hs with ⟨h, rfl⟩ | h | ⟨h, h2, rfl⟩ | ⟨h, h2, rfl⟩ | ⟨h, h2, rfl⟩ | h
  · rw [if_pos h]
    have e1 : part (a :: r) (fdN 0) (0 + 1) = a.toNat := rfl
    have e : holdsB (fl 0) (fh 0) (a.toNat : Int) = true := (holds_iff _ _ _).2 ⟨show (0 : Int) ≤ _ by omega, show _ ≤ (127 : Int) by omega, .inl (by omega)⟩
    rw [e1, e]
    rfl
  · omega
  · rw [if_neg (by omega), if_neg (by omega), if_pos (by omega)]
    rcases r with _ | ⟨b, r⟩
    · simp at hl
    · have c1 : cont b = true := hc 1 (by omega) (by omega)
      have c1' := (cont_iff _).1 c1
      have e : part (a :: b :: r) (fdN 1) (1 + 1) = (a.toNat - 192) * 64 + (b.toNat - 128) := rfl
      rw [e]
      dsimp only
      generalize hx : (a.toNat - 192) * 64 + (b.toNat - 128) = x
      have hb : (cont b && decide (128 ≤ x)) = holdsB (fl 1) (fh 1) (x : Int) := by
        rw [c1, Bool.eq_iff_iff, holds_iff, Bool.true_and, decide_eq_true_eq]
        show _ ↔ (128 : Int) ≤ x ∧ (x : Int) ≤ 2047 ∧ _
        omega
      rw [hb]
  · rw [if_neg (by omega), if_neg (by omega), if_neg (by omega), if_pos (by omega)]
    rcases r with _ | ⟨b, _ | ⟨c, r⟩⟩
    · simp at hl
    · simp at hl
    · have c1 : cont b = true := hc 1 (by omega) (by omega)
      have c2 : cont c = true := hc 2 (by omega) (by omega)
      have c1' := (cont_iff _).1 c1
      have c2' := (cont_iff _).1 c2
      have e : part (a :: b :: c :: r) (fdN 2) (2 + 1) = ((a.toNat - 224) * 64 + (b.toNat - 128)) * 64 + (c.toNat - 128) := rfl
      rw [e]
      dsimp only
      generalize hx : ((a.toNat - 224) * 64 + (b.toNat - 128)) * 64 + (c.toNat - 128) = x
      have hb : (cont b && cont c && decide (2048 ≤ x) && isCp x) = holdsB (fl 2) (fh 2) (x : Int) := by
        rw [c1, c2, Bool.eq_iff_iff, holds_iff]
        simp only [Bool.true_and, Bool.and_eq_true, isCp_iff, decide_eq_true_eq]
        show _ ↔ (2048 : Int) ≤ x ∧ (x : Int) ≤ 65535 ∧ _
        omega
      rw [hb]
  · rw [if_neg (by omega), if_neg (by omega), if_neg (by omega), if_neg (by omega), if_pos (by omega)]
    rcases r with _ | ⟨b, _ | ⟨c, _ | ⟨d, r⟩⟩⟩
    · simp at hl
    · simp at hl
    · simp at hl
    · have c1 : cont b = true := hc 1 (by omega) (by omega)
      have c2 : cont c = true := hc 2 (by omega) (by omega)
      have c3 : cont d = true := hc 3 (by omega) (by omega)
      have c1' := (cont_iff _).1 c1
      have c2' := (cont_iff _).1 c2
      have c3' := (cont_iff _).1 c3
      have e : part (a :: b :: c :: d :: r) (fdN 3) (3 + 1) = (((a.toNat - 240) * 64 + (b.toNat - 128)) * 64 + (c.toNat - 128)) * 64 + (d.toNat - 128) := rfl
      rw [e]
      dsimp only
      generalize hx : (((a.toNat - 240) * 64 + (b.toNat - 128)) * 64 + (c.toNat - 128)) * 64 + (d.toNat - 128) = x
      have hb : (cont b && cont c && cont d && decide (65536 ≤ x) && isCp x) = holdsB (fl 3) (fh 3) (x : Int) := by
        rw [c1, c2, c3, Bool.eq_iff_iff, holds_iff]
        simp only [Bool.true_and, Bool.and_eq_true, isCp_iff, decide_eq_true_eq]
        show _ ↔ (65536 : Int) ≤ x ∧ (x : Int) ≤ 1114111 ∧ _
        omega
      rw [hb]
  · omega
set_option maxRecDepth 20000 in
/-- Bits of a byte that goes on. -/
theorem and192 (x : UInt8) : (bits .and .i64 (x.toNat : Int) 192 != 128) = !cont x := by
  have h := i64_and_nat x.toNat 192 (by have := x.toNat_lt; omega) (by omega)
  rw [show ((192 : Nat) : Int) = 192 from rfl] at h
  rw [h]
  have key : ∀ n : Nat, n < 256 → ((n &&& 192 : Nat) != 128) = !(decide (128 ≤ n) && decide (n < 192)) := by decide +kernel
  have k2 := key x.toNat x.toNat_lt
  unfold cont
  rw [← k2]
  rw [Bool.eq_iff_iff]
  simp
  omega
theorem step6 (p x : Nat) (hp : p < 100000000) (h1 : 128 ≤ x) (h2 : x < 192) : bits .or .i64 ((p : Int) * 64) (bits .and .i64 (x : Int) 63) = ((p * 64 + (x - 128) : Nat) : Int) := by
  rw [and63 x (by omega)]
  have := i64_or_nat (p * 64) (x % 64) (by omega) (by omega)
  rw [show ((p * 64 : Nat) : Int) = (p : Int) * 64 from by push_cast; rfl] at this
  have h2 := or_sum 6 p (x % 64) (by omega)
  rw [show 2 ^ 6 * p = p * 64 by omega] at h2
  rw [this, h2, show x % 64 = x - 128 by omega]
end Go.Proofs.YtnldiemggabdkaaDoor
