/-
  Layer 1, plain: bits of the bytes, in the walk's spelling.
-/
import Derived.Test.YtnldiemggabdkaaDoorUtfP
import Derived.Laws.BitsAllLaws
import Derived.Laws.BitsLemmas
import Derived.IntWalk
namespace Go.Proofs.YtnldiemggabdkaaDoor
open Go.RowKit

theorem ofInt_i64 (a : Nat) (ha : a < 9223372036854775808) : (BitVec.ofInt 64 (a : Int)).toNat = a := by
  rw [BitVec.ofInt_natCast, BitVec.toNat_ofNat]; exact Nat.mod_eq_of_lt (by omega)
theorem i64_and_nat (a b : Nat) (ha : a < 9223372036854775808) (hb : b < 9223372036854775808) : bits .and .i64 (a : Int) (b : Int) = ((a &&& b : Nat) : Int) := by
  have hx : a &&& b < 2 ^ 63 := Nat.and_lt_two_pow _ (by omega)
  show IntKind.i64.wrap ((BitVec.ofInt 64 (a : Int) &&& BitVec.ofInt 64 (b : Int)).toNat : Int) = _
  rw [BitVec.toNat_and, ofInt_i64 a ha, ofInt_i64 b hb, IntKind.wrap_i64]
  omega
theorem i64_or_nat (a b : Nat) (ha : a < 9223372036854775808) (hb : b < 9223372036854775808) : bits .or .i64 (a : Int) (b : Int) = ((a ||| b : Nat) : Int) := by
  have hx : a ||| b < 2 ^ 63 := Nat.or_lt_two_pow (by omega) (by omega)
  show IntKind.i64.wrap ((BitVec.ofInt 64 (a : Int) ||| BitVec.ofInt 64 (b : Int)).toNat : Int) = _
  rw [BitVec.toNat_or, ofInt_i64 a ha, ofInt_i64 b hb, IntKind.wrap_i64]
  omega
theorem or_sum (i a b : Nat) (h : b < 2 ^ i) : (2 ^ i * a) ||| b = 2 ^ i * a + b := (Nat.two_pow_add_eq_or_of_lt h a).symm
theorem wrap8 (n : Nat) (h : n < 256) : IntKind.u8.wrap (n : Int) = (n : Int) := by
  have : IntKind.u8.wrap (n : Int) = (n : Int) % 256 := by simp [IntKind.wrap, IntKind.bits, IntKind.signed]
  rw [this]; omega
theorem or_i (i a x : Nat) (h : x < 2 ^ i) (hi : 2 ^ i * a + x < 256) (ha : 2 ^ i * a < 256) : IntKind.u8.wrap (bits .or .i64 ((2 ^ i * a : Nat) : Int) (x : Int)) = ((b8 (2 ^ i * a + x)).toNat : Int) := by
  rw [i64_or_nat _ _ (by omega) (by omega), or_sum _ _ _ h, wrap8 _ hi, b8_toNat _ hi]
theorem yb_first1 (c : Nat) (h : c ≤ 127) : IntKind.u8.wrap (bits .or .i64 0 (c : Int)) = ((b8 c).toNat : Int) := by
  have := or_i 7 0 c (by omega) (by omega) (by omega)
  simpa using this
theorem yb_first2 (c : Nat) (h : c ≤ 2047) : IntKind.u8.wrap (bits .or .i64 192 ((c : Int) / 64)) = ((b8 (192 + c / 64)).toNat : Int) :=
  or_i 5 6 (c / 64) (by omega) (by omega) (by omega)
theorem yb_first3 (c : Nat) (h : c ≤ 65535) : IntKind.u8.wrap (bits .or .i64 224 ((c : Int) / 4096)) = ((b8 (224 + c / 4096)).toNat : Int) :=
  or_i 4 14 (c / 4096) (by omega) (by omega) (by omega)
theorem yb_first4 (c : Nat) (h : c ≤ 1114111) : IntKind.u8.wrap (bits .or .i64 240 ((c : Int) / 262144)) = ((b8 (240 + c / 262144)).toNat : Int) :=
  or_i 3 30 (c / 262144) (by omega) (by omega) (by omega)
theorem and63 (x : Nat) (h : x < 9223372036854775808) : bits .and .i64 (x : Int) 63 = ((x % 64 : Nat) : Int) := by
  have := i64_and_nat x 63 h (by omega)
  rw [show ((63 : Nat) : Int) = 63 from rfl] at this
  rw [this, show (63 : Nat) = 2 ^ 6 - 1 from rfl, Nat.and_two_pow_sub_one_eq_mod]
theorem yb_next (x : Nat) (h : x ≤ 1114111) : IntKind.u8.wrap (bits .or .i64 128 (bits .and .i64 (x : Int) 63)) = ((b8 (128 + x % 64)).toNat : Int) := by
  rw [and63 x (by omega)]
  exact or_i 6 2 (x % 64) (by omega) (by omega) (by omega)
end Go.Proofs.YtnldiemggabdkaaDoor
