/-
  Layer 2: the model's own way with a text's code points, and mine.
-/
import Derived.Test.YtgnialemiefeeaaDoorQuoS
import Derived.Test.YtgnialemiefeeaaDoorStr
namespace Go.Proofs.YtgnialemiefeeaaDoor
open Go.RowKit

theorem encode_cp (c : Nat) (h : isCp c = true) : Utf8.encode (c : Int) = ofL (encL c) := by
  have hc := (isCp_iff c).1 h
  have hv : Utf8.valid (c : Int) = true := by unfold Utf8.valid; simp; omega
  unfold Utf8.encode encL ofL b8
  simp only [hv, if_true, Int.toNat_natCast]
  split
  · rfl
  · split
    · rfl
    · split
      · rfl
      · rfl
theorem get_drop (s : ByteArray) (l : List UInt8) (hs : s.data.toList = l) (p k : Nat) : (s.get! (p + k)).toNat = at0 (l.drop p) k := by
  rw [at0_drop]
  unfold at0
  subst hs
  congr 1
  show s.data[p + k]! = s.data.toList.getD (p + k) 0
  rw [List.getD_eq_getElem?_getD, Array.getElem?_toList, getElem!_def]
  cases s.data[p + k]? <;> rfl
theorem decode_cp (s : ByteArray) (l : List UInt8) (hs : s.data.toList = l) (p c n : Nat) (h : decL (l.drop p) = (c, n)) (hn : n ≠ 0) : Utf8.decode s p = (c, n) := by
  have g := get_drop s l hs p
  obtain ⟨hc, r, e, e2⟩ := enc_dec h hn
  have hc' := (isCp_iff c).1 hc
  have hsz : s.size = l.length := by rw [← hs, Array.length_toList]; rfl
  have hle : p + n ≤ l.length := by
    have := congrArg List.length e
    rw [List.length_drop, List.length_append, ← e2] at this
    omega
  have hv : Utf8.valid (c : Int) = true := by unfold Utf8.valid; simp; omega
  simp only [Utf8.decode, g]
  rw [e] at g ⊢
  unfold encL at e2 ⊢
  by_cases c1 : c < 128
  · rw [if_pos c1] at e2 ⊢
    have a0 : at0 ([b8 c] ++ r) 0 = c := b8_toNat c (by omega)
    rw [a0, if_pos c1, e2]
    rfl
  · rw [if_neg c1] at e2 ⊢
    by_cases c2 : c < 2048
    · rw [if_pos c2] at e2 ⊢
      have a0 : at0 ([b8 (192 + c / 64), b8 (128 + c % 64)] ++ r) 0 = 192 + c / 64 := b8_toNat _ (by omega)
      have a1 : at0 ([b8 (192 + c / 64), b8 (128 + c % 64)] ++ r) 1 = 128 + c % 64 := b8_toNat _ (by omega)
      have e3 : n = 2 := e2
      subst e3
      rw [a0, a1, if_neg (by omega), if_pos (by simp; omega), if_pos (by omega)]
      refine Prod.ext ?_ rfl
      simp only
      omega
    · rw [if_neg c2] at e2 ⊢
      by_cases c3 : c < 65536
      · rw [if_pos c3] at e2 ⊢
        have a0 : at0 ([b8 (224 + c / 4096), b8 (128 + c / 64 % 64), b8 (128 + c % 64)] ++ r) 0 = 224 + c / 4096 := b8_toNat _ (by omega)
        have a1 : at0 ([b8 (224 + c / 4096), b8 (128 + c / 64 % 64), b8 (128 + c % 64)] ++ r) 1 = 128 + c / 64 % 64 := b8_toNat _ (by omega)
        have a2 : at0 ([b8 (224 + c / 4096), b8 (128 + c / 64 % 64), b8 (128 + c % 64)] ++ r) 2 = 128 + c % 64 := b8_toNat _ (by omega)
        have e3 : n = 3 := e2
        subst e3
        have hcc : (224 + c / 4096) % 16 * 4096 + (128 + c / 64 % 64) % 64 * 64 + (128 + c % 64) % 64 = c := by omega
        rw [a0, a1, a2, if_neg (by omega), if_neg (by simp; omega), if_pos (by simp; omega), hcc, if_pos (by simp [hv]; omega)]
      · rw [if_neg c3] at e2 ⊢
        have a0 : at0 ([b8 (240 + c / 262144), b8 (128 + c / 4096 % 64), b8 (128 + c / 64 % 64), b8 (128 + c % 64)] ++ r) 0 = 240 + c / 262144 := b8_toNat _ (by omega)
        have a1 : at0 ([b8 (240 + c / 262144), b8 (128 + c / 4096 % 64), b8 (128 + c / 64 % 64), b8 (128 + c % 64)] ++ r) 1 = 128 + c / 4096 % 64 := b8_toNat _ (by omega)
        have a2 : at0 ([b8 (240 + c / 262144), b8 (128 + c / 4096 % 64), b8 (128 + c / 64 % 64), b8 (128 + c % 64)] ++ r) 2 = 128 + c / 64 % 64 := b8_toNat _ (by omega)
        have a3 : at0 ([b8 (240 + c / 262144), b8 (128 + c / 4096 % 64), b8 (128 + c / 64 % 64), b8 (128 + c % 64)] ++ r) 3 = 128 + c % 64 := b8_toNat _ (by omega)
        have e3 : n = 4 := e2
        subst e3
        have hcc : (240 + c / 262144) % 8 * 262144 + (128 + c / 4096 % 64) % 64 * 4096 + (128 + c / 64 % 64) % 64 * 64 + (128 + c % 64) % 64 = c := by omega
        rw [a0, a1, a2, a3, if_neg (by omega), if_neg (by simp; omega), if_neg (by simp; omega), if_pos (by simp; omega), hcc, if_pos (by simp [hv]; omega)]
end Go.Proofs.YtgnialemiefeeaaDoor
