/-
  Layer 1, plain: the order of texts is the order of their code points.
-/
import Derived.Test.YtnldiemggabdkaaDoorUtfP
namespace Go.Proofs.YtnldiemggabdkaaDoor

theorem less_cons (a b : UInt8) (x y : List UInt8) : Op.bytesLess (a :: x) (b :: y) = if a.toNat < b.toNat then true else if a.toNat = b.toNat then Op.bytesLess x y else false := by
  simp only [Op.bytesLess]
  by_cases h : a.toNat < b.toNat
  · rw [if_pos h]
    have : a < b := h
    simp [this]
  · rw [if_neg h]
    have h' : ¬ a < b := h
    by_cases h2 : a.toNat = b.toNat
    · rw [if_pos h2]
      have : a = b := UInt8.toNat_inj.1 h2
      subst this
      simp [h']
    · rw [if_neg h2]
      have : ¬ a = b := fun e => h2 (by rw [e])
      simp [h', this]
theorem less_nil (x : List UInt8) : Op.bytesLess x [] = false := by cases x <;> rfl
theorem less_pre : ∀ (p x y : List UInt8), Op.bytesLess (p ++ x) (p ++ y) = Op.bytesLess x y
  | [], _, _ => rfl
  | a :: p, x, y => by
    show Op.bytesLess (a :: (p ++ x)) (a :: (p ++ y)) = _
    rw [less_cons, if_neg (by omega), if_pos rfl, less_pre p x y]
theorem less_same (p : List UInt8) : Op.bytesLess p p = false := by
  have := less_pre p [] []
  simpa [less_nil] using this
/-- The bytes of a lesser code point are less, whatever stands behind. -/
theorem less_enc (c d : Nat) (hc : isCp c = true) (hd : isCp d = true) (h : c < d) (x y : List UInt8) :
    Op.bytesLess (encL c ++ x) (encL d ++ y) = true ∧ Op.bytesLess (encL d ++ y) (encL c ++ x) = false := by
  have hc := (isCp_iff _).1 hc
  have hd := (isCp_iff _).1 hd
  have k1 : c / 64 / 64 = c / 4096 := Nat.div_div_eq_div_mul c 64 64
  have k2 : c / 4096 / 64 = c / 262144 := Nat.div_div_eq_div_mul c 4096 64
  have k3 : d / 64 / 64 = d / 4096 := Nat.div_div_eq_div_mul d 64 64
  have k4 : d / 4096 / 64 = d / 262144 := Nat.div_div_eq_div_mul d 4096 64
  unfold encL
  by_cases c1 : c < 128
  · rw [if_pos c1]
    by_cases d1 : d < 128
    · rw [if_pos d1]
      simp only [List.cons_append, List.nil_append, less_cons, b8_toNat c (by omega), b8_toNat d (by omega)]
      rw [if_pos h, if_neg (by omega), if_neg (by omega)]; exact ⟨rfl, rfl⟩
    · rw [if_neg d1]
      by_cases d2 : d < 2048
      · rw [if_pos d2]
        simp only [List.cons_append, List.nil_append, less_cons, b8_toNat c (by omega), b8_toNat (192 + d / 64) (by omega)]
        rw [if_pos (by omega), if_neg (by omega), if_neg (by omega)]; exact ⟨rfl, rfl⟩
      · rw [if_neg d2]
        by_cases d3 : d < 65536
        · rw [if_pos d3]
          simp only [List.cons_append, List.nil_append, less_cons, b8_toNat c (by omega), b8_toNat (224 + d / 4096) (by omega)]
          rw [if_pos (by omega), if_neg (by omega), if_neg (by omega)]; exact ⟨rfl, rfl⟩
        · rw [if_neg d3]
          simp only [List.cons_append, List.nil_append, less_cons, b8_toNat c (by omega), b8_toNat (240 + d / 262144) (by omega)]
          rw [if_pos (by omega), if_neg (by omega), if_neg (by omega)]; exact ⟨rfl, rfl⟩
  · rw [if_neg c1, if_neg (show ¬ d < 128 by omega)]
    by_cases c2 : c < 2048
    · rw [if_pos c2]
      by_cases d2 : d < 2048
      · rw [if_pos d2]
        simp only [List.cons_append, List.nil_append, less_cons, b8_toNat (192 + c / 64) (by omega), b8_toNat (192 + d / 64) (by omega), b8_toNat (128 + c % 64) (by omega), b8_toNat (128 + d % 64) (by omega)]
        by_cases e : c / 64 < d / 64
        · rw [if_pos (by omega), if_neg (by omega), if_neg (by omega)]; exact ⟨rfl, rfl⟩
        · rw [if_neg (by omega), if_pos (by omega), if_pos (by omega), if_neg (by omega), if_pos (by omega), if_neg (by omega), if_neg (by omega)]; exact ⟨rfl, rfl⟩
      · rw [if_neg d2]
        by_cases d3 : d < 65536
        · rw [if_pos d3]
          simp only [List.cons_append, List.nil_append, less_cons, b8_toNat (192 + c / 64) (by omega), b8_toNat (224 + d / 4096) (by omega)]
          rw [if_pos (by omega), if_neg (by omega), if_neg (by omega)]; exact ⟨rfl, rfl⟩
        · rw [if_neg d3]
          simp only [List.cons_append, List.nil_append, less_cons, b8_toNat (192 + c / 64) (by omega), b8_toNat (240 + d / 262144) (by omega)]
          rw [if_pos (by omega), if_neg (by omega), if_neg (by omega)]; exact ⟨rfl, rfl⟩
    · rw [if_neg c2, if_neg (show ¬ d < 2048 by omega)]
      by_cases c3 : c < 65536
      · rw [if_pos c3]
        by_cases d3 : d < 65536
        · rw [if_pos d3]
          simp only [List.cons_append, List.nil_append, less_cons, b8_toNat (224 + c / 4096) (by omega), b8_toNat (224 + d / 4096) (by omega), b8_toNat (128 + c / 64 % 64) (by omega), b8_toNat (128 + d / 64 % 64) (by omega), b8_toNat (128 + c % 64) (by omega), b8_toNat (128 + d % 64) (by omega)]
          have q1 : c = c / 4096 * 4096 + c / 64 % 64 * 64 + c % 64 := by omega
          have q2 : d = d / 4096 * 4096 + d / 64 % 64 * 64 + d % 64 := by omega
          have q3 : c / 64 % 64 < 64 := by omega
          have q4 : d / 64 % 64 < 64 := by omega
          have q5 : c % 64 < 64 := by omega
          have q6 : d % 64 < 64 := by omega
          clear k1 k2 k3 k4
          generalize c / 4096 = c2 at *
          generalize c / 64 % 64 = c1 at *
          generalize c % 64 = c0 at *
          generalize d / 4096 = d2 at *
          generalize d / 64 % 64 = d1 at *
          generalize d % 64 = d0 at *
          constructor <;> (repeat' split) <;> first | rfl | (exfalso; omega)
        · rw [if_neg d3]
          simp only [List.cons_append, List.nil_append, less_cons, b8_toNat (224 + c / 4096) (by omega), b8_toNat (240 + d / 262144) (by omega)]
          rw [if_pos (by omega), if_neg (by omega), if_neg (by omega)]; exact ⟨rfl, rfl⟩
      · rw [if_neg c3, if_neg (show ¬ d < 65536 by omega)]
        simp only [List.cons_append, List.nil_append, less_cons, b8_toNat (240 + c / 262144) (by omega), b8_toNat (240 + d / 262144) (by omega), b8_toNat (128 + c / 4096 % 64) (by omega), b8_toNat (128 + d / 4096 % 64) (by omega), b8_toNat (128 + c / 64 % 64) (by omega), b8_toNat (128 + d / 64 % 64) (by omega), b8_toNat (128 + c % 64) (by omega), b8_toNat (128 + d % 64) (by omega)]
        have q1 : c = c / 262144 * 262144 + c / 4096 % 64 * 4096 + c / 64 % 64 * 64 + c % 64 := by omega
        have q2 : d = d / 262144 * 262144 + d / 4096 % 64 * 4096 + d / 64 % 64 * 64 + d % 64 := by omega
        have q3 : c / 64 % 64 < 64 := by omega
        have q4 : d / 64 % 64 < 64 := by omega
        have q5 : c % 64 < 64 := by omega
        have q6 : d % 64 < 64 := by omega
        have q7 : c / 4096 % 64 < 64 := by omega
        have q8 : d / 4096 % 64 < 64 := by omega
        clear k1 k2 k3 k4
        generalize c / 262144 = c3' at *
        generalize c / 4096 % 64 = c2' at *
        generalize c / 64 % 64 = c1' at *
        generalize c % 64 = c0 at *
        generalize d / 262144 = d3' at *
        generalize d / 4096 % 64 = d2' at *
        generalize d / 64 % 64 = d1' at *
        generalize d % 64 = d0 at *
        constructor <;> (repeat' split) <;> first | rfl | (exfalso; omega)

/-- How two rows of numbers compare: -1, 0, 1. -/
def cmpN : List Nat → List Nat → Int
  | [], [] => 0
  | [], _ :: _ => -1
  | _ :: _, [] => 1
  | a :: x, b :: y => if a < b then -1 else if b < a then 1 else cmpN x y
theorem cmpN_zero : ∀ x y : List Nat, cmpN x y = 0 ↔ x = y
  | [], [] => by simp [cmpN]
  | [], _ :: _ => by simp [cmpN]
  | _ :: _, [] => by simp [cmpN]
  | a :: x, b :: y => by
    simp only [cmpN]
    by_cases h : a < b
    · rw [if_pos h]; simp; omega
    · rw [if_neg h]
      by_cases h2 : b < a
      · rw [if_pos h2]; simp; omega
      · rw [if_neg h2, cmpN_zero x y]
        have : a = b := by omega
        simp [this]
/-- The byte order of two texts is the order of their code points. -/
theorem less_text : ∀ x y : List Nat, allCp x → allCp y → Op.bytesLess (textL x) (textL y) = decide (cmpN x y < 0)
  | [], [], _, _ => rfl
  | [], d :: y, _, _ => by
    rw [textL_cons]
    have := encL_len_pos d
    rcases h : encL d with _ | ⟨b, r⟩
    · rw [h] at this; simp at this
    · rfl
  | c :: x, [], _, _ => by
    rw [textL_nil, less_nil]
    rfl
  | c :: x, d :: y, hx, hy => by
    rw [textL_cons, textL_cons]
    have hc := hx c (by simp)
    have hd := hy d (by simp)
    by_cases h : c < d
    · have e : cmpN (c :: x) (d :: y) = -1 := by simp only [cmpN]; rw [if_pos h]
      rw [(less_enc c d hc hd h _ _).1, e]; rfl
    · by_cases h2 : d < c
      · have e : cmpN (c :: x) (d :: y) = 1 := by simp only [cmpN]; rw [if_neg h, if_pos h2]
        rw [(less_enc d c hd hc h2 _ _).2, e]; rfl
      · have e : cmpN (c :: x) (d :: y) = cmpN x y := by simp only [cmpN]; rw [if_neg h, if_neg h2]
        obtain rfl : c = d := by omega
        rw [less_pre, e]
        exact less_text x y (fun a ha => hx a (by simp [ha])) (fun a ha => hy a (by simp [ha]))
end Go.Proofs.YtnldiemggabdkaaDoor
