/-
  Layer 19: what is encoded is decoded, and what is decoded is encoded.
-/
import Derived.Test.YtedoajiapicpnaaDoorDocK
import Derived.Test.YtedoajiapicpnaaDoorDocD
namespace Go.Proofs.YtedoajiapicpnaaDoor
open Go.RowKit

theorem valN_high : ∀ k n, valN (highL n k) = n % 256 ^ k
  | 0, n => by rw [Nat.pow_zero, Nat.mod_one]; rfl
  | k + 1, n => by
    have h1 : n % (256 * 256 ^ k) = n % 256 + 256 * (n / 256 % 256 ^ k) := Nat.mod_mul
    rw [highL, valN_snoc, valN_high k, UInt8.toNat_ofNat', show 256 ^ (k + 1) = 256 * 256 ^ k by rw [Nat.pow_succ, Nat.mul_comm], h1]
    omega
theorem high_val : ∀ (k : Nat) (l : List UInt8), l.length = k → highL (valN l) k = l
  | 0, l, h => by rw [List.eq_nil_of_length_eq_zero h]; rfl
  | k + 1, l, h => by
    have hne : l ≠ [] := by intro e; subst e; simp at h
    have hd := List.dropLast_concat_getLast hne
    have hlt := (l.getLast hne).toNat_lt
    rw [← hd, valN_snoc, highL, show (valN l.dropLast * 256 + (l.getLast hne).toNat) / 256 = valN l.dropLast by omega, show (valN l.dropLast * 256 + (l.getLast hne).toNat) % 256 = (l.getLast hne).toNat by omega,
      high_val k l.dropLast (by rw [List.length_dropLast]; omega)]
    simp
section
variable (a b c d e : List UInt8) (ha : a.length = 4) (hb : b.length = 4) (hc : c.length = 8) (hd : d.length = 1)
include ha hb hc hd
omit hb hc hd in
theorem parts_a : (a ++ b ++ c ++ d ++ e).take 4 = a := by
  rw [List.append_assoc, List.append_assoc, List.append_assoc, ← ha, List.take_left]
omit hc hd in
theorem parts_b : ((a ++ b ++ c ++ d ++ e).drop 4).take 4 = b := by
  rw [List.append_assoc, List.append_assoc, List.append_assoc, ← ha, List.drop_left, ha, ← hb, List.take_left]
omit hd in
theorem parts_c : ((a ++ b ++ c ++ d ++ e).drop 8).take 8 = c := by
  have h8 : (a ++ b).length = 8 := by rw [List.length_append]; omega
  rw [List.append_assoc, List.append_assoc, ← h8, List.drop_left, h8, ← hc, List.take_left]
theorem parts_e : (a ++ b ++ c ++ d ++ e).drop 17 = e := by
  have h17 : (a ++ b ++ c ++ d).length = 17 := by simp only [List.length_append]; omega
  rw [← h17, List.drop_left]
theorem parts_d : (a ++ b ++ c ++ d ++ e).getD 16 0 = d.getD 0 0 := by
  have h16 : (a ++ b ++ c).length = 16 := by simp only [List.length_append]; omega
  rw [List.append_assoc (a ++ b ++ c), List.getD_eq_getElem?_getD, List.getElem?_append_right (by omega), h16, List.getElem?_append_left (by omega), ← List.getD_eq_getElem?_getD]
end
/-- What is encoded is decoded. -/
theorem dec_enc (g m s : Nat) (d : Bool) (a : Nat) (hg : g < 4294967296) (hm : m < 4294967296) (hs : s < 18446744073709551616) (ha : a < 4294967296) (hv : validB g s d (a : Int) = true) :
    decB (encL g m s d a) = true ∧ decV (encL g m s d a) = infoV g m s d (a : Int) ∧ decE (encL g m s d a) = 0 := by
  have hl := encL_length g m s d a
  have l1 := highL_length 4 g
  have l2 := highL_length 4 m
  have l3 := highL_length 8 s
  have l4 : [if d then (1 : UInt8) else 0].length = 1 := rfl
  have l5 := highL_length 4 a
  have hG : dG (encL g m s d a) = g := by
    unfold dG
    rw [enc_high, parts_a _ _ _ _ _ l1, valN_high]
    omega
  have hM : dM (encL g m s d a) = m := by
    unfold dM
    rw [enc_high, parts_b _ _ _ _ _ l1 l2, valN_high]
    omega
  have hS : dS (encL g m s d a) = s := by
    unfold dS
    rw [enc_high, parts_c _ _ _ _ _ l1 l2 l3, valN_high]
    omega
  have hA : dA (encL g m s d a) = a := by
    unfold dA
    rw [enc_high, parts_e _ _ _ _ _ l1 l2 l3 l4, List.take_of_length_le (by omega), valN_high]
    omega
  have h16 : at8 (encL g m s d a) 16 = if d then 1 else 0 := by
    unfold at8
    rw [enc_high, parts_d _ _ _ _ _ l1 l2 l3 l4]
    cases d <;> rfl
  have hD : dD (encL g m s d a) = d := by
    unfold dD
    rw [h16]
    cases d <;> rfl
  have hB : decB (encL g m s d a) = true := by
    unfold decB
    rw [hl, h16, hG, hS, hD, hA, hv]
    cases d <;> rfl
  refine ⟨hB, ?_, ?_⟩
  · unfold decV
    rw [if_pos hB, hG, hM, hS, hD, hA]
  · unfold decE
    rw [if_pos hB]
/-- What is decoded is encoded. -/
theorem enc_dec (l : List UInt8) (h : decB l = true) : encL (dG l) (dM l) (dS l) (dD l) (dA l) = l ∧ validB (dG l) (dS l) (dD l) (dA l : Int) = true ∧ dG l < 4294967296 ∧ dM l < 4294967296 ∧ dS l < 18446744073709551616 ∧ dA l < 524288 := by
  unfold decB at h
  simp only [Bool.and_eq_true, decide_eq_true_eq] at h
  obtain ⟨⟨h21, h16⟩, hv⟩ := h
  have g1 : dG l < 4294967296 := by
    have := valN_lt 4 (l.take 4) (by rw [List.length_take]; omega)
    simpa [dG] using this
  have g2 : dM l < 4294967296 := by
    have := valN_lt 4 ((l.drop 4).take 4) (by rw [List.length_take, List.length_drop]; omega)
    simpa [dM] using this
  have g3 : dS l < 18446744073709551616 := by
    have := valN_lt 8 ((l.drop 8).take 8) (by rw [List.length_take, List.length_drop]; omega)
    simpa [dS] using this
  have g4 : dA l < 524288 := by
    rcases valid_cases (dG l) (dS l) (dD l) (dA l : Int) with ⟨_, hr⟩ | ⟨_, hr⟩ | ⟨_, hr⟩ | ⟨⟨_, _, _, h0⟩, hr⟩ | ⟨_, hr⟩ | ⟨_, hr⟩ | ⟨⟨_, _, _, h1, h2⟩, hr⟩ | ⟨_, hr⟩
    all_goals first
      | (rw [hr] at hv; cases hv; done)
      | omega
  refine ⟨?_, hv, g1, g2, g3, g4⟩
  have hflag : [if dD l then (1 : UInt8) else 0] = [l.getD 16 0] := by
    unfold dD at8
    unfold at8 at h16
    have hb := (l.getD 16 0).toNat_lt
    by_cases h1 : ((l.getD 16 0).toNat : Int) = 1
    · rw [decide_eq_true h1, if_pos rfl]
      congr 1
      exact UInt8.toNat_inj.1 (by rw [show ((1 : UInt8)).toNat = 1 from rfl]; omega)
    · rw [decide_eq_false h1, if_neg Bool.false_ne_true]
      congr 1
      exact UInt8.toNat_inj.1 (by rw [show ((0 : UInt8)).toNat = 0 from rfl]; omega)
  rw [enc_high, hflag]
  unfold dG dM dS dA
  rw [high_val 4 _ (by rw [List.length_take]; omega), high_val 4 _ (by rw [List.length_take, List.length_drop]; omega), high_val 8 _ (by rw [List.length_take, List.length_drop]; omega),
    high_val 4 _ (by rw [List.length_take, List.length_drop]; omega)]
  have e1 : l.drop 16 = l.getD 16 0 :: l.drop 17 := by
    rw [List.drop_eq_getElem_cons (by omega), List.getD_eq_getElem?_getD, List.getElem?_eq_getElem (by omega)]
    rfl
  have e2 : (l.drop 17).take 4 = l.drop 17 := List.take_of_length_le (by rw [List.length_drop]; omega)
  rw [e2]
  conv => rhs; rw [← List.take_append_drop 4 l, ← List.take_append_drop 4 (l.drop 4), ← List.take_append_drop 8 ((l.drop 4).drop 4)]
  simp only [List.drop_drop, Nat.reduceAdd]
  rw [e1]
  simp
end Go.Proofs.YtedoajiapicpnaaDoor
