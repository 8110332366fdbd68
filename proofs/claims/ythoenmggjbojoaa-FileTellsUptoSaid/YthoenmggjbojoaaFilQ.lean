/-
  Layer 10, plain: what operations make of a file; a loss of power piece by piece and byte by byte. No program in sight.
-/
import Derived.Test.YthoenmggjbojoaaFilP
namespace Go.Proofs.Ythoenmggjbojoaa
open Go.RowKit
set_option linter.unusedVariables false

def FileS.all (X : FileS) : List UInt8 := X.firm ++ X.loose.flatten
def FileS.append (X : FileS) (long : Nat) (b : List UInt8) : FileS × Int :=
  if (X.asked long b.length).2 = 0 then ({ (X.asked long b.length).1 with loose := X.loose ++ [b] }, 0) else X.asked long b.length
def FileS.sync (X : FileS) (long : Nat) : FileS × Int :=
  if (X.asked long 0).2 = 0 then ({ (X.asked long 0).1 with firm := X.all, loose := [] }, 0) else X.asked long 0
theorem asked_same (X : FileS) (long more : Nat) : (X.asked long more).1.firm = X.firm ∧ (X.asked long more).1.loose = X.loose := by
  unfold FileS.asked
  split
  · exact ⟨rfl, rfl⟩
  · split
    · exact ⟨rfl, rfl⟩
    · split
      · exact ⟨rfl, rfl⟩
      · dsimp only
        split <;> exact ⟨rfl, rfl⟩

/-- How many bytes of a piece stay. -/
def survN (l : List UInt8) (i : Nat) (keep : List Bool) (tear cut : Int) : Nat :=
  if (i : Int) = tear then (min (max cut 0) (l.length : Int)).toNat else if keep.getD i false = true then l.length else 0
theorem survN_le (l : List UInt8) (i : Nat) (keep : List Bool) (tear cut : Int) : survN l i keep tear cut ≤ l.length := by
  unfold survN
  split
  · omega
  · split <;> omega
/-- Does a byte stay? -/
def stayB (i k : Nat) (keep : List Bool) (tear cut : Int) : Bool := if (i : Int) = tear then decide ((k : Int) < cut) else keep.getD i false
theorem stay_iff (l : List UInt8) (i k : Nat) (keep : List Bool) (tear cut : Int) (hk : k < l.length) : stayB i k keep tear cut = decide (k < survN l i keep tear cut) := by
  unfold stayB survN
  by_cases h : (i : Int) = tear
  · rw [if_pos h, if_pos h]
    by_cases h2 : (k : Int) < cut
    · rw [decide_eq_true h2, decide_eq_true (by omega)]
    · rw [decide_eq_false h2, decide_eq_false (by omega)]
  · rw [if_neg h, if_neg h]
    cases hb : keep.getD i false
    · rw [if_neg (by decide), decide_eq_false (by omega)]
    · rw [if_pos rfl, decide_eq_true hk]
def zerosU (n : Nat) : List UInt8 := List.replicate n 0
/-- The program's way: what stays is put behind, with noughts between. -/
def crashGo (keep : List Bool) (tear cut : Int) : List (List UInt8) → Nat → Nat → List UInt8 → List UInt8
  | [], _, _, f => f
  | l :: L, i, at', f => crashGo keep tear cut L (i + 1) (at' + l.length) (if 0 < survN l i keep tear cut then f ++ zerosU (at' - f.length) ++ l.take (survN l i keep tear cut) else f)
/-- The document's way, for a piece: each byte as it was, or nought. -/
def maskP (l : List UInt8) (i : Nat) (keep : List Bool) (tear cut : Int) : List UInt8 := l.take (survN l i keep tear cut) ++ zerosU (l.length - survN l i keep tear cut)
theorem mask_len (l : List UInt8) (i : Nat) (keep : List Bool) (tear cut : Int) : (maskP l i keep tear cut).length = l.length := by
  have := survN_le l i keep tear cut
  unfold maskP zerosU
  rw [List.length_append, List.length_take, List.length_replicate]
  omega
/-- What both have made, up to a piece: the bytes as they stay, and the place behind the last that stays. -/
def CrashP (M : List UInt8) (e : Nat) (f : List UInt8) : Prop := f.length = e ∧ M = f ++ zerosU (M.length - e) ∧ e ≤ M.length
theorem CrashP.next {M f : List UInt8} {e : Nat} (h : CrashP M e f) (l : List UInt8) (i : Nat) (keep : List Bool) (tear cut : Int) :
    CrashP (M ++ maskP l i keep tear cut) (if 0 < survN l i keep tear cut then M.length + survN l i keep tear cut else e) (if 0 < survN l i keep tear cut then f ++ zerosU (M.length - f.length) ++ l.take (survN l i keep tear cut) else f) := by
  obtain ⟨h1, h2, h3⟩ := h
  have hs := survN_le l i keep tear cut
  have hm := mask_len l i keep tear cut
  by_cases h : 0 < survN l i keep tear cut
  · rw [if_pos h, if_pos h, h1, ← h2]
    refine ⟨by rw [List.length_append, List.length_take]; omega, ?_, by rw [List.length_append]; omega⟩
    unfold maskP
    rw [List.append_assoc]
    congr 2
    rw [List.length_append, List.length_append, List.length_take]
    unfold zerosU
    rw [List.length_replicate]
    congr 1
    omega
  · rw [if_neg h, if_neg h]
    refine ⟨h1, ?_, by rw [List.length_append]; omega⟩
    have h0 : survN l i keep tear cut = 0 := by omega
    unfold maskP
    rw [h0, List.take_zero, List.nil_append, Nat.sub_zero]
    conv => lhs; rw [h2]
    rw [List.append_assoc]
    congr 1
    unfold zerosU
    rw [List.replicate_append_replicate, List.length_append, List.length_replicate]
    congr 1
    omega
def maskGo (keep : List Bool) (tear cut : Int) : List (List UInt8) → Nat → List UInt8 → List UInt8
  | [], _, M => M
  | l :: L, i, M => maskGo keep tear cut L (i + 1) (M ++ maskP l i keep tear cut)
def endGo (keep : List Bool) (tear cut : Int) : List (List UInt8) → Nat → Nat → Nat → Nat
  | [], _, _, e => e
  | l :: L, i, at', e => endGo keep tear cut L (i + 1) (at' + l.length) (if 0 < survN l i keep tear cut then at' + survN l i keep tear cut else e)
theorem crash_is (keep : List Bool) (tear cut : Int) : ∀ (L : List (List UInt8)) (i at' e : Nat) (M f : List UInt8), M.length = at' → CrashP M e f →
    crashGo keep tear cut L i at' f = (maskGo keep tear cut L i M).take (endGo keep tear cut L i at' e)
  | [], i, at', e, M, f, hM, h => by
    obtain ⟨h1, h2, h3⟩ := h
    show f = M.take e
    rw [h2, List.take_append, List.take_of_length_le (by omega), ← h1]
    simp
  | l :: L, i, at', e, M, f, hM, h => by
    have hn := h.next l i keep tear cut
    have := crash_is keep tear cut L (i + 1) (at' + l.length) _ _ _ (by rw [List.length_append, mask_len, hM]) hn
    rw [hM] at this
    exact this
def FileS.crash (X : FileS) (keep : List Bool) (tear cut : Int) : FileS := ⟨crashGo keep tear cut X.loose 0 X.firm.length X.firm, [], -1, -1, false⟩
end Go.Proofs.Ythoenmggjbojoaa
