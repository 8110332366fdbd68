/-
  Layer 2: what is written for a rune.
-/
import Derived.Test.YtgnialemiefeeaaDoorQuoH
import Derived.Test.YtgnialemiefeeaaDoorQuoI
namespace Go.Proofs.YtgnialemiefeeaaDoor
open Go.RowKit

theorem escS_spell {c : Nat} (h : escS c = []) : spellL c = encL c := by
  unfold escS at h
  unfold spellL
  cases hs : shortL c with
  | some x => rw [hs] at h; cases h
  | none =>
    rw [hs] at h
    by_cases h2 : c < 32
    · simp only [h2, if_true] at h; cases h
    · simp only [h2, if_false]
theorem escS_is {c : Nat} (h : escS c ≠ []) : spellL c = escS c := by
  unfold escS at h ⊢
  unfold spellL
  cases hs : shortL c with
  | some x => rfl
  | none =>
    rw [hs] at h
    by_cases h2 : c < 32
    · simp only [h2, if_true]
    · simp only [h2, if_false] at h; exact absurd rfl h
set_option maxRecDepth 20000 in
set_option maxHeartbeats 1000000 in
theorem spell1_any (c : Nat) (hc : isCp c = true) (w : World) (htab : ETab w) :
    Calls Tryd.prog 57 #[.int .i32 (c : Int)] w fun e w' => e = .returned (.string (ofL (spellL c))) ∧ Below w.heap.size w w' := by
  have hcp := (isCp_iff c).1 hc
  have hs := spelling_any c (by omega) w htab
  cases he : escS c with
  | nil =>
    have HR := Lib.hid (escS_spell he)
    have hen := encode_cp c hc
    rw [he] at hs
    have hem : (ofL []).toList.isEmpty = true := by rw [ByteArray.toList_eq]; rfl
    rw [HR.out, ← hen]
    generalize ofL [] = T0 at *
    generalize hU : Utf8.encode (c : Int) = U at *
    clear hcp hc he hen
    go_enter Tryd.func57, Tryd.ntmps57
    go_wp2_with fail
    refine hs.mono ?_
    rintro e w1 ⟨rfl, hb⟩
    go_wp2
    go_ret
    exact ⟨rfl, hb⟩
  | cons a t =>
    have HR := Lib.hid (escS_is (c := c) (by rw [he]; simp))
    have hne : (ofL (escS c)).toList.isEmpty = false := by rw [ByteArray.toList_eq, ofL_toList, he]; rfl
    rw [HR.out]
    clear he hcp hc
    generalize ofL (escS c) = T at *
    go_enter Tryd.func57, Tryd.ntmps57
    go_wp2_with fail
    refine hs.mono ?_
    rintro e w1 ⟨rfl, hb⟩
    go_wp2
    go_ret
    exact ⟨rfl, hb⟩
set_option maxRecDepth 20000 in
set_option maxHeartbeats 1000000 in
theorem write_any (c : Nat) (hc : isCp c = true) (w : World) (htab : ETab w) :
    Calls Tryd.prog 59 #[.agg #[.func (.func 57) #[] #[]], .int .i32 (c : Int)] w fun e w' => e = .returned (.string (ofL (spellL c))) ∧ Below w.heap.size w w' := by
  have hs := fun o => spell1_any c hc (w.alloc o) (htab.alloc o)
  go_enter Tryd.func59, Tryd.ntmps59
  go_wp2_with fail
  refine (hs _).mono ?_
  rintro e w1 ⟨rfl, hb⟩
  go_wp2
  go_ret
  exact ⟨rfl, bel_next (bel_alloc (Below.refl _ _) _) hb⟩
end Go.Proofs.YtgnialemiefeeaaDoor
