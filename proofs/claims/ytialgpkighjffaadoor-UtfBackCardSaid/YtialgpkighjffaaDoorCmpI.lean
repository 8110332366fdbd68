/-
  cmp.Compare and slices.Compare at whole numbers.
-/
import Derived.Test.YtialgpkighjffaaDoorInts
import Derived.Lib.Hide
import Derived.Test.YtialgpkighjffaaDoorRows
import Derived.LoopTactic
namespace Go.Proofs.YtialgpkighjffaaDoor
open Go.RowKit

/-- How two whole numbers compare. -/
def cmp1 (a b : Int) : Int := if a < b then -1 else if b < a then 1 else 0
/-- How two rows of whole numbers compare. -/
def cmpI : List Int → List Int → Int
  | [], [] => 0
  | [], _ :: _ => -1
  | _ :: _, [] => 1
  | a :: x, b :: y => if a < b then -1 else if b < a then 1 else cmpI x y
theorem cmpI_nil (y : List Int) (h : y ≠ []) : cmpI [] y = -1 := by cases y <;> first | rfl | exact absurd rfl h
theorem cmpI_drop {l m : List Int} {k : Nat} (hl : k < l.length) (hm : k < m.length) : cmpI (l.drop k) (m.drop k) = if l.getD k 0 < m.getD k 0 then -1 else if m.getD k 0 < l.getD k 0 then 1 else cmpI (l.drop (k + 1)) (m.drop (k + 1)) := by
  rw [List.drop_eq_getElem_cons hl, List.drop_eq_getElem_cons hm]
  simp only [cmpI, List.getD_eq_getElem?_getD, List.getElem?_eq_getElem hl, List.getElem?_eq_getElem hm, Option.getD_some]
theorem cmpI_end {l m : List Int} {k : Nat} (hl : l.length = k) : cmpI (l.drop k) (m.drop k) = if k < m.length then -1 else 0 := by
  rw [List.drop_of_length_le (by omega)]
  split
  · exact cmpI_nil _ (fun e => by have := congrArg List.length e; rw [List.length_drop] at this; simp at this; omega)
  · rw [List.drop_of_length_le (by omega)]; rfl
theorem cmpI_more {l m : List Int} {k : Nat} (hl : k < l.length) (hm : m.length ≤ k) : cmpI (l.drop k) (m.drop k) = 1 := by
  rw [List.drop_eq_getElem_cons hl, List.drop_of_length_le hm]; rfl

theorem isNaN_any (a : Int) (w : World) : Calls Tryd.prog 43 #[.int .i64 a] w fun e w' => e = .returned (.bool false) ∧ w' = w := by
  have hs : (a != a) = false := by simp
  go_enter Tryd.func43, Tryd.ntmps43
  go_wp2
  go_ret
  exact ⟨rfl, rfl⟩
theorem cmpCompare_any (a b : Int) (w : World) : Calls Tryd.prog 38 #[.int .i64 a, .int .i64 b] w fun e w' => e = .returned (.int .i64 (cmp1 a b)) ∧ w' = w := by
  rcases (show a < b ∨ b < a ∨ a = b by omega) with h | h | h
  · rw [show cmp1 a b = -1 from if_pos h]
    go_enter Tryd.func38, Tryd.ntmps38
    go_wp2_with (go_at_call 43; refine (isNaN_any _ _).mono ?_; rintro e w' ⟨rfl, rfl⟩)
    go_ret
    exact ⟨rfl, rfl⟩
  · have h' : ¬ a < b := by omega
    rw [show cmp1 a b = 1 by unfold cmp1; rw [if_neg h', if_pos h]]
    go_enter Tryd.func38, Tryd.ntmps38
    go_wp2_with (go_at_call 43; refine (isNaN_any _ _).mono ?_; rintro e w' ⟨rfl, rfl⟩)
    go_ret
    exact ⟨rfl, rfl⟩
  · subst h
    have h' : ¬ a < a := by omega
    rw [show cmp1 a a = 0 by unfold cmp1; rw [if_neg h', if_neg h']]
    go_enter Tryd.func38, Tryd.ntmps38
    go_wp2_with (go_at_call 43; refine (isNaN_any _ _).mono ?_; rintro e w' ⟨rfl, rfl⟩)
    go_ret
    exact ⟨rfl, rfl⟩

set_option maxHeartbeats 1000000 in
theorem compareI_any (A1 A2 : Option Addr) (n1 c1 n2 c2 : Nat) (l1 l2 : List Int) (B1 B2 : Nat) (w : World) (h1 : Ints w B1 A1 n1 l1) (h2 : Ints w B2 A2 n2 l2) (hm1 : n1 ≤ maxLen) :
    Calls Tryd.prog 27 #[.slice A1 n1 c1, .slice A2 n2 c2] w fun e w' => e = .returned (.int .i64 (cmpI l1 l2)) ∧ w' = w := by
  unfold maxLen at hm1
  have Hl1 := Lib.hid h1.len
  have Hl2 := Lib.hid h2.len
  go_enter Tryd.func27, Tryd.ntmps27
  go_wp2
  go_loop [11] (fun i => ∃ k : Nat, k ≤ n1 ∧ k ≤ n2 ∧ i = .int .i64 k ∧ Hid (cmpI l1 l2 = cmpI (l1.drop k) (l2.drop k))) (fun i => n1 - (intOf i).toNat)
  case atStart => exact ⟨0, Nat.zero_le _, Nat.zero_le _, rfl, Lib.hid rfl⟩
  case round =>
    obtain ⟨k, hk, hk2, rfl, HD⟩ := hrel
    by_cases hlt : k < n1
    · by_cases hlt2 : k < n2
      · have hge : ¬ (n2 : Int) ≤ (k : Int) := by omega
        obtain ⟨b1, o1, rfl, _, hc1⟩ := h1.cell hlt
        obtain ⟨b2, o2, rfl, _, hc2⟩ := h2.cell hlt2
        have hd := Lib.hid (cmpI_drop (l := l1) (m := l2) (k := k) (by have := Hl1.out; omega) (by have := Hl2.out; omega))
        generalize l1.getD k 0 = x1 at *
        generalize l2.getD k 0 = x2 at *
        rcases (show x1 < x2 ∨ x2 < x1 ∨ x1 = x2 by omega) with h | h | h
        · have hc := fun W => cmpCompare_any x1 x2 W
          simp only [show cmp1 x1 x2 = -1 from if_pos h] at hc
          have HE := Lib.hid (show cmpI l1 l2 = -1 by rw [HD.out, hd.out, if_pos h])
          clear hd HD h
          go_wp2_with (go_at_call 38; refine (hc _).mono ?_; rintro e w' ⟨rfl, rfl⟩)
          go_ret
          exact ⟨by rw [HE.out]; rfl, rfl⟩
        · have h' : ¬ x1 < x2 := by omega
          have hc := fun W => cmpCompare_any x1 x2 W
          simp only [show cmp1 x1 x2 = 1 by unfold cmp1; rw [if_neg h', if_pos h]] at hc
          have HE := Lib.hid (show cmpI l1 l2 = 1 by rw [HD.out, hd.out, if_neg h', if_pos h])
          clear hd HD h h'
          go_wp2_with (go_at_call 38; refine (hc _).mono ?_; rintro e w' ⟨rfl, rfl⟩)
          go_ret
          exact ⟨by rw [HE.out]; rfl, rfl⟩
        · subst h
          have h' : ¬ x1 < x1 := by omega
          have hc := fun W => cmpCompare_any x1 x1 W
          simp only [show cmp1 x1 x1 = 0 by unfold cmp1; rw [if_neg h', if_neg h']] at hc
          have HE := Lib.hid (show cmpI l1 l2 = cmpI (l1.drop (k + 1)) (l2.drop (k + 1)) by rw [HD.out, hd.out, if_neg h', if_neg h'])
          clear hd HD h'
          go_wp2_with (go_at_call 38; refine (hc _).mono ?_; rintro e w' ⟨rfl, rfl⟩)
          go_round
          case rel => exact ⟨k + 1, by omega, by omega, by go_num, HE⟩
          case measure => simp [intOf]; omega
      · have hge : (n2 : Int) ≤ (k : Int) := by omega
        obtain ⟨b1, o1, rfl, _, hc1⟩ := h1.cell hlt
        have HE := Lib.hid (show cmpI l1 l2 = 1 by rw [HD.out]; exact cmpI_more (by have := Hl1.out; omega) (by have := Hl2.out; omega))
        generalize l1.getD k 0 = x1 at *
        clear HD
        go_wp2
        go_ret
        exact ⟨by rw [HE.out]; rfl, rfl⟩
    · have hk' : k = n1 := by omega
      have HE := Lib.hid (show cmpI l1 l2 = if k < l2.length then -1 else 0 by rw [HD.out]; exact cmpI_end (by rw [Hl1.out, hk']))
      rw [Hl2.out] at HE
      clear HD
      subst hk'
      by_cases hlt2 : k < n2
      · have e := Lib.hid (HE.out.trans (if_pos hlt2))
        clear HE
        go_wp2
        go_ret
        exact ⟨by rw [e.out]; rfl, rfl⟩
      · have e := Lib.hid (HE.out.trans (if_neg hlt2))
        clear HE
        go_wp2
        go_ret
        exact ⟨by rw [e.out]; rfl, rfl⟩
end Go.Proofs.YtialgpkighjffaaDoor
