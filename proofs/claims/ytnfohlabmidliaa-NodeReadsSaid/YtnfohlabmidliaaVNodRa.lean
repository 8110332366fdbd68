import Derived.Test.YtnfohlabmidliaaGad
import Derived.Test.YtnfohlabmidliaaGac
import Derived.BigQuiet
/-
  The reference: Ahead.
-/
namespace Go.Proofs.Ytnfohlabmidliaa
open Go.RowKit
set_option linter.unusedVariables false

theorem cmpL_cons (x y : UInt8) (l m : List UInt8) : cmpL (x :: l) (y :: m) = if x.toNat < y.toNat then -1 else if y.toNat < x.toNat then 1 else cmpL l m := rfl
theorem cmpL_step {l m : List UInt8} {i : Nat} (hl : i < l.length) (hm : i < m.length) : cmpL (l.drop i) (m.drop i) = if at8 l i < at8 m i then -1 else if at8 m i < at8 l i then 1 else cmpL (l.drop (i + 1)) (m.drop (i + 1)) := by
  rw [List.drop_eq_getElem_cons hl, List.drop_eq_getElem_cons hm]
  have e1 : at8 l i = ((l[i]).toNat : Int) := by unfold at8; rw [List.getD_eq_getElem?_getD, List.getElem?_eq_getElem hl]; rfl
  have e2 : at8 m i = ((m[i]).toNat : Int) := by unfold at8; rw [List.getD_eq_getElem?_getD, List.getElem?_eq_getElem hm]; rfl
  rw [e1, e2, cmpL_cons]
  by_cases h1 : (l[i]).toNat < (m[i]).toNat
  · have h1' : ((l[i]).toNat : Int) < ((m[i]).toNat : Int) := by omega
    rw [if_pos h1, if_pos h1']
  · have h1' : ¬ ((l[i]).toNat : Int) < ((m[i]).toNat : Int) := by omega
    rw [if_neg h1, if_neg h1']
    by_cases h2 : (m[i]).toNat < (l[i]).toNat
    · have h2' : ((m[i]).toNat : Int) < ((l[i]).toNat : Int) := by omega
      rw [if_pos h2, if_pos h2']
    · have h2' : ¬ ((m[i]).toNat : Int) < ((l[i]).toNat : Int) := by omega
      rw [if_neg h2, if_neg h2']
theorem lt_end {l m : List UInt8} {i : Nat} (h : cmpL l m = cmpL (l.drop i) (m.drop i)) (hi : i ≤ l.length) (hj : i ≤ m.length) (hh : i = l.length ∨ i = m.length) : ltB l m = decide (l.length < m.length) := by
  unfold ltB
  rw [h]
  rcases hh with e | e
  · rw [e, List.drop_length]
    cases hm : m.drop l.length with
    | nil =>
      have := congrArg List.length hm
      rw [List.length_drop] at this
      simp at this
      simp [cmpL]
      omega
    | cons y k =>
      have := congrArg List.length hm
      rw [List.length_drop] at this
      simp at this
      simp [cmpL]
      omega
  · rw [e, List.drop_length]
    cases hm : l.drop m.length with
    | nil =>
      have := congrArg List.length hm
      rw [List.length_drop] at this
      simp at this
      simp [cmpL]
      omega
    | cons y k => simp [cmpL]; omega
set_option maxRecDepth 20000 in
set_option maxHeartbeats 2000000 in
theorem ahead_any (A1 A2 : Option Addr) (n1 c1 n2 c2 : Nat) (l1 l2 : List UInt8) (B1 B2 : Nat) (w : World) (h1 : Bytes w B1 A1 n1 l1) (h2 : Bytes w B2 A2 n2 l2) (hm1 : n1 ≤ maxLen) :
    Calls Try.prog 37 #[.slice A1 n1 c1, .slice A2 n2 c2] w fun e w' => e = .returned (.bool (ltB l1 l2)) ∧ Below w.heap.size w w' := by
  have hl1 := h1.len
  have hl2 := h2.len
  obtain ⟨z, hz⟩ : ∃ z, ltB l1 l2 = z := ⟨_, rfl⟩
  have HZ := Lib.hid hz
  rw [hz]
  have H1 := Lib.hid h1
  have H2 := Lib.hid h2
  have HL1 := Lib.hid hl1
  have HL2 := Lib.hid hl2
  have hm9 : n1 ≤ 9223372036854775807 := by unfold maxLen at hm1; exact hm1
  clear h1 h2 hl1 hl2 hz hm1
  go_enter Try.func37, Try.ntmps37
  go_wp2_with fail
  go_loopw [5] (fun y wr => ∃ (i k : Nat), i ≤ n1 ∧ i ≤ n2 ∧ y = .int .i64 i ∧ wr = w.drewN k ∧ Hid (cmpL l1 l2 = cmpL (l1.drop i) (l2.drop i))) (fun y _ => n1 - (intOf y).toNat)
  case atStart => exact ⟨0, 0, Nat.zero_le _, Nat.zero_le _, rfl, rfl, Lib.hid rfl⟩
  case round =>
    obtain ⟨i, k, hi1, hi2, rfl, rfl, HC⟩ := hrel
    have hbk : Below w.heap.size w (w.drewN k) := below_drewN (Below.refl _ _) k
    by_cases hlt1 : i < n1
    · by_cases hlt2 : i < n2
      · obtain ⟨b1, o1, rfl, hb1, hc1⟩ := H1.out.cell hlt1
        obtain ⟨b2, o2, rfl, hb2, hc2⟩ := H2.out.cell hlt2
        have HS := Lib.hid (cmpL_step (l := l1) (m := l2) (i := i) (by rw [HL1.out]; exact hlt1) (by rw [HL2.out]; exact hlt2))
        obtain ⟨x, hx⟩ : ∃ x, at8 l1 i = x := ⟨_, rfl⟩
        obtain ⟨y, hy⟩ : ∃ y, at8 l2 i = y := ⟨_, rfl⟩
        rw [hx] at hc1
        rw [hy] at hc2
        have HXY := Lib.hid (And.intro hx hy)
        have hl1' : (i : Int) < (n1 : Int) := by omega
        have hl2' : (i : Int) < (n2 : Int) := by omega
        clear hx hy
        by_cases hxy : x = y
        · have HN := Lib.hid (show cmpL l1 l2 = cmpL (l1.drop (i + 1)) (l2.drop (i + 1)) by rw [HC.out, HS.out, HXY.out.1, HXY.out.2, hxy, if_neg (Int.lt_irrefl _), if_neg (Int.lt_irrefl _)])
          subst hxy
          go_upto_region 4 with fail
          go_region
          go_wp2_with fail
          go_roundw
          case rel => exact ⟨i + 1, k + 1, by omega, by omega, by go_num, rfl, HN⟩
          case measure => simp [intOf]; omega
        · have hxy' : (x = y) = False := eq_false hxy
          have HR := Lib.hid (show z = decide (x < y) by
            rw [← HZ.out]
            unfold ltB
            rw [HC.out, HS.out, HXY.out.1, HXY.out.2]
            by_cases h : x < y
            · rw [if_pos h, decide_eq_true h]; rfl
            · rw [if_neg h, if_pos (by omega), decide_eq_false h]; rfl)
          go_upto_region 4 with fail
          go_region
          go_upto_region 5 with fail
          go_region
          go_wp2
          go_ret
          exact ⟨by rw [HR.out]; rfl, below_drewN (below_drewN hbk 1) 1⟩
      · have HR := Lib.hid (show z = decide (n1 < n2) by rw [← HZ.out, lt_end HC.out (by rw [HL1.out]; exact hi1) (by rw [HL2.out]; exact hi2) (.inr (by rw [HL2.out]; omega)), HL1.out, HL2.out])
        have hi3 : ¬ ((i : Int) < (n2 : Int)) := by omega
        have hl1' : (i : Int) < (n1 : Int) := by omega
        obtain rfl : z = false := by rw [HR.out]; exact decide_eq_false (by omega)
        have hnn : ((n1 : Int) < (n2 : Int)) = False := by simp; omega
        clear hlt2 hlt1
        go_wp2
        go_ret
        exact ⟨rfl, hbk⟩
    · have HR := Lib.hid (show z = decide (n1 < n2) by rw [← HZ.out, lt_end HC.out (by rw [HL1.out]; exact hi1) (by rw [HL2.out]; exact hi2) (.inl (by rw [HL1.out]; omega)), HL1.out, HL2.out])
      have hi3 : ¬ ((i : Int) < (n1 : Int)) := by omega
      clear hlt1
      by_cases hnn : n1 < n2
      · obtain rfl : z = true := by rw [HR.out]; exact decide_eq_true hnn
        have hnn' : (n1 : Int) < (n2 : Int) := by omega
        go_wp2
        go_ret
        exact ⟨rfl, hbk⟩
      · obtain rfl : z = false := by rw [HR.out]; exact decide_eq_false hnn
        have hnn' : ((n1 : Int) < (n2 : Int)) = False := by simp; omega
        clear hnn
        go_wp2
        go_ret
        exact ⟨rfl, hbk⟩
end Go.Proofs.Ytnfohlabmidliaa
