/-
  The walk of UtfNexts.
-/
import Derived.Test.YtialgpkighjffaaDoorUtfV
import Derived.Test.YtialgpkighjffaaDoorUtfW
namespace Go.Proofs.YtialgpkighjffaaDoor
open Go.RowKit
set_option linter.unusedVariables false

set_option maxRecDepth 20000 in
set_option maxHeartbeats 2000000 in
theorem nexts_in (w : World) (A : Option Addr) (n c : Nat) (l : List UInt8) (h : Bytes w w.heap.size A n l) (hA : A = none → c = 0) (hn : n ≤ c) (hc : c ≤ maxLen) (p : Nat) (hp : p < (l.take 300).length) (htab : UTab w) :
    Calls Tryd.prog 4 #[.slice A n c, .int .i64 (p : Int)] w fun e w' => e = .returned (.bool true) ∧ Below w.heap.size w w' := by
  go_enter Tryd.func4, Tryd.ntmps4
  go_wp2_with fail
  refine (wakes_any w htab).mono ?_
  rintro e w1 ⟨rfl, hb1⟩
  have t1 := htab.below hb1 htab.lt
  have h1 := h.below hb1
  have s1 := hb1.size
  go_wp2_with fail
  refine (few_any A n c w.heap.size l w1 h1 hA s1 hn hc).mono ?_
  rintro e w2 ⟨A2, n2, c2, rfl, hown2, hb2⟩
  have t2 := t1.below hb2 t1.lt
  have hl2 : Bytes w2 w2.heap.size A2 n2 (l.take 300) := Bytes.own hown2
  have Hl2 := Lib.hid hl2.len
  have hn2 : n2 ≤ 300 := by rw [← Hl2.out, List.length_take]; omega
  have hpn : p < n2 := by rw [← Hl2.out]; exact hp
  have hb02 := bel_next hb1 hb2
  obtain ⟨hnc, hcm⟩ : n2 ≤ c2 ∧ c2 ≤ maxLen := by obtain ⟨_, _, h1, h2, h3⟩ := own_form hown2; cases h1; exact ⟨h2, h3⟩
  unfold maxLen at hcm
  have hnx := next_in A2 n2 c2 w2.heap.size p (l.take 300) w2 t2 hl2 (Nat.le_refl _) (by unfold maxLen; omega) hpn
  have hcut := fun {W : World} (hb : Below w2.heap.size w2 W) => by
    have hq := (hl2.below hb).cut (k := p) (cap := c2) (by omega) hnc
    rw [if_neg (show ¬ c2 = p by omega)] at hq
    exact hq
  have i0' : (0 : Int) ≤ (p : Int) := by omega
  have i1 : (p : Int) ≤ (n2 : Int) := by omega
  have i2 : (n2 : Int) ≤ (c2 : Int) := by omega
  have i3 : (p : Int) < (n2 : Int) := by omega
  have i4 : ¬ (p : Int) < 0 := by omega
  have i5 : ¬ (n2 : Int) < (p : Int) := by omega
  have i6 : ((p : Int) == (n2 : Int)) = false := by rw [beq_eq_false_iff_ne]; omega
  have hne : ¬ c2 = p := by omega
  clear hown2 hb1 hp
  have hle := dec_le ((l.take 300).drop p)
  rw [List.length_drop, Hl2.out] at hle
  have hbeg := fun {W : World} (hb : Below w2.heap.size w2 W) => begin_any (A2.map (·.add p)) (n2 - p) (c2 - p) w2.heap.size ((l.take 300).drop p) W (hcut hb) hb.size (by unfold maxLen; omega)
  rcases Nat.eq_zero_or_pos (decL ((l.take 300).drop p)).2 with h0 | h0
  · rw [decR_no (dec_zero h0)] at hnx
    rw [dec_zero h0] at hbeg
    clear h0 hle
    go_wp2_with fail
    refine hnx.mono ?_
    rintro e w3 ⟨rfl, hb3⟩
    go_wp2_with fail
    refine (hbeg hb3).mono ?_
    rintro e w4 ⟨rfl, hb4⟩
    go_wp2
    go_ret
    exact ⟨rfl, bel_next hb02 (bel_next hb3 hb4)⟩
  · rw [decR_yes (l := l.take 300) (p := p) (c := (decL ((l.take 300).drop p)).1) (n := (decL ((l.take 300).drop p)).2) rfl (by omega)] at hnx
    generalize (decL ((l.take 300).drop p)).1 = cp at *
    generalize (decL ((l.take 300).drop p)).2 = k at *
    have hk0 : ((k : Int) == 0) = false := by rw [beq_eq_false_iff_ne]; omega
    have hpk : ((p + k : Nat) : Int) = (p : Int) + (k : Int) := by omega
    rw [hpk] at hnx
    clear hpk
    go_wp2_with fail
    refine hnx.mono ?_
    rintro e w3 ⟨rfl, hb3⟩
    go_wp2_with fail
    refine (hbeg hb3).mono ?_
    rintro e w4 ⟨rfl, hb4⟩
    have hb24 := bel_next hb3 hb4
    have hb04 := bel_next hb02 hb24
    clear hbeg hcut hb3 hb4
    go_wp2_with fail
    refine (few_any A n c w.heap.size l w4 (h.below hb04) hA hb04.size hn hc).mono ?_
    rintro e w5 ⟨A5, n5, c5, rfl, hown5, hb5⟩
    have hn5 : n5 ≤ 300 := by have := hown5.1; rw [List.length_map, List.length_take] at this; omega
    go_wp2_with fail
    refine (equal_any A2 A5 n2 c2 n5 c5 _ _ w2.heap.size w5.heap.size w5 (hl2.below (bel_next hb24 hb5)) (Bytes.own hown5) (by unfold maxLen; omega) (by unfold maxLen; omega)).mono ?_
    rintro e w6 ⟨rfl, k6, rfl⟩
    rw [show sameB (l.take 300) (l.take 300) = true from decide_eq_true rfl]
    go_wp2
    go_ret
    exact ⟨rfl, below_drewN (bel_next hb04 hb5) _⟩

set_option maxRecDepth 20000 in
set_option maxHeartbeats 2000000 in
theorem utfNexts_walk (w : World) (A : Option Addr) (n c : Nat) (l : List UInt8) (h : Bytes w w.heap.size A n l) (hA : A = none → c = 0) (hn : n ≤ c) (hc : c ≤ maxLen) (x : Int) (hx : (Lit.int .i64 x).wf = true) (htab : UTab w) :
    Calls Tryd.prog 4 #[.slice A n c, .int .i64 x] w fun e w' => e = .returned (.bool true) ∧ Below w.heap.size w w' := by
  clear hx
  by_cases hin : 0 ≤ x ∧ x < ((l.take 300).length : Int)
  · obtain ⟨p, rfl⟩ : ∃ p : Nat, x = (p : Int) := ⟨x.toNat, by omega⟩
    exact nexts_in w A n c l h hA hn hc p (by omega) htab
  have Hin := Lib.hid (show x < 0 ∨ x = ((l.take 300).length : Int) ∨ ((l.take 300).length : Int) < x by omega)
  clear hin
  go_enter Tryd.func4, Tryd.ntmps4
  go_wp2_with fail
  refine (wakes_any w htab).mono ?_
  rintro e w1 ⟨rfl, hb1⟩
  go_wp2_with fail
  refine (few_any A n c w.heap.size l w1 (h.below hb1) hA hb1.size hn hc).mono ?_
  rintro e w2 ⟨A2, n2, c2, rfl, hown2, hb2⟩
  have hl2 : Bytes w2 w2.heap.size A2 n2 (l.take 300) := Bytes.own hown2
  have hb02 := bel_next hb1 hb2
  have hlen := hl2.len
  rw [hlen] at Hin
  clear hlen hown2 hl2 hb1 hb2
  rcases Hin.out with h0 | h0 | h0
  · clear Hin
    have hnb := next_bad A2 n2 c2 x w2 (.inl h0)
    go_wp2_with fail
    refine hnb.mono ?_
    rintro e w3 ⟨rfl, hw3⟩
    have hw3' := hw3.symm
    clear hw3
    subst hw3'
    go_wp2
    go_ret
    exact ⟨rfl, hb02⟩
  · subst h0
    clear Hin
    have i4 : ¬ (n2 : Int) < 0 := by omega
    go_wp2_with fail
    refine (next_end A2 n2 c2 w2).mono ?_
    rintro e w3 ⟨rfl, hw3⟩
    have hw3' := hw3.symm
    clear hw3
    subst hw3'
    go_wp2
    go_ret
    exact ⟨rfl, hb02⟩
  · clear Hin
    have i4 : ¬ x < 0 := by omega
    have hnb := next_bad A2 n2 c2 x w2 (.inr h0)
    go_wp2_with fail
    refine hnb.mono ?_
    rintro e w3 ⟨rfl, hw3⟩
    have hw3' := hw3.symm
    clear hw3
    subst hw3'
    go_wp2
    go_ret
    exact ⟨rfl, hb02⟩
end Go.Proofs.YtialgpkighjffaaDoor
