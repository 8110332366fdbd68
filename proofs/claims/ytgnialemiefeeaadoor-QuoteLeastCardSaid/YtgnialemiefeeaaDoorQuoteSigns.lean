/-
  The walk of QuoteSigns.
-/
import Derived.Test.YtgnialemiefeeaaDoorQuoV
import Derived.Test.YtgnialemiefeeaaDoorQuoZ
import Derived.Test.YtgnialemiefeeaaDoorQuoU
namespace Go.Proofs.YtgnialemiefeeaaDoor
open Go.RowKit
set_option linter.unusedVariables false

/-- Behind a call: the same bytes in new memory are told equal. -/
theorem same_refl (l : List UInt8) : sameB l l = true := decide_eq_true rfl
set_option maxRecDepth 20000 in
set_option maxHeartbeats 2000000 in
theorem quoteSigns_walk (w : World) (A : Option Addr) (n c : Nat) (l : List UInt8) (h : Bytes w w.heap.size A n l) (hA : A = none → c = 0) (hn : n ≤ c) (hc : c ≤ maxLen) (x : Int) (hx : (Lit.int .i64 x).wf = true) (htab : UTab w) (hesc : ETab w) :
    Calls Tryd.prog 3 #[.slice A n c, .int .i64 x] w fun e w' => e = .returned (.bool true) ∧ Below w.heap.size w w' := by
  clear hx
  go_enter Tryd.func3, Tryd.ntmps3
  go_wp2_with fail
  refine (wakes_any w htab hesc).mono ?_
  rintro e w1 ⟨rfl, hb1⟩
  have t1 := htab.below hb1 htab.lt
  have e1 := hesc.below hb1 hesc.lt
  have h1 := h.below hb1
  have s1 := hb1.size
  go_wp2_with fail
  refine (few_any A n c w.heap.size l w1 h1 hA s1 hn hc).mono ?_
  rintro e w2 ⟨A2, n2, c2, rfl, hown2, hb2⟩
  have t2 := t1.below hb2 t1.lt
  have e2 := e1.below hb2 e1.lt
  have hl2 : Bytes w2 w2.heap.size A2 n2 (l.take 400) := Bytes.own hown2
  have Hl2 := Lib.hid hl2.len
  have hn2 : n2 ≤ 400 := by rw [← Hl2.out, List.length_take]; omega
  have hb02 := bel_next hb1 hb2
  obtain ⟨hnc, hcm⟩ : n2 ≤ c2 ∧ c2 ≤ maxLen := by obtain ⟨_, _, h1, h2, h3⟩ := own_form hown2; cases h1; exact ⟨h2, h3⟩
  unfold maxLen at hcm
  have hfew := fun (W : World) (hb : Below w2.heap.size w2 W) => few_any A n c w.heap.size l W (h.below (bel_next hb02 hb)) hA (bel_next hb02 hb).size hn hc
  have heq := fun (W W' : World) (hb : Below w2.heap.size w2 W') (A5 : Option Addr) (n5 c5 : Nat) (hown5 : W'.ownsRow W.heap.size 5 1 (.slice A5 n5 c5) n5 ((l.take 400).map bv)) =>
    equal_any A2 A5 n2 c2 n5 c5 _ _ w2.heap.size W'.heap.size W' (hl2.below hb) (Bytes.own hown5) (by unfold maxLen; omega) (by
      have := hown5.1; rw [List.length_map, List.length_take] at this; unfold maxLen; omega)
  have Hfew := Lib.hid hfew
  have Heq := Lib.hid heq
  clear hfew heq hown2 hb1 hb2 h1 t1 e1 hA hn hc
  by_cases hin : 0 ≤ x ∧ x ≤ (n2 : Int)
  · obtain ⟨p, rfl⟩ : ∃ p : Nat, x = (p : Int) := ⟨x.toNat, by omega⟩
    have hp : p ≤ n2 := by omega
    have i0 : (0 : Int) ≤ (p : Int) := by omega
    have i4 : ((p : Int) < 0) = False := by simp
    have i5 : ((n2 : Int) < (p : Int)) = False := by simp; omega
    have hsg := sign_in A2 n2 c2 w2.heap.size p (l.take 400) w2 t2 e2 hl2 (Nat.le_refl _) (by unfold maxLen; omega) hnc hp
    by_cases hpe : p = n2
    · subst hpe
      have hbz : (begL ((l.take 400).drop p)).2 = 0 := by rw [List.drop_of_length_le (by rw [Hl2.out]; exact Nat.le_refl _)]; rfl
      rw [sign_no hbz, show faultN (l.take 400) p = 6 from if_pos (by rw [Hl2.out]; exact Nat.le_refl _)] at hsg
      clear hbz hin
      go_wp2_with fail
      refine hsg.mono ?_
      rintro e w3 ⟨rfl, hb3⟩
      go_wp2_with fail
      refine (Hfew.out _ hb3).mono ?_
      rintro e w4 ⟨A4, n4, c4, rfl, hown4, hb4⟩
      have hb24 := bel_next hb3 hb4
      go_wp2_with fail
      refine (Heq.out _ _ hb24 _ _ _ hown4).mono ?_
      rintro e w5 ⟨rfl, k5, rfl⟩
      rw [same_refl]
      go_wp2
      go_ret
      exact ⟨rfl, below_drewN (bel_next hb02 hb24) _⟩
    · have i6 : ((p : Int) == (n2 : Int)) = false := by rw [beq_eq_false_iff_ne]; omega
      have i1 : (p : Int) ≤ (n2 : Int) := by omega
      have i2 : (n2 : Int) ≤ (c2 : Int) := by omega
      have i7 : (p : Int) < (n2 : Int) := by omega
      have hne : ¬ c2 = p := by omega
      have hne' : ¬ (c2 : Int) = p := by omega
      have hcut := fun (W : World) (hb : Below w2.heap.size w2 W) => by
        have hq := (hl2.below hb).cut (k := p) (cap := c2) (by omega) hnc
        rw [if_neg hne] at hq
        exact hq
      obtain ⟨b, off, rfl, -, -⟩ := hl2.cell (k := p) (by omega)
      rw [Option.map_some, addr_add] at hcut
      have hbeg := fun (W : World) (hb : Below w2.heap.size w2 W) => refBegin_any _ (n2 - p) (c2 - p) w2.heap.size ((l.take 400).drop p) W (hcut W hb) hb.size (by unfold maxLen; omega) (by omega)
      have hwr := fun (W : World) (hb : Below w2.heap.size w2 W) => wrong_any _ n2 c2 w2.heap.size p (l.take 400) W (hl2.below hb) (by unfold maxLen; omega) hp
      have hle := beg_le ((l.take 400).drop p)
      rw [List.length_drop, Hl2.out] at hle
      unfold pairV at hbeg
      clear hcut hin hpe
      by_cases h0 : (begL ((l.take 400).drop p)).2 = 0
      · rw [sign_no h0] at hsg
        rw [beg_zero h0] at hbeg
        have Hbeg := Lib.hid hbeg
        have Hwr := Lib.hid hwr
        clear hbeg h0 hwr hle
        generalize faultN (l.take 400) p = z at *
        go_wp2_with fail
        refine hsg.mono ?_
        rintro e w3 ⟨rfl, hb3⟩
        go_wp2_with fail
        refine (Hfew.out _ hb3).mono ?_
        rintro e w4 ⟨A4, n4, c4, rfl, hown4, hb4⟩
        have hb24 := bel_next hb3 hb4
        go_wp2_with fail
        refine (Heq.out _ _ hb24 _ _ _ hown4).mono ?_
        rintro e w5 ⟨rfl, k5, rfl⟩
        have hb25 := below_drewN hb24 k5
        rw [same_refl]
        go_wp2_with fail
        refine (Hbeg.out _ hb25).mono ?_
        rintro e w6 ⟨rfl, hb6⟩
        have hb26 := bel_next hb25 hb6
        go_wp2_with fail
        refine (Hwr.out _ hb26).mono ?_
        rintro e w7 ⟨rfl, rfl⟩
        go_wp2
        go_ret
        exact ⟨rfl, bel_next hb02 hb26⟩
      · rw [sign_yes (l := l.take 400) (p := p) (c := (begL ((l.take 400).drop p)).1) (n := (begL ((l.take 400).drop p)).2) rfl h0] at hsg
        have h5' : (((begL ((l.take 400).drop p)).2 : Int) == 0) = false := by rw [beq_eq_false_iff_ne]; omega
        have Hbeg := Lib.hid hbeg
        clear hbeg h0 hwr
        generalize (begL ((l.take 400).drop p)).1 = cp at *
        generalize (begL ((l.take 400).drop p)).2 = k at *
        rw [show ((p + k : Nat) : Int) = (p : Int) + (k : Int) by omega] at hsg
        go_wp2_with fail
        refine hsg.mono ?_
        rintro e w3 ⟨rfl, hb3⟩
        go_wp2_with fail
        refine (Hfew.out _ hb3).mono ?_
        rintro e w4 ⟨A4, n4, c4, rfl, hown4, hb4⟩
        have hb24 := bel_next hb3 hb4
        go_wp2_with fail
        refine (Heq.out _ _ hb24 _ _ _ hown4).mono ?_
        rintro e w5 ⟨rfl, k5, rfl⟩
        have hb25 := below_drewN hb24 k5
        rw [same_refl]
        go_wp2_with fail
        refine (Hbeg.out _ hb25).mono ?_
        rintro e w6 ⟨rfl, hb6⟩
        have hb26 := bel_next hb25 hb6
        go_wp2
        go_ret
        exact ⟨rfl, bel_next hb02 hb26⟩
  · have hbad := sign_bad A2 n2 c2 x w2 (by omega)
    rcases (show x < 0 ∨ (0 ≤ x ∧ (n2 : Int) < x) by omega) with h0 | ⟨h00, h0⟩
    · clear hin
      have i4 : (x < 0) = True := by simp; omega
      clear h0
      go_wp2_with fail
      refine hbad.mono ?_
      rintro e w3 ⟨rfl, rfl⟩
      go_wp2_with fail
      refine (Hfew.out _ (Below.refl _ _)).mono ?_
      rintro e w4 ⟨A4, n4, c4, rfl, hown4, hb4⟩
      go_wp2_with fail
      refine (Heq.out _ _ hb4 _ _ _ hown4).mono ?_
      rintro e w5 ⟨rfl, k5, rfl⟩
      rw [same_refl]
      go_wp2
      go_ret
      exact ⟨rfl, below_drewN (bel_next hb02 hb4) _⟩
    · clear hin
      have i4 : (x < 0) = False := by simp; omega
      clear h00
      go_wp2_with fail
      refine hbad.mono ?_
      rintro e w3 ⟨rfl, rfl⟩
      go_wp2_with fail
      refine (Hfew.out _ (Below.refl _ _)).mono ?_
      rintro e w4 ⟨A4, n4, c4, rfl, hown4, hb4⟩
      go_wp2_with fail
      refine (Heq.out _ _ hb4 _ _ _ hown4).mono ?_
      rintro e w5 ⟨rfl, k5, rfl⟩
      rw [same_refl]
      go_wp2
      go_ret
      exact ⟨rfl, below_drewN (bel_next hb02 hb4) _⟩
end Go.Proofs.YtgnialemiefeeaaDoor
