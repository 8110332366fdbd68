/-
  The walk of UtfAlone.
-/
import Derived.Test.YtialgpkighjffaaDoorUtfX
import Derived.Test.YtialgpkighjffaaDoorUtfW
namespace Go.Proofs.YtialgpkighjffaaDoor
open Go.RowKit
set_option linter.unusedVariables false

set_option maxRecDepth 20000 in
set_option maxHeartbeats 2000000 in
theorem alone_yes (w : World) (A : Option Addr) (n c : Nat) (l : List UInt8) (h : Bytes w w.heap.size A n l) (hA : A = none → c = 0) (hn : n ≤ c) (hc : c ≤ maxLen) (p : Nat) (htab : UTab w)
    (cp : Nat) (r : List UInt8) (hcp : isCp cp = true) (hr : (l.take 300).drop p = encL cp ++ r) (hp : p < (l.take 300).length) :
    Calls Tryd.prog 7 #[.slice A n c, .int .i64 (p : Int)] w fun e w' => e = .returned (.bool true) ∧ Below w.heap.size w w' := by
  have hk := encL_len_pos cp
  have hdec : decL ((l.take 300).drop p) = (cp, (encL cp).length) := by rw [hr]; exact dec_enc cp hcp r
  have hlen := congrArg List.length hr
  rw [List.length_drop, List.length_append] at hlen
  have HC := Lib.hid (show ((l.take 300).drop p).take (encL cp).length = encL cp by rw [hr, List.take_left])
  have HF := Lib.hid (show ∀ j, j < (encL cp).length → decL (((l.take 300).take (p + j)).drop p) = (0, 0) by
    intro j hj
    rw [List.drop_take, hr, show p + j - p = j by omega, List.take_append_of_le_length (by omega)]
    exact dec_front cp j hcp hj)
  have h300 : (l.take 300).length ≤ 300 := by rw [List.length_take]; omega
  clear hr
  generalize hL : l.take 300 = L at *
  have HL := Lib.hid hL
  clear hL
  go_enter Tryd.func7, Tryd.ntmps7
  go_wp2_with fail
  refine (wakes_any w htab).mono ?_
  rintro e w1 ⟨rfl, hb1⟩
  have t1 := htab.below hb1 htab.lt
  have h1 := h.below hb1
  have s1 := hb1.size
  go_wp2_with fail
  refine (few_any A n c w.heap.size l w1 h1 hA s1 hn hc).mono ?_
  rintro e w2 ⟨A2, n2, c2, rfl, hown2, hb2⟩
  have t2 := t1.below hb2 t1.lt
  rw [HL.out] at hown2
  have hl2 : Bytes w2 w2.heap.size A2 n2 L := Bytes.own hown2
  have Hl2 := Lib.hid hl2.len
  have hn2 : n2 ≤ 300 := by rw [← Hl2.out]; exact h300
  have hpn : p < n2 := by rw [← Hl2.out]; exact hp
  rw [Hl2.out] at hlen
  have hb02 := bel_next hb1 hb2
  obtain ⟨hnc, hcm⟩ : n2 ≤ c2 ∧ c2 ≤ maxLen := by obtain ⟨_, _, h1, h2, h3⟩ := own_form hown2; cases h1; exact ⟨h2, h3⟩
  unfold maxLen at hcm
  have hnx := next_in A2 n2 c2 w2.heap.size p L w2 t2 hl2 (Nat.le_refl _) (by unfold maxLen; omega) hpn
  rw [decR_yes hdec (by omega)] at hnx
  have hcut := hl2.cut (k := p) (cap := c2) (by omega) hnc
  have hne : ¬ c2 = p := by omega
  rw [if_neg hne] at hcut
  have hcut := hcut.first (k := (encL cp).length) (by omega)
  rw [HC.out] at hcut
  have hfront := hl2.first (k := p + (encL cp).length - 1) (by omega)
  have Hfl : (L.take (p + (encL cp).length - 1)).drop p = (L.take (p + ((encL cp).length - 1))).drop p := by rw [Nat.add_sub_assoc hk.1]
  have Hfd := HF.out ((encL cp).length - 1) (by omega)
  rw [← Hfl] at Hfd
  clear hown2 hb1 hp HL h300 HC HF hdec Hfl hl2
  generalize hK : (encL cp).length = k at *
  have HK := Lib.hid hK
  clear hK
  have hpk : ((p + k : Nat) : Int) = (p : Int) + (k : Int) := by omega
  rw [hpk] at hnx
  clear hpk
  have hle : p + k ≤ n2 := by omega
  clear hlen
  go_wp2_with fail
  refine hnx.mono ?_
  rintro e w3 ⟨rfl, hb3⟩
  have t3 := t2.below hb3 t2.lt
  have hcut := hcut.below hb3
  have hfront := hfront.below hb3
  have s3 := hb3.size
  have hb03 := bel_next hb02 hb3
  clear hb3 hb02
  go_wp2_with fail
  refine (put_yes none 0 0 0 [] cp w3 t3 (Bytes.zero _) (Nat.zero_le _) (by omega) hcp).mono ?_
  rintro e w4 ⟨A4, n4, c4, rfl, hown4, hb4⟩
  have t4 := t3.below hb4 t3.lt
  rw [List.nil_append] at hown4
  have hl4 : Bytes w4 w4.heap.size A4 n4 (encL cp) := Bytes.own hown4
  obtain rfl : k = n4 := by rw [← HK.out]; exact hl4.len
  have hcut := hcut.below (hb4.mono s3)
  have hfront := hfront.below (hb4.mono s3)
  have hb04 := bel_next hb03 hb4
  have s4 : w2.heap.size ≤ w4.heap.size := Nat.le_trans s3 hb4.size
  clear hown4 hb4 hb03
  have hbe := bytesEqual_any A4 (A2.map (·.add p)) k c4 k (c2 - p) (encL cp) (encL cp) w4.heap.size w2.heap.size w4 hl4 hcut true (decide_eq_true rfl)
  have i0 : (0 : Int) ≤ (p : Int) := by omega
  have i1 : (p : Int) ≤ (p : Int) + (k : Int) := by omega
  have i2 : (p : Int) + (k : Int) ≤ (c2 : Int) := by omega
  have i3 : ¬ (n2 : Int) < (p : Int) + (k : Int) := by omega
  have i4 : ¬ (4 : Int) < (k : Int) := by omega
  have i5 : ¬ (p : Int) + (k : Int) ≤ (p : Int) := by omega
  go_wp2_with fail
  refine hbe.mono ?_
  rintro e w5 ⟨rfl, hw5⟩
  have hw5' := hw5.symm
  clear hw5 hbe hcut hl4
  subst hw5'
  have i6 : (((p : Int) + (k : Int)) - 1) = ((p + k - 1 : Nat) : Int) := by omega
  have i7 : ((p + k - 1 : Nat) : Int) ≤ (c2 : Int) := by omega
  have i8 : (0 : Int) ≤ ((p + k - 1 : Nat) : Int) := by omega
  rcases Nat.lt_or_ge 1 k with hk1 | hk1
  · have hnx2 := next_in A2 (p + k - 1) c2 w2.heap.size p (L.take (p + k - 1)) w4 t4 hfront s4 (by unfold maxLen; omega) (by omega)
    rw [decR_no Hfd] at hnx2
    clear Hfd
    generalize p + k - 1 = q at *
    go_wp2_with fail
    refine hnx2.mono ?_
    rintro e w6 ⟨rfl, hb6⟩
    go_wp2
    go_ret
    exact ⟨rfl, bel_next hb04 hb6⟩
  · obtain rfl : k = 1 := by omega
    clear Hfd hnx i6 i7 i8 hfront HK
    have i6 : (p : Int) + 1 - 1 = (p : Int) := by omega
    have i9 : (p : Int) ≤ (c2 : Int) := by omega
    simp only [Int.natCast_one] at i1 i2 i3 i4 i5
    go_wp2_with fail
    refine (next_end A2 p c2 w4).mono ?_
    rintro e w6 ⟨rfl, hw6⟩
    have hw6' := hw6.symm
    clear hw6
    subst hw6'
    go_wp2
    go_ret
    exact ⟨rfl, hb04⟩

set_option maxRecDepth 20000 in
set_option maxHeartbeats 2000000 in
theorem utfAlone_walk (w : World) (A : Option Addr) (n c : Nat) (l : List UInt8) (h : Bytes w w.heap.size A n l) (hA : A = none → c = 0) (hn : n ≤ c) (hc : c ≤ maxLen) (x : Int) (hx : (Lit.int .i64 x).wf = true) (htab : UTab w) :
    Calls Tryd.prog 7 #[.slice A n c, .int .i64 x] w fun e w' => e = .returned (.bool true) ∧ Below w.heap.size w w' := by
  clear hx
  by_cases hin : 0 ≤ x ∧ x < ((l.take 300).length : Int)
  · obtain ⟨p, rfl⟩ : ∃ p : Nat, x = (p : Int) := ⟨x.toNat, by omega⟩
    have hp : p < (l.take 300).length := by omega
    rcases Nat.eq_zero_or_pos (decL ((l.take 300).drop p)).2 with h0 | h0
    · have hdec := dec_zero h0
      clear h0 hin
      go_enter Tryd.func7, Tryd.ntmps7
      go_wp2_with fail
      refine (wakes_any w htab).mono ?_
      rintro e w1 ⟨rfl, hb1⟩
      go_wp2_with fail
      refine (few_any A n c w.heap.size l w1 (h.below hb1) hA hb1.size hn hc).mono ?_
      rintro e w2 ⟨A2, n2, c2, rfl, hown2, hb2⟩
      have hl2 : Bytes w2 w2.heap.size A2 n2 (l.take 300) := Bytes.own hown2
      have hn2 : n2 ≤ 300 := by rw [← hl2.len, List.length_take]; omega
      have hb02 := bel_next hb1 hb2
      have hnx := next_in A2 n2 c2 w2.heap.size p (l.take 300) w2 ((htab.below hb1 htab.lt).below hb2 (htab.below hb1 htab.lt).lt) hl2 (Nat.le_refl _) (by unfold maxLen; omega) (by rw [← hl2.len]; exact hp)
      rw [decR_no hdec] at hnx
      clear hdec hp hown2 hl2
      go_wp2_with fail
      refine hnx.mono ?_
      rintro e w3 ⟨rfl, hb3⟩
      go_wp2
      go_ret
      exact ⟨rfl, bel_next hb02 hb3⟩
    · obtain ⟨hcp, r, hr, -⟩ := enc_dec (l := (l.take 300).drop p) (c := (decL ((l.take 300).drop p)).1) (n := (decL ((l.take 300).drop p)).2) rfl (by omega)
      exact alone_yes w A n c l h hA hn hc p htab _ r hcp hr hp
  have Hin := Lib.hid (show x < 0 ∨ x = ((l.take 300).length : Int) ∨ ((l.take 300).length : Int) < x by omega)
  clear hin
  go_enter Tryd.func7, Tryd.ntmps7
  go_wp2_with fail
  refine (wakes_any w htab).mono ?_
  rintro e w1 ⟨rfl, hb1⟩
  go_wp2_with fail
  refine (few_any A n c w.heap.size l w1 (h.below hb1) hA hb1.size hn hc).mono ?_
  rintro e w2 ⟨A2, n2, c2, rfl, hown2, hb2⟩
  have hl2 : Bytes w2 w2.heap.size A2 n2 (l.take 300) := Bytes.own hown2
  have hb02 := bel_next hb1 hb2
  have hlen := hl2.len
  rw [hlen] at Hin
  clear hlen hown2 hl2 hb1 hb2
  have hnx : Calls Tryd.prog 17 #[.slice A2 n2 c2, .int .i64 x] w2 fun e w' => (∃ k : Int, (k = 2 ∨ k = 6) ∧ e = .returned (.tuple #[.int .i64 0, .int .i64 0, .int .i64 k])) ∧ w' = w2 := by
    rcases Hin.out with h0 | h0 | h0
    · exact (next_bad A2 n2 c2 x w2 (.inl h0)).mono fun e w' ⟨h1, h2⟩ => ⟨⟨2, .inl rfl, h1⟩, h2⟩
    · subst h0
      exact (next_end A2 n2 c2 w2).mono fun e w' ⟨h1, h2⟩ => ⟨⟨6, .inr rfl, h1⟩, h2⟩
    · exact (next_bad A2 n2 c2 x w2 (.inr h0)).mono fun e w' ⟨h1, h2⟩ => ⟨⟨2, .inl rfl, h1⟩, h2⟩
  clear Hin
  go_wp2_with fail
  refine hnx.mono ?_
  rintro e w3 ⟨⟨k, hk, rfl⟩, hw3⟩
  have hw3' := hw3.symm
  clear hw3 hnx
  subst hw3'
  rcases hk with rfl | rfl
  all_goals
    go_wp2
    go_ret
    exact ⟨rfl, hb02⟩
end Go.Proofs.YtialgpkighjffaaDoor
