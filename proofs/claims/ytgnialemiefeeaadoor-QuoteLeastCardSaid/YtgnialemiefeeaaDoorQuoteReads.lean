/-
  The walk of QuoteReads.
-/
import Derived.Test.YtgnialemiefeeaaDoorQuoteSigns
namespace Go.Proofs.YtgnialemiefeeaaDoor
open Go.RowKit
set_option linter.unusedVariables false

theorem readV_rd (l : List UInt8) (p : Nat) : readV l p = .tuple #[.string (ofL (textL (rdL l p).1)), .int .i64 ((rdL l p).2.1 : Int), .int .i64 (rdL l p).2.2] := by
  unfold readV rdL
  split
  · rfl
  · split
    · rfl
    · simp only
      split <;> rfl
theorem rd_cps (l : List UInt8) (p : Nat) : allCp (rdL l p).1 := by
  have hn : allCp [] := fun x hx => by cases hx
  unfold rdL
  split
  · exact hn
  · split
    · exact hn
    · simp only
      split
      · exact sgs_cps _
      · exact hn
theorem rd_few (l : List UInt8) (p : Nat) : (rdL l p).1.length ≤ l.length := by
  unfold rdL
  split
  · exact Nat.zero_le _
  · split
    · exact Nat.zero_le _
    · simp only
      split
      · have := (sgs_is (l.drop (p + 1)).length (l.drop (p + 1)) (Nat.le_refl _)).2
        rw [List.length_drop] at this
        show (sgsL (l.drop (p + 1))).1.length ≤ _
        omega
      · exact Nat.zero_le _
theorem refTextR_cps {cps : List Nat} (h : allCp cps) : refTextR (nats cps) = .tuple #[.string (ofL (textL cps)), .bool true] := by
  unfold refTextR
  rw [if_pos, nats_back]
  rw [List.all_eq_true]
  intro x hx
  obtain ⟨c, hc, rfl⟩ := List.mem_map.1 hx
  exact h c hc
set_option maxRecDepth 20000 in
set_option maxHeartbeats 2000000 in
theorem quoteReads_walk (w : World) (A : Option Addr) (n c : Nat) (l : List UInt8) (h : Bytes w w.heap.size A n l) (hA : A = none → c = 0) (hn : n ≤ c) (hc : c ≤ maxLen) (x : Int) (hx : (Lit.int .i64 x).wf = true) (htab : UTab w) (hesc : ETab w) :
    Calls Tryd.prog 4 #[.slice A n c, .int .i64 x] w fun e w' => e = .returned (.bool true) ∧ Below w.heap.size w w' := by
  clear hx
  go_enter Tryd.func4, Tryd.ntmps4
  go_wp2_with fail
  refine (wakes_any w htab hesc).mono ?_
  rintro e w1 ⟨rfl, hb1⟩
  have t1 := htab.below hb1 htab.lt
  have e1 := hesc.below hb1 hesc.lt
  have h1 := h.below hb1
  have s1 := hb1.size
  go_wp2_with fail
  refine (few_any A n c w.heap.size l w1 h1 hA s1 hn hc).mono ?_
  rintro e w2 ⟨A2, n2, c2, rfl, hown2, hb2⟩
  have t2 := t1.below hb2 t1.lt
  have e2 := e1.below hb2 e1.lt
  have hl2 : Bytes w2 w2.heap.size A2 n2 (l.take 400) := Bytes.own hown2
  have Hl2 := Lib.hid hl2.len
  have hn2 : n2 ≤ 400 := by rw [← Hl2.out, List.length_take]; omega
  have hb02 := bel_next hb1 hb2
  obtain ⟨hnc, hcm⟩ : n2 ≤ c2 ∧ c2 ≤ maxLen := by obtain ⟨_, _, h1, h2, h3⟩ := own_form hown2; cases h1; exact ⟨h2, h3⟩
  have Hcm := Lib.hid hcm
  unfold maxLen at hcm
  have hfew := fun (W : World) (hb : Below w2.heap.size w2 W) => few_any A n c w.heap.size l W (h.below (bel_next hb02 hb)) hA (bel_next hb02 hb).size hn hc
  have heq := fun (W W' : World) (hb : Below w2.heap.size w2 W') (A5 : Option Addr) (n5 c5 : Nat) (hown5 : W'.ownsRow W.heap.size 5 1 (.slice A5 n5 c5) n5 ((l.take 400).map bv)) =>
    equal_any A2 A5 n2 c2 n5 c5 _ _ w2.heap.size W'.heap.size W' (hl2.below hb) (Bytes.own hown5) (by unfold maxLen; omega) (by
      have := hown5.1; rw [List.length_map, List.length_take] at this; unfold maxLen; omega)
  have Hfew := Lib.hid hfew
  have Heq := Lib.hid heq
  clear hfew heq hown2 hb1 hb2 h1 t1 e1 hA hn hc
  by_cases hin : 0 ≤ x ∧ x ≤ (n2 : Int)
  · obtain ⟨p, rfl⟩ : ∃ p : Nat, x = (p : Int) := ⟨x.toNat, by omega⟩
    have hp : p ≤ n2 := by omega
    have i4 : ((p : Int) < 0) = False := by simp
    have i5 : ((n2 : Int) < (p : Int)) = False := by simp; omega
    have hrd := read_in A2 n2 c2 w2.heap.size p (l.take 400) w2 t2 e2 hl2 (Nat.le_refl _) (by omega) hnc hp
    rw [readV_rd] at hrd
    have hself : ((ofL (textL (rdL (l.take 400) p).1)).toList == (ofL (textL (rdL (l.take 400) p).1)).toList) = true := by simp
    have Href := Lib.hid (fun (W : World) (hb : Below w2.heap.size w2 W) => refRead_any A2 n2 c2 w2.heap.size p (l.take 400) W (hl2.below hb) hb.size (by omega) hnc Hcm.out hp)
    have Hcps := Lib.hid (rd_cps (l.take 400) p)
    have hfw := rd_few (l.take 400) p
    rw [Hl2.out] at hfw
    unfold GivesRd at Href
    have Hnl := Lib.hid (nats_len (rdL (l.take 400) p).1)
    have Hrt := Lib.hid (refTextR_cps Hcps.out)
    clear hin
    generalize (rdL (l.take 400) p).1 = cps at *
    generalize (rdL (l.take 400) p).2.1 = q at *
    generalize (rdL (l.take 400) p).2.2 = z at *
    generalize ofL (textL cps) = S at *
    go_wp2_with fail
    refine hrd.mono ?_
    rintro e w3 ⟨rfl, hb3⟩
    go_wp2_with fail
    refine (Href.out _ hb3).mono ?_
    rintro e w4 ⟨A4, n4, c4, hown4, hb4, rfl⟩
    have hb24 := bel_next hb3 hb4
    have hn4 : n4 ≤ 400 := by have := hown4.1; rw [List.length_map, Hnl.out] at this; omega
    have htx := refText_any A4 n4 c4 w4.heap.size (nats cps) w4 (Ints.own hown4) (Nat.le_refl _) (by omega)
    rw [Hrt.out] at htx
    clear hown4
    go_wp2_with fail
    refine htx.mono ?_
    rintro e w5 ⟨rfl, hb5⟩
    have hb25 := bel_next hb24 hb5
    go_wp2_with fail
    refine (Hfew.out _ hb25).mono ?_
    rintro e w6 ⟨A6, n6, c6, rfl, hown6, hb6⟩
    have hb26 := bel_next hb25 hb6
    go_wp2_with fail
    refine (Heq.out _ _ hb26 _ _ _ hown6).mono ?_
    rintro e w7 ⟨rfl, k7, rfl⟩
    rw [same_refl]
    go_wp2
    go_ret
    exact ⟨rfl, below_drewN (bel_next hb02 hb26) _⟩
  · have hbad := read_bad A2 n2 c2 x w2 (by omega)
    rcases (show x < 0 ∨ (0 ≤ x ∧ (n2 : Int) < x) by omega) with h0 | ⟨h00, h0⟩
    · clear hin
      have i4 : (x < 0) = True := by simp; omega
      clear h0
      go_wp2_with fail
      refine hbad.mono ?_
      rintro e w3 ⟨rfl, hb3⟩
      go_wp2
      go_ret
      exact ⟨rfl, bel_next hb02 hb3⟩
    · clear hin
      have i4 : (x < 0) = False := by simp; omega
      clear h00
      go_wp2_with fail
      refine hbad.mono ?_
      rintro e w3 ⟨rfl, hb3⟩
      go_wp2
      go_ret
      exact ⟨rfl, bel_next hb02 hb3⟩
end Go.Proofs.YtgnialemiefeeaaDoor
