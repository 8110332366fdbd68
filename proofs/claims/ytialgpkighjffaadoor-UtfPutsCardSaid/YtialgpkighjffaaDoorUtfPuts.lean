/-
  The walk of UtfPuts.
-/
import Derived.Test.YtialgpkighjffaaDoorUtfV
import Derived.Test.YtialgpkighjffaaDoorUtfW
import Derived.Test.YtialgpkighjffaaDoorApW
namespace Go.Proofs.YtialgpkighjffaaDoor
open Go.RowKit
set_option linter.unusedVariables false

set_option maxRecDepth 20000 in
set_option maxHeartbeats 2000000 in
theorem utfPuts_walk (w : World) (A : Option Addr) (n c : Nat) (l : List UInt8) (h : Bytes w w.heap.size A n l) (hA : A = none → c = 0) (hn : n ≤ c) (hc : c ≤ maxLen) (x : Int) (hx : (Lit.int .i64 x).wf = true) (htab : UTab w) :
    Calls Tryd.prog 3 #[.slice A n c, .int .i64 x] w fun e w' => e = .returned (.bool true) ∧ Below w.heap.size w w' := by
  obtain ⟨i0, hi, hz0, hz1, hz2⟩ := u8_info
  clear hx
  go_enter Tryd.func3, Tryd.ntmps3
  go_wp2_with fail
  refine (wakes_any w htab).mono ?_
  rintro e w1 ⟨rfl, hb1⟩
  have t1 := htab.below hb1 htab.lt
  have h1 := h.below hb1
  have s1 := hb1.size
  go_wp2_with fail
  refine (few_any A n c w.heap.size l w1 h1 hA s1 hn hc).mono ?_
  rintro e w2 ⟨A2, n2, c2, rfl, hown2, hb2⟩
  have t2 := t1.below hb2 t1.lt
  have hl2 : Bytes w2 w2.heap.size A2 n2 (l.take 300) := Bytes.own hown2
  have Hl2 := Lib.hid hl2.len
  have hn2 : n2 ≤ 300 := by rw [← Hl2.out, List.length_take]; omega
  have hb02 := bel_next hb1 hb2
  clear hown2
  cases hcp : isCp x
  · have hput := put_no A2 n2 c2 x w2 t2 hcp
    have his := fun W => is_any x W
    rw [hcp] at his
    have hsz : fs (hIdx x) = 0 := by rw [hIdx_no x hcp]; rfl
    have hsize := fun W hT => size_any x W hT
    rw [hsz] at hsize
    clear hcp hsz
    go_wp2_with fail
    refine hput.mono ?_
    rintro e w3 ⟨rfl, hb3⟩
    have t3 := t2.below hb3 t2.lt
    go_wp2_with fail
    refine (his _).mono ?_
    rintro e w4 ⟨rfl, hw4⟩
    have hw4' := hw4.symm
    clear hw4
    subst hw4'
    go_wp2_with fail
    refine (hsize _ t3).mono ?_
    rintro e w5 ⟨rfl, hb5⟩
    go_wp2
    go_ret
    exact ⟨rfl, bel_next (bel_next hb02 hb3) hb5⟩
  · obtain ⟨k, rfl⟩ : ∃ k : Nat, x = (k : Int) := ⟨x.toNat, by have := (isCp_iff _).1 hcp; omega⟩
    have hk : k ≤ 1114111 := by have := (isCp_iff _).1 hcp; omega
    have hput := put_yes A2 n2 c2 w2.heap.size (l.take 300) k w2 t2 hl2 (Nat.le_refl _) (by omega) hcp
    have his := fun W => is_any (k : Int) W
    rw [hcp] at his
    have hsz := hIdx_len k hcp
    have hsize := fun W hT => size_any (k : Int) W hT
    rw [hsz] at hsize
    have hlen := encL_len_pos k
    clear hcp hsz
    go_wp2_with fail
    refine hput.mono ?_
    rintro e w3 ⟨A3, n3, c3, rfl, hown3, hb3⟩
    have hl3 : Bytes w3 w3.heap.size A3 n3 (l.take 300 ++ encL k) := Bytes.own hown3
    have Hl3 := Lib.hid hl3.len
    have t3 := t2.below hb3 t2.lt
    have hl2 := hl2.below hb3
    have s3 := hb3.size
    clear hown3
    go_wp2_with fail
    refine (his _).mono ?_
    rintro e w4 ⟨rfl, hw4⟩
    have hw4' := hw4.symm
    clear hw4
    subst hw4'
    go_wp2_with fail
    refine (bytes_any k hk _).mono ?_
    rintro e w4 ⟨A4, n4, c4, rfl, hown4, hb4⟩
    have hl4 : Bytes w4 w4.heap.size A4 n4 (encL k) := Bytes.own hown4
    have t4 := t3.below hb4 t3.lt
    have Hl4 := Lib.hid hl4.len
    have hn4 : n4 ≤ 4 := by rw [← Hl4.out]; omega
    rw [Hl4.out] at hsize
    clear hown4
    go_wp2_with fail
    refine (hsize _ t4).mono ?_
    rintro e w5 ⟨rfl, hb5⟩
    have hb35 := bel_next hb4 hb5
    have hb05 := bel_next (bel_next hb02 hb3) hb35
    have hl4 := hl4.below hb5
    have s5 := hb5.size
    go_wp2_with fail
    refine (few_any A n c w.heap.size l w5 (h.below hb05) hA hb05.size hn hc).mono ?_
    rintro e w6 ⟨A6, n6, c6, rfl, hown6, hb6⟩
    have hn6 : n6 ≤ 300 := by have := hown6.1; rw [List.length_map, List.length_take] at this; omega
    have s6 := hb6.size
    have hl4 := hl4.below (hb6.mono s5)
    go_wp2_with (at_builtin; refine wpList_append_wanted (by rfl) _ _ 22 rfl w5.heap.size 5 i0 (.int .u8 0) 1 1 Tryd.underlying22 hi hz0 hz1 hz2 rfl (by decide) _ _ _ rfl hown6 w4.heap.size _ n4 c4 ((encL k).map bv) rfl hl4 (bv_one _) (by unfold maxLen; omega) (by omega) (by omega) ?_; intro A7 c7 w7 hown7 hgrow7 hb7)
    have hl7 : Bytes w7 w7.heap.size A7 (n6 + n4) (l.take 300 ++ encL k) := Bytes.own (by rw [List.map_append]; exact hown7)
    have hb57 := hb6.trans hb7
    have hb37 := bel_next hb35 hb57
    refine (equal_any A3 A7 n3 c3 _ c7 _ _ w3.heap.size w7.heap.size w7 (hl3.below hb37) hl7 (by have := Hl3.out; simp at this; unfold maxLen; omega) (by unfold maxLen; omega)).mono ?_
    rintro e w8 ⟨rfl, k8, rfl⟩
    rw [show sameB (l.take 300 ++ encL k) (l.take 300 ++ encL k) = true from decide_eq_true rfl]
    have hb07 := bel_next hb05 hb57
    go_wp2_with fail
    refine (few_any A n c w.heap.size l _ ((h.below hb07).drewN _) hA hb07.size hn hc).mono ?_
    rintro e w9 ⟨A9, n9, c9, rfl, hown9, hb9⟩
    have hb9' := below_undrewN hb9
    have hn9 : n9 ≤ 300 := by have := hown9.1; rw [List.length_map, List.length_take] at this; omega
    go_wp2_with fail
    refine (equal_any A2 A9 n2 c2 n9 c9 _ _ w2.heap.size w9.heap.size w9 (hl2.below ((bel_next hb37 hb9').mono s3)) (Bytes.own hown9) (by unfold maxLen; omega) (by unfold maxLen; omega)).mono ?_
    rintro e w10 ⟨rfl, k10, rfl⟩
    rw [show sameB (l.take 300) (l.take 300) = true from decide_eq_true rfl]
    go_wp2
    go_ret
    exact ⟨rfl, below_drewN (bel_next hb07 hb9') _⟩
end Go.Proofs.YtialgpkighjffaaDoor
