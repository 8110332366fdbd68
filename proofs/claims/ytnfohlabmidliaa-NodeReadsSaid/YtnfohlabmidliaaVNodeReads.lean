import Derived.Test.YtnfohlabmidliaaGal
import Derived.Test.YtnfohlabmidliaaVNodRp
import Derived.Test.YtnfohlabmidliaaVNodOf
/-
  The law NodeReads: Decode reads what the reference reads.
-/
namespace Go.Proofs.Ytnfohlabmidliaa
open Go.RowKit
set_option linter.unusedVariables false
set_option linter.unusedSimpArgs false

set_option maxRecDepth 20000 in
set_option maxHeartbeats 2000000 in
theorem none14_any (w : World) :
    Calls Try.prog 27 #[.agg #[.bool false, .slice none 0 0, .slice none 0 0]] w fun e w' => e = .returned (.bool true) ∧ Below w.heap.size w w' := by
  have hb := bel_alloc (Below.refl w.heap.size w) (.cells #[.bool false, .slice none 0 0, .slice none 0 0] 25)
  obtain ⟨⟨n0, n1, n2⟩, -⟩ := nbox_blk (heap_alloc_new w (.cells #[.bool false, .slice none 0 0, .slice none 0 0] 25))
  go_enter Try.func27, Try.ntmps27
  go_wp2
  refine bodyPost_ret (v := .bool true) ?_ rfl ⟨rfl, hb⟩
  simp [results, Try.results27, go_sem, *]
set_option maxRecDepth 20000 in
set_option maxHeartbeats 4000000 in
theorem nodeReads_walk (w : World) (A1 : Option Addr) (len1 cap1 : Nat) (l1 : List UInt8) (h1 : Bytes w w.heap.size A1 len1 l1) (hA1 : A1 = none → cap1 = 0) (hn1 : len1 ≤ cap1) (hc1 : cap1 ≤ maxLen) :
    Calls Try.prog 5 #[.slice A1 len1 cap1] w fun e w' => e = .returned (.bool true) ∧ Below w.heap.size w w' := by
  obtain ⟨m, hm⟩ : ∃ m : Nat, m = min len1 3000 := ⟨_, rfl⟩
  have hmn : m ≤ len1 := by omega
  have hm2 : m ≤ 3000 := by omega
  have e1 : min (len1 : Int) 3000 = (m : Int) := by omega
  have e2 : (if (3000 : Int) < (len1 : Int) then (3000 : Int) else (len1 : Int)) = (m : Int) := by split <;> omega
  have j1 : (m : Int) ≤ (len1 : Int) := by omega
  have j2 : (len1 : Int) ≤ (cap1 : Int) := by omega
  have j3 : (m : Int) ≤ (cap1 : Int) := by omega
  have hcm : cap1 ≤ 9223372036854775807 := by unfold maxLen at hc1; exact hc1
  have HF := Lib.hid (h1.first hmn)
  have hlm : (l1.take m).length = m := by rw [List.length_take, h1.len]; omega
  clear h1 hc1 hm
  obtain ⟨l2, hl2⟩ : ∃ l2, l1.take m = l2 := ⟨_, rfl⟩
  rw [hl2] at HF hlm
  clear hl2
  go_enter Try.func5, Try.ntmps5
  go_wp2_with fail
  refine (nwakes_any _).mono ?_
  rintro e W2 ⟨rfl, hb1⟩
  have hcC := clone_any A1 m cap1 l2 w.heap.size W2 (HF.out.below hb1) hA1 hb1.size (by omega)
  go_wp2_with fail
  refine hcC.mono ?_
  rintro e W3 ⟨A, n, c, rfl, hOw, hb2⟩
  have hb3 := bel_next hb1 hb2
  have hP := own_ok (p := ⟨A, n, c, l2⟩) hOw
  obtain rfl : n = m := by have h := hP.len; simp only at h; omega
  have HP := Lib.hid hP
  have hcD := decode14_any ⟨A, n, c, l2⟩ W3.heap.size W3 hP (Nat.le_refl _)
  simp only at hcD
  clear hcC hOw hb1 hb2 hP
  go_wp2_with fail
  refine hcD.mono ?_
  clear hcD
  rintro e W4 ⟨hb4, ⟨rfl, hno⟩ | ⟨Z, rfl, hrd, hok, hG⟩⟩
  · have hba := bel_alloc hb4 (.cells #[.bool false, .slice none 0 0, .slice none 0 0] 25)
    have hX4 := heap_alloc_new W4 (.cells #[.bool false, .slice none 0 0, .slice none 0 0] 25)
    have hcR := rRead14_any ⟨A, n, c, l2⟩ W3.heap.size (W4.alloc (.cells #[.bool false, .slice none 0 0, .slice none 0 0] 25)) (HP.out.later hba) hba.size
    simp only at hcR
    have HNO := Lib.hid hno
    clear hno
    go_wp2_with fail
    obtain ⟨g4, hg4⟩ : ∃ g, W4.heap.size = g := ⟨_, rfl⟩
    rw [hg4] at hX4 ⊢
    have hb5 := bel_next hb3 hba
    clear hg4 hb4 hba
    generalize W4.alloc (.cells #[.bool false, .slice none 0 0, .slice none 0 0] 25) = W5 at *
    refine hcR.mono ?_
    clear hcR
    rintro e W6 ⟨hb6, ⟨rfl, hnh⟩ | ⟨X, rfl, hXo, hXe, hXl⟩⟩
    · have hba := bel_alloc hb6 (.cells #[.bool false, .slice none 0 0, .slice none 0 0] 25)
      obtain ⟨⟨n0, n1, n2⟩, -⟩ := nbox_blk (blk_later hX4 hba)
      have hcN := none14_any (W6.alloc (.cells #[.bool false, .slice none 0 0, .slice none 0 0] 25))
      have hb7 := bel_next hb5 hba
      clear hnh hb6 hba
      go_wp2_with fail
      refine hcN.mono ?_
      clear hcN
      rintro e W8 ⟨rfl, hb8⟩
      have hbz := bel_next hb7 hb8
      clear n0 n1 n2 hb7 hb8
      go_wp2
      refine bodyPost_ret (v := .bool true) ?_ rfl ⟨rfl, hbz⟩
      simp [results, Try.results5, go_sem, *]
    · have h9 := enc_read hXl hXo []
      rw [List.append_nil, if_pos rfl, hXe] at h9
      have h8 := HNO.out X hXl.lens h9
      rw [hXo] at h8
      cases h8
  · have hag : Z.agg = .agg #[.bool Z.leaf, .slice Z.iA Z.iN Z.iC, .slice Z.kA Z.kN Z.kC] := rfl
    rw [hag]
    have HAG := Lib.hid hag
    have hZl := hG.lie hb4 hb4.size
    have hba := bel_alloc hb4 (.cells #[.bool Z.leaf, .slice Z.iA Z.iN Z.iC, .slice Z.kA Z.kN Z.kC] 25)
    have hX4 := heap_alloc_new W4 (.cells #[.bool Z.leaf, .slice Z.iA Z.iN Z.iC, .slice Z.kA Z.kN Z.kC] 25)
    have hcR := rRead14_any ⟨A, n, c, l2⟩ W3.heap.size (W4.alloc (.cells #[.bool Z.leaf, .slice Z.iA Z.iN Z.iC, .slice Z.kA Z.kN Z.kC] 25)) (HP.out.later hba) hba.size
    simp only at hcR
    have HZ5 := Lib.hid ((hZl.later (bel_alloc (Below.refl W4.heap.size W4) (.cells #[.bool Z.leaf, .slice Z.iA Z.iN Z.iC, .slice Z.kA Z.kN Z.kC] 25))).more (show W4.heap.size ≤ (W4.alloc (.cells #[.bool Z.leaf, .slice Z.iA Z.iN Z.iC, .slice Z.kA Z.kN Z.kC] 25)).heap.size by rw [World.size_alloc]; exact Nat.le_succ _))
    have HRD := Lib.hid hrd
    have HOK := Lib.hid hok
    have HHY : Hid (Hyp l2 Z) := Lib.hid ⟨_, _, hZl, hok, (read_enc hrd).symm⟩
    clear hag hZl hG hrd hok
    go_wp2_with fail
    obtain ⟨g4, hg4⟩ : ∃ g, W4.heap.size = g := ⟨_, rfl⟩
    rw [hg4] at hX4 ⊢
    have hb5 := bel_next hb3 hba
    have HPz := Lib.hid (HP.out.later hba)
    have HW35 := Lib.hid hba.size
    clear hg4 hb4 hba
    generalize W4.alloc (.cells #[.bool Z.leaf, .slice Z.iA Z.iN Z.iC, .slice Z.kA Z.kN Z.kC] 25) = W5 at *
    refine hcR.mono ?_
    clear hcR
    rintro e W6 ⟨hb6, ⟨rfl, hnh⟩ | ⟨X, rfl, hXo, hXe, hXl⟩⟩
    · exact absurd HHY.out (hnh Z)
    · have hxg : X.agg = .agg #[.bool X.leaf, .slice X.iA X.iN X.iC, .slice X.kA X.kN X.kC] := rfl
      rw [hxg]
      have h9 := enc_read hXl hXo []
      rw [List.append_nil, if_pos rfl, hXe] at h9
      have hsx : Z.s = X.s := by
        have h8 := HRD.out
        (try simp only at h8)
        exact Option.some.inj (h8.symm.trans h9)
      have hba := bel_alloc hb6 (.cells #[.bool X.leaf, .slice X.iA X.iN X.iC, .slice X.kA X.kN X.kC] 25)
      have hX6 := heap_alloc_new W6 (.cells #[.bool X.leaf, .slice X.iA X.iN X.iC, .slice X.kA X.kN X.kC] 25)
      obtain ⟨⟨n0, n1, n2⟩, -⟩ := nbox_blk (blk_later hX4 hba)
      obtain ⟨⟨u0, u1, u2⟩, -⟩ := nbox_blk hX6
      have hXl7 := (hXl.later (bel_alloc (Below.refl W6.heap.size W6) (.cells #[.bool X.leaf, .slice X.iA X.iN X.iC, .slice X.kA X.kN X.kC] 25))).more (show W6.heap.size ≤ (W6.alloc (.cells #[.bool X.leaf, .slice X.iA X.iN X.iC, .slice X.kA X.kN X.kC] 25)).heap.size by rw [World.size_alloc]; exact Nat.le_succ _)
      have hZl7 := (HZ5.out.later hba).more hba.size
      have hcS := rSame14_any Z X _ _ hZl7 hXl7 (Nat.le_refl _)
      rw [HAG.out, hxg] at hcS
      have hb7 := bel_next hb5 hba
      have HP7 := Lib.hid (HPz.out.later (hba.mono HW35.out))
      have HSX := Lib.hid hsx
      have HW7 := Lib.hid (Nat.le_trans HW35.out hba.size)
      clear hb6 hba hxg h9 hsx hXl hXl7 hZl7 hX6 hX4 hXo hXe
      go_wp2_with fail
      refine hcS.mono ?_
      clear hcS
      rintro e W8 ⟨z, rfl, hz, hb8⟩
      obtain rfl : z = true := hz.2 HSX.out
      have hb9 := bel_next hb7 hb8
      have HP9 := HP7.out.later (hb8.mono HW7.out)
      have hcE := bequal_any A A1 n c n cap1 l2 l2 _ _ W8 HP9.here (HF.out.below hb9) true (sameB_iff2.2 rfl)
      have hbz := hb9
      clear n0 n1 n2 u0 u1 u2 hb7 hb8 HP9 hb9 hz
      go_wp2_with fail
      refine hcE.mono ?_
      rintro e W9 ⟨rfl, rfl⟩
      clear hcE
      go_wp2
      refine bodyPost_ret (v := .bool true) ?_ rfl ⟨rfl, hbz⟩
      simp [results, Try.results5, go_sem, *]
end Go.Proofs.Ytnfohlabmidliaa
