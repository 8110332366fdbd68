import Derived.Test.YtkbcgcokokddlaaGak
/-
  The law MergeSorts, walked.
-/
namespace Go.Proofs.Ytkbcgcokokddlaa
open Go.RowKit
set_option linter.unusedVariables false
set_option linter.unusedSimpArgs false

theorem EsT.Lie.slen {w : World} {B : Nat} {X : EsT} (h : X.Lie w B) : X.s.length = X.n := by
  unfold EsT.s
  rw [List.length_map, h.len]
theorem few_len (l : List EdS) (m : Nat) : ((l.take m).map fewS).length ≤ m := by
  rw [List.length_map, List.length_take]
  exact Nat.min_le_left _ _
set_option maxRecDepth 20000 in
set_option maxHeartbeats 2000000 in
theorem mergeSorts_walk (w : World) (X : EsT) (hX : X.Lie w w.heap.size) :
    Calls Try.prog 4 #[.slice X.A X.n X.c] w fun e w' => e = .returned (.bool true) ∧ Below w.heap.size w w' := by
  have HX := Lib.hid hX
  clear hX
  go_enter Try.func4, Try.ntmps4
  go_wp2_with fail
  refine (mwakes_any _).mono ?_
  rintro e W1 ⟨rfl, hb1⟩
  have hf := mfew_any X 600 w.heap.size W1 (HX.out.later hb1) hb1.size (by decide)
  rw [show ((600 : Nat) : Int) = 600 from rfl] at hf
  go_wp2_with fail
  refine hf.mono ?_
  rintro e W2 ⟨hb2, ⟨YA, Yn, Yc, YE⟩, rfl, hys, hyo⟩
  have hy := hyo.lie
  have hb02 := bel_next hb1 hb2
  have hyn : Yn ≤ 600 := by
    have h1 := hy.slen
    rw [hys] at h1
    have h2 := few_len X.s 600
    simp only at h1
    omega
  have hst := msort_any ⟨YA, Yn, Yc, YE⟩ W2.heap.size W2 hy (Nat.le_refl _) (by show Yn ≤ 1048576; omega)
  have HYS := Lib.hid hys
  have HYN := Lib.hid hyn
  have HXw := Lib.hid (HX.out)
  clear hf hys hyo hb1 hb2 hyn
  go_wp2_with fail
  refine hst.mono ?_
  rintro e W3 ⟨hb3, hh⟩
  have hb03 := bel_next hb02 hb3
  have HY3 := Lib.hid (hy.next hb3)
  have hal := rall_any ⟨YA, Yn, Yc, YE⟩ W3.heap.size W3 HY3.out (Nat.le_refl _)
  clear hst hb02 hb3 hy
  obtain ⟨S, hS⟩ : ∃ S, EsT.s ⟨YA, Yn, Yc, YE⟩ = S := ⟨_, rfl⟩
  rw [hS] at hh hal
  have HS := Lib.hid hS
  clear hS
  rcases hh with ⟨hno, rfl⟩ | ⟨hok, hlong, rfl⟩ | ⟨hok, hshort, ⟨ZA, Zn, Zc, ZE⟩, rfl, hZs, hZl⟩
  · have HNo := Lib.hid hno
    clear hno
    go_wp2_with fail
    refine hal.mono ?_
    rintro e W4 ⟨z, rfl, hz, hb4⟩
    have hzf : z = false := by
      cases z
      · rfl
      · exact absurd (hz.1 rfl) HNo.out
    subst hzf
    have hb04 := bel_next hb03 hb4
    clear hal hz hb03 hb4
    go_wp2
    go_ret
    exact ⟨rfl, hb04⟩
  · have HOk := Lib.hid hok
    have HLong := Lib.hid hlong
    clear hok hlong
    go_wp2_with fail
    refine hal.mono ?_
    rintro e W4 ⟨z, rfl, hz, hb4⟩
    have hzt : z = true := hz.2 HOk.out
    subst hzt
    have hb04 := bel_next hb03 hb4
    have hrs := rsort_any ⟨YA, Yn, Yc, YE⟩ W4.heap.size W4 (HY3.out.next hb4) (Nat.le_refl _) (by show Yn ≤ 1048576; have := HYN.out; omega)
    rw [HS.out] at hrs
    clear hal hz hb03 hb4
    go_wp2_with fail
    refine hrs.mono ?_
    rintro e W5 ⟨hb5, ⟨RA, Rn, Rc, RE⟩, rfl, hRs, hRl⟩
    have hb05 := bel_next hb04 hb5
    have hl := hRl.slen
    rw [hRs] at hl
    simp only at hl
    have hgt : (512 : Int) < (Rn : Int) := by have := HLong.out; omega
    clear hrs hRs hRl hl hb04 hb5
    go_wp2
    go_ret
    exact ⟨rfl, hb05⟩
  · have HOk := Lib.hid hok
    have HShort := Lib.hid hshort
    have HZs := Lib.hid hZs
    have HZl := Lib.hid hZl
    clear hok hshort hZs hZl
    go_wp2_with fail
    refine hal.mono ?_
    rintro e W4 ⟨z, rfl, hz, hb4⟩
    have hzt : z = true := hz.2 HOk.out
    subst hzt
    have hb04 := bel_next hb03 hb4
    have HY4 := Lib.hid (HY3.out.next hb4)
    have HZ4 := Lib.hid (HZl.out.next hb4)
    have hrs := rsort_any ⟨YA, Yn, Yc, YE⟩ W4.heap.size W4 HY4.out (Nat.le_refl _) (by show Yn ≤ 1048576; have := HYN.out; omega)
    rw [HS.out] at hrs
    clear hal hz hb03 hb4
    go_wp2_with fail
    refine hrs.mono ?_
    rintro e W5 ⟨hb5, ⟨RA, Rn, Rc, RE⟩, rfl, hRs, hRl⟩
    have hb05 := bel_next hb04 hb5
    have hl := hRl.slen
    rw [hRs] at hl
    simp only at hl
    have hgt : ¬ (512 : Int) < (Rn : Int) := by have := HShort.out; omega
    have hse := sameE_any ⟨ZA, Zn, Zc, ZE⟩ ⟨RA, Rn, Rc, RE⟩ W5.heap.size W5 (HZ4.out.next hb5) hRl (Nat.le_refl _)
    have HEq : Hid (EsT.s ⟨ZA, Zn, Zc, ZE⟩ = EsT.s ⟨RA, Rn, Rc, RE⟩) := Lib.hid (HZs.out.trans hRs.symm)
    have HY5 := Lib.hid (HY4.out.next hb5)
    clear hrs hRs hRl hl hb04 hb5
    go_wp2_with fail
    refine hse.mono ?_
    rintro e W6 ⟨z, rfl, hz, hb6⟩
    have hzt : z = true := hz.2 HEq.out
    subst hzt
    have hb06 := bel_next hb05 hb6
    have HY6 := Lib.hid (HY5.out.next hb6)
    have hf := mfew_any X 600 w.heap.size W6 (HXw.out.later hb06) hb06.size (by decide)
    rw [show ((600 : Nat) : Int) = 600 from rfl] at hf
    clear hse hz hb05 hb6
    go_wp2_with fail
    refine hf.mono ?_
    rintro e W7 ⟨hb7, ⟨VA, Vn, Vc, VE⟩, rfl, hvs, hvo⟩
    have hb07 := bel_next hb06 hb7
    have hse := sameE_any ⟨YA, Yn, Yc, YE⟩ ⟨VA, Vn, Vc, VE⟩ W7.heap.size W7 (HY6.out.next hb7) hvo.lie (Nat.le_refl _)
    have HEq2 : Hid (EsT.s ⟨YA, Yn, Yc, YE⟩ = EsT.s ⟨VA, Vn, Vc, VE⟩) := Lib.hid (HYS.out.trans hvs.symm)
    clear hf hvs hvo hb06 hb7
    go_wp2_with fail
    refine hse.mono ?_
    rintro e W8 ⟨z, rfl, hz, hb8⟩
    have hzt : z = true := hz.2 HEq2.out
    subst hzt
    have hb08 := bel_next hb07 hb8
    clear hse hz hb07 hb8
    go_wp2
    go_ret
    exact ⟨rfl, hb08⟩
end Go.Proofs.Ytkbcgcokokddlaa
