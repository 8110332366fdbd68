import Derived.Test.YtkbcgcokokddlaaVMergeSorts
/-
  The law MergeDoes, walked.
-/
namespace Go.Proofs.Ytkbcgcokokddlaa
open Go.RowKit
set_option linter.unusedVariables false
set_option linter.unusedSimpArgs false

theorem IsT.Lie.slen {w : World} {B : Nat} {X : IsT} (h : X.Lie w B) : X.s.length = X.n := by
  unfold IsT.s
  rw [List.length_map, h.len]
theorem items_len (l : List EdS) : (itemsS l).length ≤ l.length := by
  unfold itemsS
  rw [List.length_map]
  exact List.length_filter_le _ _
set_option maxRecDepth 20000 in
set_option maxHeartbeats 2000000 in
theorem mergeDoes_walk (w : World) (X : EsT) (hX : X.Lie w w.heap.size) (Y : EsT) (hY : Y.Lie w w.heap.size) :
    Calls Try.prog 6 #[.slice X.A X.n X.c, .slice Y.A Y.n Y.c] w fun e w' => e = .returned (.bool true) ∧ Below w.heap.size w w' := by
  have HX := Lib.hid hX
  have HY := Lib.hid hY
  clear hX hY
  go_enter Try.func6, Try.ntmps6
  go_wp2_with fail
  refine (mwakes_any _).mono ?_
  rintro e W1 ⟨rfl, hb1⟩
  have hf := mfew_any X 60 w.heap.size W1 (HX.out.later hb1) hb1.size (by decide)
  rw [show ((60 : Nat) : Int) = 60 from rfl] at hf
  go_wp2_with fail
  refine hf.mono ?_
  rintro e W2 ⟨hb2, ⟨FA, Fn, Fc, FE⟩, rfl, hfs, hfo⟩
  have hb02 := bel_next hb1 hb2
  have hfl := hfo.lie
  have hfn : Fn ≤ 60 := by
    have h1 := hfl.slen
    rw [hfs] at h1
    have h2 := few_len X.s 60
    simp only at h1
    omega
  have hit := mitems_any ⟨FA, Fn, Fc, FE⟩ W2.heap.size W2 hfl (Nat.le_refl _) (by show Fn ≤ 1048576; omega)
  rw [hfs] at hit
  clear hf hfo hb1 hb2
  go_wp2_with fail
  refine hit.mono ?_
  rintro e W3 ⟨hb3, ⟨IA, In, Ic, IE⟩, rfl, his, hil⟩
  have hb03 := bel_next hb02 hb3
  have hin : In ≤ 60 := by
    have h1 := hil.slen
    rw [his] at h1
    have h2 := items_len ((X.s.take 60).map fewS)
    have h3 := few_len X.s 60
    simp only at h1
    omega
  have hg := mfew_any Y 60 w.heap.size W3 (HY.out.later hb03) hb03.size (by decide)
  rw [show ((60 : Nat) : Int) = 60 from rfl] at hg
  have HIN := Lib.hid hin
  have HIS := Lib.hid his
  have HIL := Lib.hid hil
  clear hit hfl hfs hfn his hil hin hb02 hb3
  go_wp2_with fail
  refine hg.mono ?_
  rintro e W4 ⟨hb4, ⟨GA, Gn, Gc, GE⟩, rfl, hgs, hgo⟩
  have hb04 := bel_next hb03 hb4
  have hgl := hgo.lie
  have hgn : Gn ≤ 60 := by
    have h1 := hgl.slen
    rw [hgs] at h1
    have h2 := few_len Y.s 60
    simp only at h1
    omega
  have HI4 := Lib.hid (HIL.out.next hb4)
  have hdn := mdone_any ⟨IA, In, Ic, IE⟩ ⟨GA, Gn, Gc, GE⟩ W4.heap.size W4 HI4.out hgl (Nat.le_refl _) (by show In ≤ 1048576; have := HIN.out; omega) (by show Gn ≤ 1048576; omega)
  obtain ⟨S, hS⟩ : ∃ S, IsT.s ⟨IA, In, Ic, IE⟩ = S := ⟨_, rfl⟩
  obtain ⟨T, hT⟩ : ∃ T, EsT.s ⟨GA, Gn, Gc, GE⟩ = T := ⟨_, rfl⟩
  rw [hS, hT] at hdn
  have HS := Lib.hid hS
  have HT := Lib.hid hT
  have HGN := Lib.hid hgn
  have HG4 := Lib.hid hgl
  clear hg hgs hgo hgl hgn hS hT hb03 hb4 HIL
  go_wp2_with fail
  refine hdn.mono ?_
  rintro e W5 ⟨hb5, hh⟩
  have hb05 := bel_next hb04 hb5
  have HG5 := Lib.hid (HG4.out.next hb5)
  have HI5 := Lib.hid (HI4.out.next hb5)
  have hri := rright_any ⟨GA, Gn, Gc, GE⟩ W5.heap.size W5 HG5.out (Nat.le_refl _)
  rw [HT.out] at hri
  clear hdn hb04 hb5 HG4 HI4
  rcases hh with ⟨hno, rfl⟩ | ⟨⟨hok1, hok2⟩, ⟨ZA, Zn, Zc, ZE⟩, rfl, hZs, hZl⟩
  · have HNo := Lib.hid hno
    clear hno
    go_wp2_with fail
    refine hri.mono ?_
    rintro e W6 ⟨z, rfl, hz, hb6⟩
    have hb06 := bel_next hb05 hb6
    have HZ := Lib.hid hz
    have hrs := rrise_any ⟨IA, In, Ic, IE⟩ W6.heap.size W6 (HI5.out.next hb6) (Nat.le_refl _)
    rw [HS.out] at hrs
    clear hri hz hb05 hb6
    cases z
    · clear hrs
      go_wp2
      go_ret
      exact ⟨rfl, hb06⟩
    · go_wp2_with fail
      refine hrs.mono ?_
      rintro e W7 ⟨z, rfl, hz, hb7⟩
      have hb07 := bel_next hb06 hb7
      have hzf : z = false := by
        cases z
        · rfl
        · exact absurd ⟨HZ.out.1 (by first | trivial | rfl), hz.1 rfl⟩ HNo.out
      subst hzf
      clear hrs hz hb06 hb7
      go_wp2
      go_ret
      exact ⟨rfl, hb07⟩
  · have HZs := Lib.hid hZs
    have HZl := Lib.hid hZl
    have HOk1 := Lib.hid hok1
    have HOk2 := Lib.hid hok2
    clear hZs hZl hok1 hok2
    go_wp2_with fail
    refine hri.mono ?_
    rintro e W6 ⟨z, rfl, hz, hb6⟩
    have hzt : z = true := hz.2 HOk1.out
    subst hzt
    have hb06 := bel_next hb05 hb6
    have HI6 := Lib.hid (HI5.out.next hb6)
    have HG6 := Lib.hid (HG5.out.next hb6)
    have HZ6 := Lib.hid (HZl.out.next hb6)
    have hrs := rrise_any ⟨IA, In, Ic, IE⟩ W6.heap.size W6 HI6.out (Nat.le_refl _)
    rw [HS.out] at hrs
    clear hri hz hb05 hb6 HI5 HG5 HZl
    go_wp2_with fail
    refine hrs.mono ?_
    rintro e W7 ⟨z, rfl, hz, hb7⟩
    have hzt : z = true := hz.2 HOk2.out
    subst hzt
    have hb07 := bel_next hb06 hb7
    have HI7 := Lib.hid (HI6.out.next hb7)
    have HG7 := Lib.hid (HG6.out.next hb7)
    have HZ7 := Lib.hid (HZ6.out.next hb7)
    have hrd := rdone_any ⟨IA, In, Ic, IE⟩ ⟨GA, Gn, Gc, GE⟩ W7.heap.size W7 HI7.out HG7.out (Nat.le_refl _) (by show In ≤ 1048576; have := HIN.out; omega) (by show Gn ≤ 1048576; have := HGN.out; omega)
    rw [HS.out, HT.out] at hrd
    clear hrs hz hb06 hb7 HI6 HG6 HZ6
    go_wp2_with fail
    refine hrd.mono ?_
    rintro e W8 ⟨hb8, ⟨RA, Rn, Rc, RE⟩, rfl, hRs, hRl⟩
    have hb08 := bel_next hb07 hb8
    have hse := sameI_any ⟨ZA, Zn, Zc, ZE⟩ ⟨RA, Rn, Rc, RE⟩ W8.heap.size W8 (HZ7.out.next hb8) hRl (Nat.le_refl _)
    have HEq : Hid (IsT.s ⟨ZA, Zn, Zc, ZE⟩ = IsT.s ⟨RA, Rn, Rc, RE⟩) := Lib.hid (HZs.out.trans hRs.symm)
    have HI8 := Lib.hid (HI7.out.next hb8)
    clear hrd hRs hRl hb07 hb8 HI7 HG7 HZ7
    go_wp2_with fail
    refine hse.mono ?_
    rintro e W9 ⟨z, rfl, hz, hb9⟩
    have hzt : z = true := hz.2 HEq.out
    subst hzt
    have hb09 := bel_next hb08 hb9
    have HI9 := Lib.hid (HI8.out.next hb9)
    have hf := mfew_any X 60 w.heap.size W9 (HX.out.later hb09) hb09.size (by decide)
    rw [show ((60 : Nat) : Int) = 60 from rfl] at hf
    clear hse hz hb08 hb9 HI8
    go_wp2_with fail
    refine hf.mono ?_
    rintro e W10 ⟨hb10, ⟨FA, Fn, Fc, FE⟩, rfl, hfs, hfo⟩
    have hb010 := bel_next hb09 hb10
    have HI10 := Lib.hid (HI9.out.next hb10)
    have hfl := hfo.lie
    have hfn : Fn ≤ 60 := by
      have h1 := hfl.slen
      rw [hfs] at h1
      have h2 := few_len X.s 60
      simp only at h1
      omega
    have hit := mitems_any ⟨FA, Fn, Fc, FE⟩ W10.heap.size W10 hfl (Nat.le_refl _) (by show Fn ≤ 1048576; omega)
    rw [hfs] at hit
    clear hf hfo hfl hfs hfn hb09 hb10 HI9
    go_wp2_with fail
    refine hit.mono ?_
    rintro e W11 ⟨hb11, ⟨VA, Vn, Vc, VE⟩, rfl, hvs, hvl⟩
    have hb011 := bel_next hb010 hb11
    have hse := sameI_any ⟨IA, In, Ic, IE⟩ ⟨VA, Vn, Vc, VE⟩ W11.heap.size W11 (HI10.out.next hb11) hvl (Nat.le_refl _)
    have HEq2 : Hid (IsT.s ⟨IA, In, Ic, IE⟩ = IsT.s ⟨VA, Vn, Vc, VE⟩) := Lib.hid (HIS.out.trans hvs.symm)
    clear hit hvs hvl hb010 hb11
    go_wp2_with fail
    refine hse.mono ?_
    rintro e W12 ⟨z, rfl, hz, hb12⟩
    have hzt : z = true := hz.2 HEq2.out
    subst hzt
    have hb012 := bel_next hb011 hb12
    clear hse hz hb011 hb12
    go_wp2
    go_ret
    exact ⟨rfl, hb012⟩
end Go.Proofs.Ytkbcgcokokddlaa
