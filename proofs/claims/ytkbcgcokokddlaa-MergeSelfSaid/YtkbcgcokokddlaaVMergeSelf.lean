import Derived.Test.YtkbcgcokokddlaaVMerAH
/-
  The law MergeSelf, walked.
-/
namespace Go.Proofs.Ytkbcgcokokddlaa
open Go.RowKit
set_option linter.unusedVariables false
set_option linter.unusedSimpArgs false

theorem doneR_twice {l : List ItS} (hl : IncI l) {es : List EdS} (hes : Inc es) : doneR (doneR l es) es = doneR l es := by
  rw [← doneR_append, ← doneR_sortE hl (es ++ es), sortE_twice hes]
/-- Two cells' kinds beside it: the box of an edit. -/
theorem edit_box {W : World} {g : Nat} {y : EdT} (h : W.heap[g]? = some (.cells #[.slice y.k.A y.k.n y.k.c, .bool y.put, .slice y.v.A y.v.n y.v.c, .bool y.b, .int .i64 y.n] 49 (0, 0))) : W.cell? ⟨g, 0, none⟩ = some (.slice y.k.A y.k.n y.k.c) ∧ W.cell? ⟨g, 1, none⟩ = some (.bool y.put) ∧ W.cell? ⟨g, 2, none⟩ = some (.slice y.v.A y.v.n y.v.c) ∧ W.cell? ⟨g, 3, none⟩ = some (.bool y.b) ∧ W.cell? ⟨g, 4, none⟩ = some (.int .i64 y.n) := (five_blk h).1
set_option maxRecDepth 20000 in
set_option maxHeartbeats 4000000 in
theorem mergeSelf_walk (w : World) (X : EsT) (hX : X.Lie w w.heap.size) (Y : EsT) (hY : Y.Lie w w.heap.size) :
    Calls Try.prog 9 #[.slice X.A X.n X.c, .slice Y.A Y.n Y.c] w fun e w' => e = .returned (.bool true) ∧ Below w.heap.size w w' := by
  have HX := Lib.hid hX
  have HY := Lib.hid hY
  clear hX hY
  go_enter Try.func9, Try.ntmps9
  go_wp2_with fail
  refine (mwakes_any _).mono ?_
  rintro e W1 ⟨rfl, hb01⟩
  have hf := mfew_any X 80 w.heap.size W1 (HX.out.later hb01) hb01.size (by decide)
  rw [show ((80 : Nat) : Int) = 80 from rfl] at hf
  obtain ⟨XS, hXS⟩ : ∃ l, (X.s.take 80).map fewS = l := ⟨_, rfl⟩
  have HXQ : Hid (XS.length ≤ 80) := Lib.hid (by rw [← hXS]; exact few_len X.s 80)
  rw [hXS] at hf
  clear hXS
  go_upto_region 3 with fail
  go_cut [5, 6] (fun p r wx => ∃ (gA : Option Addr) (gn gc : Nat) (code : Int), p = .slice gA gn gc ∧ r = .int .i64 code ∧ Hid (GotP (∀ x ∈ XS, mayS x = true) XS wx gA gn gc code) ∧ Below W1.heap.size W1 wx)
  case first =>
    go_wp2_with fail
    refine hf.mono ?_
    rintro e W2 ⟨hb2, ⟨FA, Fn, Fc, FE⟩, rfl, hfs, hfo⟩
    have hfl := hfo.lie
    have hfn : Fn ≤ 80 := by
      have h1 := hfl.slen
      rw [hfs] at h1
      have h2 := HXQ.out
      simp only at h1
      omega
    have hst := msort_any ⟨FA, Fn, Fc, FE⟩ W2.heap.size W2 hfl (Nat.le_refl _) (by show Fn ≤ 1048576; omega)
    rw [hfs] at hst
    have HB2 := Lib.hid hb2
    clear hf hb2 hfs hfo hfl hfn
    go_wp2_with fail
    refine hst.mono ?_
    rintro e W3 hh
    obtain ⟨hb3, gA, gn, gc, code, rfl, hg⟩ := hh.got
    have HG := Lib.hid hg
    have hb13 := bel_next HB2.out hb3
    clear hst hh hg hb3
    go_wp2_with fail
    go_meet
    case rel => exact ⟨_, _, _, _, rfl, rfl, HG, hb13⟩
  obtain ⟨lA, ln, lc, code, rfl, rfl, HG, hbx⟩ := hcut
  clear hf
  obtain ⟨W2, hWx⟩ : ∃ W, W = wc := ⟨_, rfl⟩
  rw [← hWx] at HG hbx ⊢
  clear hWx
  have hb02 := bel_next hb01 hbx

  clear hb01 hbx
  rcases HG.out with ⟨-, rfl, rfl⟩ | ⟨-, hlong, -⟩ | ⟨hp, -, rfl, lE, hFs, hFl⟩
  · clear HG
    go_wp2
    go_ret
    exact ⟨rfl, hb02⟩
  · exact absurd hlong (Nat.not_lt.2 (Nat.le_trans (len_sortE _) (Nat.le_trans HXQ.out (by decide))))
  obtain ⟨lS, hlS⟩ : ∃ l, sortE XS = l := ⟨_, rfl⟩
  have HlR : Hid (RightS lS) := Lib.hid (by rw [← hlS]; exact rightS_sort hp)
  have HlQ : Hid (lS.length ≤ 80) := Lib.hid (by rw [← hlS]; exact Nat.le_trans (len_sortE _) HXQ.out)
  rw [hlS] at hFs
  have Hls : Hid (EsT.s ⟨lA, ln, lc, lE⟩ = lS) := Lib.hid hFs
  have Hln : Hid (ln ≤ 80) := Lib.hid (by
    have h1 := hFl.slen
    rw [hFs] at h1
    have h2 := HlQ.out
    simp only at h1
    omega)
  have Hl2 : Hid (EsT.Lie W2 W2.heap.size ⟨lA, ln, lc, lE⟩) := Lib.hid hFl
  clear HG hp hFs hFl hlS
  -- Merge(nil, l, nil, l)
  have hbR := bel_alloc (Below.refl W2.heap.size W2) (.cells #[.slice none 0 0, .slice lA ln lc, .slice none 0 0, .slice lA ln lc] 22)
  have hsh : Shows (W2.alloc (.cells #[.slice none 0 0, .slice lA ln lc, .slice none 0 0, .slice lA ln lc] 22)) (W2.alloc (.cells #[.slice none 0 0, .slice lA ln lc, .slice none 0 0, .slice lA ln lc] 22)).heap.size 1 (some ⟨W2.heap.size, 0, none⟩) 4 ([(⟨none, 0, 0, []⟩ : EsT), ⟨lA, ln, lc, lE⟩, ⟨none, 0, 0, []⟩, ⟨lA, ln, lc, lE⟩].map EsT.val) :=
    ⟨rfl, fun _ => ⟨W2.heap.size, 0, rfl, by rw [World.size_alloc]; omega, fun j u hu => by rw [Nat.zero_add, cell_of_row _ _ j _ _ _ (heap_alloc_new W2 _), ← Array.getElem?_toList]; exact hu⟩⟩
  have hmg := mmerge_any (some ⟨W2.heap.size, 0, none⟩) 4 4 _ [(⟨none, 0, 0, []⟩ : EsT), ⟨lA, ln, lc, lE⟩, ⟨none, 0, 0, []⟩, ⟨lA, ln, lc, lE⟩] _ hsh (by
    intro V hV
    simp only [List.mem_cons, List.not_mem_nil, or_false] at hV
    rcases hV with rfl | rfl | rfl | rfl
    · exact (OwnE.none _ 0 W2.heap.size).lie hbR.size
    · exact Hl2.out.next hbR
    · exact (OwnE.none _ 0 W2.heap.size).lie hbR.size
    · exact Hl2.out.next hbR) (Nat.le_refl _) (by decide)
  have hls : [(⟨none, 0, 0, []⟩ : EsT), ⟨lA, ln, lc, lE⟩, ⟨none, 0, 0, []⟩, ⟨lA, ln, lc, lE⟩].map EsT.s = [[], lS, [], lS] := by
    show [_, _, _, _] = _
    rw [Hls.out]
    rfl
  rw [hls] at hmg
  have HPP : Hid (∀ s ∈ ([[], lS, [], lS] : List (List EdS)), RightS s) := Lib.hid (by
    intro s hs
    simp only [List.mem_cons, List.not_mem_nil, or_false] at hs
    rcases hs with rfl | rfl | rfl | rfl
    · exact ⟨nofun, .nil⟩
    · exact HlR.out
    · exact ⟨nofun, .nil⟩
    · exact HlR.out)
  have HSM : Hid (sortE ([[], lS, [], lS] : List (List EdS)).flatten = lS) := Lib.hid (by
    show sortE ([] ++ (lS ++ ([] ++ (lS ++ [])))) = lS
    rw [List.append_nil, List.nil_append, List.nil_append]
    exact sortE_twice HlR.out.2)
  clear hsh hls
  go_upto_region 6 with fail
  go_cut [6, 7] (fun r p wx => ∃ (mA : Option Addr) (mn mc : Nat) (ME : List EdT), p = .slice mA mn mc ∧ r = .int .i64 0 ∧ Hid (EsT.s ⟨mA, mn, mc, ME⟩ = lS) ∧ Hid (EsT.Lie wx wx.heap.size ⟨mA, mn, mc, ME⟩) ∧ Below W2.heap.size W2 wx)
  case first =>
    have HBR := Lib.hid hbR
    clear hbR
    go_wp2_with fail
    generalize W2.alloc (.cells #[.slice none 0 0, .slice lA ln lc, .slice none 0 0, .slice lA ln lc] 22) = w1 at *
    refine hmg.mono ?_
    rintro e W8 hh
    obtain ⟨hb8, gA2, gn2, gc2, code, rfl, ⟨hno, -⟩ | ⟨-, hlong, -⟩ | ⟨-, -, rfl, E2, hs2, hl2⟩⟩ := hh.got
    · exact absurd HPP.out hno
    · rw [HSM.out] at hlong
      exact absurd hlong (Nat.not_lt.2 (Nat.le_trans HlQ.out (by decide)))
    have Hs2 := Lib.hid (hs2.trans HSM.out)
    have HL2 := Lib.hid hl2
    have hb28 := bel_next HBR.out hb8
    clear hmg hh hs2 hl2 hb8
    go_wp2_with fail
    go_meet
    case rel => exact ⟨_, _, _, _, rfl, rfl, Hs2, HL2, hb28⟩
  obtain ⟨mA, mn, mc, ME, rfl, rfl, HMs, HMl, hbx⟩ := hcut
  clear hmg hbR
  obtain ⟨W3, hWx⟩ : ∃ W, W = wc := ⟨_, rfl⟩
  rw [← hWx] at HMl hbx ⊢
  clear hWx
  have hb03 := bel_next hb02 hbx
  have Hl3 := Lib.hid (Hl2.out.next hbx)
  have hse := sameE_any ⟨mA, mn, mc, ME⟩ ⟨lA, ln, lc, lE⟩ W3.heap.size W3 HMl.out Hl3.out (Nat.le_refl _)
  have HEq : Hid (EsT.s ⟨mA, mn, mc, ME⟩ = EsT.s ⟨lA, ln, lc, lE⟩) := Lib.hid (HMs.out.trans Hls.out.symm)
  clear hb02 hbx Hl2
  go_wp2_with fail
  refine hse.mono ?_
  rintro e W4 ⟨z, rfl, hz, hbx⟩
  have hzt : z = true := hz.2 HEq.out
  subst hzt
  have hb04 := bel_next hb03 hbx
  have Hl4 := Lib.hid (Hl3.out.next hbx)
  clear hse hz hb03 hbx HMl HMs HEq HPP HSM
  have hf := mfew_any Y 80 w.heap.size W4 (HY.out.later hb04) hb04.size (by decide)
  rw [show ((80 : Nat) : Int) = 80 from rfl] at hf
  obtain ⟨YS, hYS⟩ : ∃ l, (Y.s.take 80).map fewS = l := ⟨_, rfl⟩
  have HYQ : Hid (YS.length ≤ 80) := Lib.hid (by rw [← hYS]; exact few_len Y.s 80)
  rw [hYS] at hf
  clear hYS
  go_upto_region 9 with fail
  go_cut [8, 9] (fun p r wx => ∃ (gA : Option Addr) (gn gc : Nat) (code : Int), p = .slice gA gn gc ∧ r = .int .i64 code ∧ Hid (GotP (∀ x ∈ YS, mayS x = true) YS wx gA gn gc code) ∧ Below W4.heap.size W4 wx)
  case first =>
    go_wp2_with fail
    refine hf.mono ?_
    rintro e W2 ⟨hb2, ⟨FA, Fn, Fc, FE⟩, rfl, hfs, hfo⟩
    have hfl := hfo.lie
    have hfn : Fn ≤ 80 := by
      have h1 := hfl.slen
      rw [hfs] at h1
      have h2 := HYQ.out
      simp only at h1
      omega
    have hst := msort_any ⟨FA, Fn, Fc, FE⟩ W2.heap.size W2 hfl (Nat.le_refl _) (by show Fn ≤ 1048576; omega)
    rw [hfs] at hst
    have HB2 := Lib.hid hb2
    clear hf hb2 hfs hfo hfl hfn
    go_wp2_with fail
    refine hst.mono ?_
    rintro e W3 hh
    obtain ⟨hb3, gA, gn, gc, code, rfl, hg⟩ := hh.got
    have HG := Lib.hid hg
    have hb13 := bel_next HB2.out hb3
    clear hst hh hg hb3
    go_wp2_with fail
    go_meet
    case rel => exact ⟨_, _, _, _, rfl, rfl, HG, hb13⟩
  obtain ⟨fA, fn, fc, code, rfl, rfl, HG, hbx⟩ := hcut
  clear hf
  obtain ⟨W5, hWx⟩ : ∃ W, W = wc := ⟨_, rfl⟩
  rw [← hWx] at HG hbx ⊢
  clear hWx
  have hb05 := bel_next hb04 hbx
  have Hl5 := Lib.hid (Hl4.out.next hbx)
  clear hb04 hbx
  rcases HG.out with ⟨-, rfl, rfl⟩ | ⟨-, hlong, -⟩ | ⟨hp, -, rfl, fE, hFs, hFl⟩
  · clear HG
    go_wp2
    go_ret
    exact ⟨rfl, hb05⟩
  · exact absurd hlong (Nat.not_lt.2 (Nat.le_trans (len_sortE _) (Nat.le_trans HYQ.out (by decide))))
  obtain ⟨fS, hfS⟩ : ∃ l, sortE YS = l := ⟨_, rfl⟩
  have HfR : Hid (RightS fS) := Lib.hid (by rw [← hfS]; exact rightS_sort hp)
  have HfQ : Hid (fS.length ≤ 80) := Lib.hid (by rw [← hfS]; exact Nat.le_trans (len_sortE _) HYQ.out)
  rw [hfS] at hFs
  have Hfs : Hid (EsT.s ⟨fA, fn, fc, fE⟩ = fS) := Lib.hid hFs
  have Hfn : Hid (fn ≤ 80) := Lib.hid (by
    have h1 := hFl.slen
    rw [hFs] at h1
    have h2 := HfQ.out
    simp only at h1
    omega)
  have Hf5 : Hid (EsT.Lie W5 W5.heap.size ⟨fA, fn, fc, fE⟩) := Lib.hid hFl
  clear HG hp hFs hFl hfS
  have HnS : Hid (IsT.s ⟨none, 0, 0, []⟩ = []) := Lib.hid rfl
  have HnI : Hid (IncI []) := Lib.hid .nil
  have hdn := mdone_any ⟨none, 0, 0, []⟩ ⟨fA, fn, fc, fE⟩ W5.heap.size W5 (itLie_none W5) Hf5.out (Nat.le_refl _) (by decide) (by show fn ≤ 1048576; have := Hfn.out; omega)
  rw [HnS.out, Hfs.out] at hdn
  go_upto_region 12 with fail
  go_cut [6, 10] (fun r p wx => ∃ (A : Option Addr) (n c : Nat) (E : List ItT), p = .slice A n c ∧ r = .int .i64 0 ∧ Hid (IsT.s ⟨A, n, c, E⟩ = doneR [] fS) ∧ Hid (IsT.Lie wx wx.heap.size ⟨A, n, c, E⟩) ∧ Below W5.heap.size W5 wx)
  case first =>
    go_wp2_with fail
    refine hdn.mono ?_
    rintro e W4 hh
    obtain ⟨hb4, A, n, c, E, rfl, hs, hl⟩ := hh.got HfR.out HnI.out
    have Hs := Lib.hid hs
    have Hl := Lib.hid hl
    clear hdn hh hs hl
    go_wp2_with fail
    go_meet
    case rel => exact ⟨_, _, _, _, rfl, rfl, Hs, Hl, hb4⟩
  obtain ⟨uA, un, uc, uE, rfl, rfl, Hus, Hu6, hbx⟩ := hcut
  clear hdn
  obtain ⟨W6, hWx⟩ : ∃ W, W = wc := ⟨_, rfl⟩
  rw [← hWx] at Hu6 hbx ⊢
  clear hWx
  have hb06 := bel_next hb05 hbx
  have Hl6 := Lib.hid (Hl5.out.next hbx)
  clear hb05 hbx
  obtain ⟨uS, huS⟩ : ∃ l, doneR [] fS = l := ⟨_, rfl⟩
  have HuD := Lib.hid huS
  rw [huS] at Hus
  have HuI : Hid (IncI uS) := Lib.hid (by rw [← huS]; exact incI_doneR _ _ HnI.out)
  have Hun : Hid (un ≤ 80) := Lib.hid (by
    have h1 := Hu6.out.slen
    rw [Hus.out, ← huS] at h1
    have h2 := len_doneR fS []
    have h3 := HfQ.out
    have h4 : ([] : List ItS).length = 0 := rfl
    simp only at h1
    omega)
  have HuQ : Hid (uS.length ≤ 80) := Lib.hid (by
    have h2 := len_doneR fS []
    have h3 := HfQ.out
    have h4 : ([] : List ItS).length = 0 := rfl
    rw [huS] at h2
    omega)
  clear huS
  have hdn := mdone_any ⟨uA, un, uc, uE⟩ ⟨lA, ln, lc, lE⟩ W6.heap.size W6 Hu6.out Hl6.out (Nat.le_refl _) (by show un ≤ 1048576; have := Hun.out; omega) (by show ln ≤ 1048576; have := Hln.out; omega)
  rw [Hus.out, Hls.out] at hdn
  go_upto_region 13 with fail
  go_cut [9, 11] (fun r p wx => ∃ (A : Option Addr) (n c : Nat) (E : List ItT), p = .slice A n c ∧ r = .int .i64 0 ∧ Hid (IsT.s ⟨A, n, c, E⟩ = doneR uS lS) ∧ Hid (IsT.Lie wx wx.heap.size ⟨A, n, c, E⟩) ∧ Below W6.heap.size W6 wx)
  case first =>
    go_wp2_with fail
    refine hdn.mono ?_
    rintro e W4 hh
    obtain ⟨hb4, A, n, c, E, rfl, hs, hl⟩ := hh.got HlR.out HuI.out
    have Hs := Lib.hid hs
    have Hl := Lib.hid hl
    clear hdn hh hs hl
    go_wp2_with fail
    go_meet
    case rel => exact ⟨_, _, _, _, rfl, rfl, Hs, Hl, hb4⟩
  obtain ⟨kA, kn, kc, kE, rfl, rfl, Hks, Hk7, hbx⟩ := hcut
  clear hdn
  obtain ⟨W7, hWx⟩ : ∃ W, W = wc := ⟨_, rfl⟩
  rw [← hWx] at Hk7 hbx ⊢
  clear hWx
  have hb07 := bel_next hb06 hbx
  have Hl7 := Lib.hid (Hl6.out.next hbx)
  clear hb06 hbx
  obtain ⟨kS, hkS⟩ : ∃ l, doneR uS lS = l := ⟨_, rfl⟩
  have HkD := Lib.hid hkS
  rw [hkS] at Hks
  have HkI : Hid (IncI kS) := Lib.hid (by rw [← hkS]; exact incI_doneR _ _ HuI.out)
  have Hkn : Hid (kn ≤ 160) := Lib.hid (by
    have h1 := Hk7.out.slen
    rw [Hks.out, ← hkS] at h1
    have h2 := len_doneR lS uS
    have h3 := HlQ.out
    have h4 := HuQ.out
    simp only at h1
    omega)
  have HkQ : Hid (kS.length ≤ 160) := Lib.hid (by
    have h2 := len_doneR lS uS
    have h3 := HlQ.out
    have h4 := HuQ.out
    rw [hkS] at h2
    omega)
  clear hkS
  have hdn := mdone_any ⟨kA, kn, kc, kE⟩ ⟨lA, ln, lc, lE⟩ W7.heap.size W7 Hk7.out Hl7.out (Nat.le_refl _) (by show kn ≤ 1048576; have := Hkn.out; omega) (by show ln ≤ 1048576; have := Hln.out; omega)
  rw [Hks.out, Hls.out] at hdn
  go_upto_region 14 with fail
  go_cut [12, 13] (fun p r wx => ∃ (A : Option Addr) (n c : Nat) (E : List ItT), p = .slice A n c ∧ r = .int .i64 0 ∧ Hid (IsT.s ⟨A, n, c, E⟩ = doneR kS lS) ∧ Hid (IsT.Lie wx wx.heap.size ⟨A, n, c, E⟩) ∧ Below W7.heap.size W7 wx)
  case first =>
    go_wp2_with fail
    refine hdn.mono ?_
    rintro e W4 hh
    obtain ⟨hb4, A, n, c, E, rfl, hs, hl⟩ := hh.got HlR.out HkI.out
    have Hs := Lib.hid hs
    have Hl := Lib.hid hl
    clear hdn hh hs hl
    go_wp2_with fail
    go_meet
    case rel => exact ⟨_, _, _, _, rfl, rfl, Hs, Hl, hb4⟩
  obtain ⟨gA, gn, gc, gE, rfl, rfl, Hgs, Hg8, hbx⟩ := hcut
  clear hdn
  obtain ⟨W8, hWx⟩ : ∃ W, W = wc := ⟨_, rfl⟩
  rw [← hWx] at Hg8 hbx ⊢
  clear hWx
  have hb08 := bel_next hb07 hbx
  have Hl8w := Lib.hid (Hl7.out.next hbx)
  have Hk8w := Lib.hid (Hk7.out.next hbx)
  clear hb07 hbx
  obtain ⟨gS, hgS⟩ : ∃ l, doneR kS lS = l := ⟨_, rfl⟩
  have HgD := Lib.hid hgS
  rw [hgS] at Hgs
  have HgI : Hid (IncI gS) := Lib.hid (by rw [← hgS]; exact incI_doneR _ _ HkI.out)
  have Hgn : Hid (gn ≤ 240) := Lib.hid (by
    have h1 := Hg8.out.slen
    rw [Hgs.out, ← hgS] at h1
    have h2 := len_doneR lS kS
    have h3 := HlQ.out
    have h4 := HkQ.out
    simp only at h1
    omega)
  have HgQ : Hid (gS.length ≤ 240) := Lib.hid (by
    have h2 := len_doneR lS kS
    have h3 := HlQ.out
    have h4 := HkQ.out
    rw [hgS] at h2
    omega)
  clear hgS
  have hse := sameI_any ⟨kA, kn, kc, kE⟩ ⟨gA, gn, gc, gE⟩ W8.heap.size W8 Hk8w.out Hg8.out (Nat.le_refl _)
  have HEq : Hid (IsT.s ⟨kA, kn, kc, kE⟩ = IsT.s ⟨gA, gn, gc, gE⟩) := Lib.hid (by
    rw [Hks.out, Hgs.out, ← HgD.out, ← HkD.out]
    exact (doneR_twice HuI.out HlR.out.2).symm)
  go_wp2_with fail
  refine hse.mono ?_
  rintro e W9 ⟨z, rfl, hz, hbx⟩
  have hzt : z = true := hz.2 HEq.out
  subst hzt
  have hb09 := bel_next hb08 hbx
  have Hl9 := Lib.hid (Hl8w.out.next hbx)
  have Hk9 := Lib.hid (Hk8w.out.next hbx)
  have hln := Hln.out
  have HkLen : Hid (kE.length = kn) := Lib.hid Hk9.out.len
  clear hse hz hb08 hbx Hl8w Hk8w Hg8 Hgs HgD HgI Hgn HgQ HEq
  go_wp2_with fail
  go_loopw [89] (fun s wr => ∃ i : Nat, s = .int .i64 i ∧ i ≤ ln ∧ Hid (Below W9.heap.size W9 wr)) (fun s _ => ln - (intOf s).toNat)
  case atStart => exact ⟨0, rfl, Nat.zero_le _, Lib.hid (Below.refl _ _)⟩
  case round =>
    obtain ⟨i, rfl, hi, HBr⟩ := hrel
    by_cases hin : i < ln
    · obtain ⟨b, off, y, hA, hbb, hy, y0, y1, y2, y3, y4⟩ := ed_at (Hl9.out.later HBr.out).row (i := i) hin
      simp only at hA hy
      have HYo := Lib.hid ((Hl9.out.later HBr.out).all y (List.mem_of_getElem? hy))
      have HYS : Hid (y.s ∈ lS) := Lib.hid (by rw [← Hls.out]; exact List.mem_map_of_mem (List.mem_of_getElem? hy))
      have hbn : b ≠ wr.heap.size := by have := HBr.out.size; omega
      have hbl : b < wr.heap.size := by have := HBr.out.size; omega
      have hin' : (i : Int) < (ln : Int) := by omega
      have w3 : wrap64 ((i : Int) + 1) = ((i + 1 : Nat) : Int) := by unfold wrap64; omega
      have HIN := Lib.hid hin
      subst hA
      clear hbb hy hi hin
      go_upto_region 19 with fail
      go_cut [15] (fun p wx => ∃ g : Nat, p = .pointer (some ⟨g, 0, none⟩) ∧ Hid (wx.heap[g]? = some (.cells #[.slice y.k.A y.k.n y.k.c, .bool y.put, .slice y.v.A y.v.n y.v.c, .bool y.b, .int .i64 y.n] 49 (0, 0))) ∧ Hid (Below wr.heap.size wr wx))
      case first =>
        go_wp2_with fail
        go_meet
        case rel => exact ⟨wr.heap.size, rfl, Lib.hid (heap_alloc_new wr _), Lib.hid (bel_alloc (Below.refl _ wr) _)⟩
      case rest =>
        obtain ⟨g, rfl, HGX, HBX⟩ := hcut
        obtain ⟨W11, hWx⟩ : ∃ W, W = wc := ⟨_, rfl⟩
        rw [← hWx] at HGX HBX ⊢
        clear hWx y0 y1 y2 y3 y4 hbn hbl
        obtain ⟨z0, z1, z2, z3, z4⟩ := edit_box HGX.out
        have hgb : g < W11.heap.size := (Array.getElem?_eq_some_iff.1 HGX.out).1
        have HB9 := Lib.hid (HBr.out.trans (HBX.out.mono HBr.out.size))
        have HYo2 := Lib.hid (HYo.out.later (HBX.out.mono HBr.out.size))
        have hidx := idxI_any ⟨kA, kn, kc, kE⟩ y.k g W9.heap.size W11 (Hk9.out.later HB9.out) HYo2.out.key HB9.out.size hgb z0
        rw [Hks.out] at hidx
        have HGB := Lib.hid hgb
        have HZ1 := Lib.hid z1
        have HZ2 := Lib.hid z2
        have HZ3 := Lib.hid z3
        have HZ4 := Lib.hid z4
        clear z0 z1 z2 z3 z4 hgb
        go_wp2_with fail
        refine hidx.mono ?_
        rintro e W12 ⟨hbx, ⟨rfl, hno⟩ | ⟨j, rfl, x, hx, hxk⟩⟩
        · have hput : y.put = false := by
            cases hp : y.put
            · rfl
            · have h := doneR_put (l := uS) HlR.out.2 HYS.out hp
              rw [HkD.out] at h
              exact absurd rfl (hno _ h)
          have c1 := cellB hbx (p := ⟨g, 1, none⟩) HGB.out HZ1.out
          rw [hput] at c1
          have HB12 := Lib.hid (HB9.out.trans (hbx.mono HB9.out.size))
          clear hno hput hidx hbx
          go_upto_region 21 with fail
          go_cut [135] (fun s wx => s = .bool false ∧ Hid (Below W9.heap.size W9 wx))
          case first =>
            go_quiet (fail)
            go_wp2_with fail
            go_meet
            case rel => exact ⟨rfl, Lib.hid (HB12.out.trans ((below_drewN (Below.refl _ _) _).mono HB12.out.size))⟩
          case rest =>
            obtain ⟨rfl, HBE⟩ := hcut
            clear c1
            go_wp2_with fail
            go_roundw
            case rel => exact ⟨i + 1, by first | rfl | go_num, HIN.out, HBE⟩
            case measure =>
              have h := HIN.out
              show ln - ((i : Int) + 1).toNat < ln - ((i : Nat) : Int).toNat
              rw [show ((i : Int) + 1).toNat = i + 1 from by rw [← Int.toNat_natCast (i + 1)]; rfl, Int.toNat_natCast]
              exact Nat.sub_lt_sub_left h (Nat.lt_succ_self i)
        · have hkx : x ∈ doneR uS lS := by rw [HkD.out]; exact List.mem_of_getElem? hx
          obtain ⟨hput, hxe⟩ := doneR_key HlR.out.2 HYS.out x hkx hxk
          have hjn : j < kn := by
            have h1 := (List.getElem?_eq_some_iff.1 hx).1
            rw [← Hks.out] at h1
            have h2 := HkLen.out
            have h3 : (IsT.s ⟨kA, kn, kc, kE⟩).length = kE.length := by unfold IsT.s; rw [List.length_map]
            omega
          have HB12 := Lib.hid (HB9.out.trans (hbx.mono HB9.out.size))
          obtain ⟨b2, off2, xt, hA2, hbb2, hxt, c0, cv, cb, cn⟩ := it_at (Hk9.out.later HB12.out).row (i := j) hjn
          simp only at hA2 hxt
          have hxs : xt.s = itemE y.s := by
            rw [← hxe]
            have h1 : kS[j]? = some xt.s := by rw [← Hks.out]; show (kE.map ItT.s)[j]? = _; rw [List.getElem?_map, hxt]; rfl
            rw [hx] at h1
            exact (Option.some.inj h1).symm
          have hev : xt.v.l = y.v.l := congrArg ItS.v hxs
          have heb : xt.b = y.b := congrArg ItS.b hxs
          have hen : xt.n = y.n := congrArg ItS.n hxs
          have hxo := (Hk9.out.later HB12.out).all xt (List.mem_of_getElem? hxt)
          have hyo := HYo2.out.later (hbx.mono HB9.out.size)
          have c1 := cellB hbx (p := ⟨g, 1, none⟩) HGB.out HZ1.out
          have c2 := cellB hbx (p := ⟨g, 2, none⟩) HGB.out HZ2.out
          have c3 := cellB hbx (p := ⟨g, 3, none⟩) HGB.out HZ3.out
          have c4 := cellB hbx (p := ⟨g, 4, none⟩) HGB.out HZ4.out
          rw [show y.put = true from hput] at c1
          rw [heb] at cb
          rw [hen] at cn
          have heq := fun (m : Nat) => equal_any xt.v.A y.v.A xt.v.n xt.v.c y.v.n y.v.c xt.v.l y.v.l W9.heap.size W9.heap.size (W12.drewN m) (hxo.val.here.below (below_drewN (Below.refl _ W12) m)) (hyo.val.here.below (below_drewN (Below.refl _ W12) m)) (Nat.le_trans hxo.val.fits hxo.val.most) (Nat.le_trans hyo.val.fits hyo.val.most)
          rw [show sameB xt.v.l y.v.l = true by unfold sameB; exact decide_eq_true hev] at heq
          have hj0 : (0 : Int) ≤ (j : Int) := by omega
          have hjn' : (j : Int) < (kn : Int) := by omega
          subst hA2
          clear hkx hput hxe hjn hbb2 hxt hxs hev heb hen hxo hyo hx hxk hidx hbx c0
          go_upto_region 21 with fail
          go_cut [135] (fun s wx => s = .bool false ∧ Hid (Below W9.heap.size W9 wx))
          case first =>
            go_quiet ((go_at_call 30; exact Calls.quiet_of (heq _)))
            go_wp2_with fail
            go_meet
            case rel => exact ⟨rfl, Lib.hid (HB12.out.trans ((below_drewN (Below.refl _ _) _).mono HB12.out.size))⟩
          case rest =>
            obtain ⟨rfl, HBE⟩ := hcut
            clear c1 c2 c3 c4 cv cb cn heq hj0 hjn'
            go_wp2_with fail
            go_roundw
            case rel => exact ⟨i + 1, by first | rfl | go_num, HIN.out, HBE⟩
            case measure =>
              have h := HIN.out
              show ln - ((i : Int) + 1).toNat < ln - ((i : Nat) : Int).toNat
              rw [show ((i : Int) + 1).toNat = i + 1 from by rw [← Int.toNat_natCast (i + 1)]; rfl, Int.toNat_natCast]
              exact Nat.sub_lt_sub_left h (Nat.lt_succ_self i)
    · have hiq : i = ln := by omega
      have hin' : ¬ (i : Int) < (ln : Int) := by omega
      have hb0r := bel_next hb09 HBr.out
      clear hi hin
      subst hiq
      go_wp2
      go_ret
      exact ⟨rfl, hb0r⟩
end Go.Proofs.Ytkbcgcokokddlaa
