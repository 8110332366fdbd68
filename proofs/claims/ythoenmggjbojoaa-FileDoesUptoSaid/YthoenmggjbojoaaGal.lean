import Derived.Test.YthoenmggjbojoaaGak
/-
  Layer 10: the reference's Asked.
-/
namespace Go.Proofs.Ythoenmggjbojoaa
open Go.RowKit
set_option linter.unusedVariables false

theorem lie_put {w w' : World} {B : Nat} {X : FileT} (hL : LieF w B X) (hb : Below w.heap.size w w') (hB : B ≤ w.heap.size) {fu fa : Int} {of : Bool} (h1 : (Lit.int .i64 fu).wf = true) (h2 : (Lit.int .i64 fa).wf = true) :
    LieF w' w'.heap.size ⟨X.F, X.lA, X.ln, X.lc, X.L, fu, fa, of⟩ := by
  have h := (hL.later (hb.mono hB)).more (Nat.le_trans hB hb.size)
  exact ⟨h.firm, h.row, h.loose, h.nil, h.fits, h.most, h1, h2⟩
theorem wf_down {n : Int} (h : (Lit.int .i64 n).wf = true) (h0 : 0 < n) : (Lit.int .i64 (n - 1)).wf = true := by
  have := wf_i64 h
  have e : (decide (IntKind.i64.min ≤ n - 1) && decide (n - 1 ≤ IntKind.i64.max)) = true := by
    rw [Bool.and_eq_true, decide_eq_true_iff, decide_eq_true_iff]
    have h1 : IntKind.i64.min = -9223372036854775808 := rfl
    have h2 : IntKind.i64.max = 9223372036854775807 := rfl
    omega
  exact e
set_option maxRecDepth 20000 in
set_option maxHeartbeats 4000000 in
theorem refAsked_any (X : FileT) (gr : Nat) (B : Nat) (w : World) (hg : gr ≤ 1048576) (hL : LieF w B X) (hB : B ≤ w.heap.size) (hr : X.right = true) :
    Calls Try.prog 51 #[X.agg, .int .i64 gr] w (OpP X (fun _ => True) (X.s.asked X.long gr) w) := by
  obtain ⟨hN, hl, -⟩ := right_rows hL hr
  have HLo := Lib.hid (fun W (h : Below w.heap.size w W) => refLong_any X B W (hL.later (h.mono hB)) (Nat.le_trans hB h.size) hN)
  simp only [FileT.agg, PcT.val] at HLo ⊢
  clear hN hr
  obtain ⟨out, hout⟩ : ∃ out, X.s.asked X.long gr = out := ⟨_, rfl⟩
  have Hout := Lib.hid hout
  rw [hout]
  clear hout
  cases hof : X.off
  · have hb := bel_alloc (bel_alloc (Below.refl w.heap.size w) (.cells #[.slice X.F.A X.F.n X.F.c, .slice X.lA X.ln X.lc, .int .i64 X.fuse, .int .i64 X.fault, .bool false] 25)) (.cells #[.slice none 0 0, .slice none 0 0, .int .i64 0, .int .i64 0, .bool false] 25)
    have HV := Lib.hid ((FVar.new w (.slice X.F.A X.F.n X.F.c) (.slice X.lA X.ln X.lc) (.int .i64 X.fuse) (.int .i64 X.fault) (.bool false) 25).lay (.cells #[.slice none 0 0, .slice none 0 0, .int .i64 0, .int .i64 0, .bool false] 25))
    have hR := FVar.new (w.alloc (.cells #[.slice X.F.A X.F.n X.F.c, .slice X.lA X.ln X.lc, .int .i64 X.fuse, .int .i64 X.fault, .bool false] 25)) (.slice none 0 0) (.slice none 0 0) (.int .i64 0) (.int .i64 0) (.bool false) 25
    rw [World.size_alloc] at hR
    have HR := Lib.hid hR
    clear hR
    rw [hof] at HLo
    have Hof := Lib.hid hof
    clear hof
    go_enter Try.func51, Try.ntmps51
    go_upto_region 1 with fail
    generalize (w.alloc (.cells #[.slice X.F.A X.F.n X.F.c, .slice X.lA X.ln X.lc, .int .i64 X.fuse, .int .i64 X.fault, .bool false] 25)).alloc (.cells #[.slice none 0 0, .slice none 0 0, .int .i64 0, .int .i64 0, .bool false] 25) = W1 at *
    obtain ⟨⟨f0, f1, f2, f3, f4⟩, k0, k1, k2, k3, k4⟩ := HV.out
    obtain ⟨⟨j0, j1, j2, j3, j4⟩, m0, m1, m2, m3, m4⟩ := HR.out
    go_wp2_with fail
    refine (HLo.out _ hb).mono ?_
    rintro e W2 ⟨rfl, hb2⟩
    clear f0 f1 f2 f3 f4 k0 k1 k2 k3 k4 j0 j1 j2 j3 j4 m0 m1 m2 m3 m4
    have HV := Lib.hid (HV.out.later hb2)
    have HR := Lib.hid (HR.out.later hb2)
    have hb := bel_next hb hb2
    clear hb2 HLo
    obtain ⟨⟨f0, f1, f2, f3, f4⟩, k0, k1, k2, k3, k4⟩ := HV.out
    obtain ⟨⟨j0, j1, j2, j3, j4⟩, m0, m1, m2, m3, m4⟩ := HR.out
    have e0 : IntKind.i64.wrap ((X.long : Int) + (gr : Int)) = ((X.long + gr : Nat) : Int) := by rw [IntKind.wrap_i64]; omega
    have e9 : wrap64 ((X.long : Int) + (gr : Int)) = ((X.long + gr : Nat) : Int) := by unfold wrap64; omega
    by_cases h2 : 524288 < X.long + gr
    · have HO := Lib.hid (Hout.out.symm.trans (asked_2 Hof.out h2))
      have h2' : ((524288 : Int) < ((X.long + gr : Nat) : Int)) = True := by simp; omega
      generalize X.long + gr = lg at *
      generalize X.long = lo at *
      clear h2 hg hl
      have hbe := fbelow_set5 (a := .slice X.F.A X.F.n X.F.c) (b := .slice X.lA X.ln X.lc) (c := .int .i64 X.fuse) (d := .int .i64 X.fault) (e := .bool false) hb (show w.heap.size ≤ w.heap.size + 1 by omega)
      have hLe := Lib.hid (lie_put hL hbe hB (fu := X.fuse) (fa := X.fault) (of := false) hL.fuse hL.fault)
      clear hb hL
      go_wp2
      (try rw [Exit.noGoto_ret])
      refine bodyPost_ret (v := .tuple #[.agg #[.slice X.F.A X.F.n X.F.c, .slice X.lA X.ln X.lc, .int .i64 X.fuse, .int .i64 X.fault, .bool false], .int .i64 8]) ?_ rfl ⟨⟨X.F, X.lA, X.ln, X.lc, X.L, X.fuse, X.fault, false⟩, by rw [HO.out]; rfl, by rw [HO.out]; (first | rfl | exact congrArg _ Hof.out.symm | (rw [Hof.out]; rfl)), hLe.out, hbe, fun _ _ h _ => ⟨h.firm, h.row, h.loose⟩⟩
      simp [results, Try.results51, go_sem, *]
    · have h2' : ((524288 : Int) < ((X.long + gr : Nat) : Int)) = False := by simp; omega
      by_cases h3 : X.fault = 0
      · have HO := Lib.hid (Hout.out.symm.trans (asked_3 Hof.out h2 h3))
        have h3' : (X.fault == 0) = true := beq_iff_eq.2 h3
        generalize X.long + gr = lg at *
        generalize X.long = lo at *
        clear h2 h3 hg hl
        go_upto_region 7 with fail
        clear f0 f1 f2 f3 f4 k0 k1 k2 k3 k4 j0 j1 j2 j3 j4 m0 m1 m2 m3 m4
        have HV := Lib.hid (HV.out.set3 (.int .i64 (-1)))
        have HR := Lib.hid (HR.out.other (g := w.heap.size) (i := 3) (.int .i64 (-1)) (Nat.succ_ne_self _))
        have hb := Below.setCell hb (p := ⟨w.heap.size, 3, none⟩) (Nat.le_refl w.heap.size) (.int .i64 (-1))
        generalize W2.setCell ⟨w.heap.size, 3, none⟩ (.int .i64 (-1)) = W5 at *
        obtain ⟨⟨f0, f1, f2, f3, f4⟩, k0, k1, k2, k3, k4⟩ := HV.out
        obtain ⟨⟨j0, j1, j2, j3, j4⟩, m0, m1, m2, m3, m4⟩ := HR.out
        have hbe := fbelow_set5 (a := .slice X.F.A X.F.n X.F.c) (b := .slice X.lA X.ln X.lc) (c := .int .i64 X.fuse) (d := .int .i64 (-1)) (e := .bool false) hb (show w.heap.size ≤ w.heap.size + 1 by omega)
        have hLe := Lib.hid (lie_put hL hbe hB (fu := X.fuse) (fa := (-1)) (of := false) hL.fuse (by decide))
        clear hb hL
        go_wp2
        (try rw [Exit.noGoto_ret])
        refine bodyPost_ret (v := .tuple #[.agg #[.slice X.F.A X.F.n X.F.c, .slice X.lA X.ln X.lc, .int .i64 X.fuse, .int .i64 (-1), .bool false], .int .i64 9]) ?_ rfl ⟨⟨X.F, X.lA, X.ln, X.lc, X.L, X.fuse, (-1), false⟩, by rw [HO.out]; rfl, by rw [HO.out]; (first | rfl | exact congrArg _ Hof.out.symm | (rw [Hof.out]; rfl)), hLe.out, hbe, fun _ _ h _ => ⟨h.firm, h.row, h.loose⟩⟩
        simp [results, Try.results51, go_sem, *]
      · have h3' : (X.fault == 0) = false := beq_eq_false_iff_ne.2 h3
        by_cases h6 : 0 < X.fault
        · have h6' : (0 < X.fault) = True := eq_true h6
          have e3 : IntKind.i64.wrap (X.fault - 1) = X.fault - 1 := by rw [IntKind.wrap_i64]; have := wf_i64 hL.fault; omega
          have e4 : wrap64 (X.fault - 1) = X.fault - 1 := by unfold wrap64; have := wf_i64 hL.fault; omega
          have wfa : (Lit.int .i64 (X.fault - 1)).wf = true := wf_down hL.fault h6
          have A4 := Lib.hid (fun h4 : X.fuse = 0 => Hout.out.symm.trans ((asked_4 Hof.out h2 h3 h4).trans (by rw [show tickN X.fault = X.fault - 1 from if_pos h6])))
          have A5 := Lib.hid (fun h4 : ¬ X.fuse = 0 => Hout.out.symm.trans ((asked_5 Hof.out h2 h3 h4).trans (by rw [show tickN X.fault = X.fault - 1 from if_pos h6])))
          generalize X.long + gr = lg at *
          generalize X.long = lo at *
          clear h2 h3 h6 hg hl
          go_upto_region 10 with fail
          clear f0 f1 f2 f3 f4 k0 k1 k2 k3 k4 j0 j1 j2 j3 j4 m0 m1 m2 m3 m4
          have HV := Lib.hid (HV.out.set3 (.int .i64 (X.fault - 1)))
          have HR := Lib.hid (HR.out.other (g := w.heap.size) (i := 3) (.int .i64 (X.fault - 1)) (Nat.succ_ne_self _))
          have hb := Below.setCell hb (p := ⟨w.heap.size, 3, none⟩) (Nat.le_refl w.heap.size) (.int .i64 (X.fault - 1))
          generalize W2.setCell ⟨w.heap.size, 3, none⟩ (.int .i64 (X.fault - 1)) = W4 at *
          obtain ⟨⟨f0, f1, f2, f3, f4⟩, k0, k1, k2, k3, k4⟩ := HV.out
          obtain ⟨⟨j0, j1, j2, j3, j4⟩, m0, m1, m2, m3, m4⟩ := HR.out
          by_cases h4 : X.fuse = 0
          · have HO := Lib.hid (A4.out h4)
            have h4' : (X.fuse == 0) = true := beq_iff_eq.2 h4
            clear h4
            go_upto_region 12 with fail
            clear f0 f1 f2 f3 f4 k0 k1 k2 k3 k4 j0 j1 j2 j3 j4 m0 m1 m2 m3 m4
            have HV := Lib.hid (HV.out.set2 (.int .i64 (-1)))
            have HR := Lib.hid (HR.out.other (g := w.heap.size) (i := 2) (.int .i64 (-1)) (Nat.succ_ne_self _))
            have hb := Below.setCell hb (p := ⟨w.heap.size, 2, none⟩) (Nat.le_refl w.heap.size) (.int .i64 (-1))
            generalize W4.setCell ⟨w.heap.size, 2, none⟩ (.int .i64 (-1)) = W5 at *
            obtain ⟨⟨f0, f1, f2, f3, f4⟩, k0, k1, k2, k3, k4⟩ := HV.out
            obtain ⟨⟨j0, j1, j2, j3, j4⟩, m0, m1, m2, m3, m4⟩ := HR.out
            go_upto_region 13 with fail
            clear f0 f1 f2 f3 f4 k0 k1 k2 k3 k4 j0 j1 j2 j3 j4 m0 m1 m2 m3 m4
            have HV := Lib.hid (HV.out.set4 (.bool true))
            have HR := Lib.hid (HR.out.other (g := w.heap.size) (i := 4) (.bool true) (Nat.succ_ne_self _))
            have hb := Below.setCell hb (p := ⟨w.heap.size, 4, none⟩) (Nat.le_refl w.heap.size) (.bool true)
            generalize W5.setCell ⟨w.heap.size, 4, none⟩ (.bool true) = W6 at *
            obtain ⟨⟨f0, f1, f2, f3, f4⟩, k0, k1, k2, k3, k4⟩ := HV.out
            obtain ⟨⟨j0, j1, j2, j3, j4⟩, m0, m1, m2, m3, m4⟩ := HR.out
            have hbe := fbelow_set5 (a := .slice X.F.A X.F.n X.F.c) (b := .slice X.lA X.ln X.lc) (c := .int .i64 (-1)) (d := .int .i64 (X.fault - 1)) (e := .bool true) hb (show w.heap.size ≤ w.heap.size + 1 by omega)
            have hLe := Lib.hid (lie_put hL hbe hB (fu := (-1)) (fa := (X.fault - 1)) (of := true) (by decide) wfa)
            clear hb hL
            go_wp2
            (try rw [Exit.noGoto_ret])
            refine bodyPost_ret (v := .tuple #[.agg #[.slice X.F.A X.F.n X.F.c, .slice X.lA X.ln X.lc, .int .i64 (-1), .int .i64 (X.fault - 1), .bool true], .int .i64 10]) ?_ rfl ⟨⟨X.F, X.lA, X.ln, X.lc, X.L, (-1), (X.fault - 1), true⟩, by rw [HO.out]; rfl, by rw [HO.out]; (first | rfl | exact congrArg _ Hof.out.symm | (rw [Hof.out]; rfl)), hLe.out, hbe, fun _ _ h _ => ⟨h.firm, h.row, h.loose⟩⟩
            simp [results, Try.results51, go_sem, *]
          · have HO := Lib.hid (A5.out h4)
            have h4' : (X.fuse == 0) = false := beq_eq_false_iff_ne.2 h4
            clear h4
            by_cases h5 : 0 < X.fuse
            · have h5' : (0 < X.fuse) = True := eq_true h5
              have HO := Lib.hid (HO.out.trans (by rw [show tickN X.fuse = X.fuse - 1 from if_pos h5]))
              have e1 : IntKind.i64.wrap (X.fuse - 1) = X.fuse - 1 := by rw [IntKind.wrap_i64]; have := wf_i64 hL.fuse; omega
              have e2 : wrap64 (X.fuse - 1) = X.fuse - 1 := by unfold wrap64; have := wf_i64 hL.fuse; omega
              have wfu : (Lit.int .i64 (X.fuse - 1)).wf = true := wf_down hL.fuse h5
              clear h5
              go_upto_region 16 with fail
              clear f0 f1 f2 f3 f4 k0 k1 k2 k3 k4 j0 j1 j2 j3 j4 m0 m1 m2 m3 m4
              have HV := Lib.hid (HV.out.set2 (.int .i64 (X.fuse - 1)))
              have HR := Lib.hid (HR.out.other (g := w.heap.size) (i := 2) (.int .i64 (X.fuse - 1)) (Nat.succ_ne_self _))
              have hb := Below.setCell hb (p := ⟨w.heap.size, 2, none⟩) (Nat.le_refl w.heap.size) (.int .i64 (X.fuse - 1))
              generalize W4.setCell ⟨w.heap.size, 2, none⟩ (.int .i64 (X.fuse - 1)) = W5 at *
              obtain ⟨⟨f0, f1, f2, f3, f4⟩, k0, k1, k2, k3, k4⟩ := HV.out
              obtain ⟨⟨j0, j1, j2, j3, j4⟩, m0, m1, m2, m3, m4⟩ := HR.out
              have hbe := fbelow_set5 (a := .slice X.F.A X.F.n X.F.c) (b := .slice X.lA X.ln X.lc) (c := .int .i64 (X.fuse - 1)) (d := .int .i64 (X.fault - 1)) (e := .bool false) hb (show w.heap.size ≤ w.heap.size + 1 by omega)
              have hLe := Lib.hid (lie_put hL hbe hB (fu := (X.fuse - 1)) (fa := (X.fault - 1)) (of := false) wfu wfa)
              clear hb hL
              go_wp2
              (try rw [Exit.noGoto_ret])
              refine bodyPost_ret (v := .tuple #[.agg #[.slice X.F.A X.F.n X.F.c, .slice X.lA X.ln X.lc, .int .i64 (X.fuse - 1), .int .i64 (X.fault - 1), .bool false], .int .i64 0]) ?_ rfl ⟨⟨X.F, X.lA, X.ln, X.lc, X.L, (X.fuse - 1), (X.fault - 1), false⟩, by rw [HO.out]; rfl, by rw [HO.out]; (first | rfl | exact congrArg _ Hof.out.symm | (rw [Hof.out]; rfl)), hLe.out, hbe, fun _ _ h _ => ⟨h.firm, h.row, h.loose⟩⟩
              simp [results, Try.results51, go_sem, *]
            · have h5' : (0 < X.fuse) = False := eq_false h5
              have HO := Lib.hid (HO.out.trans (by rw [show tickN X.fuse = X.fuse from if_neg h5]))
              clear h5
              have hbe := fbelow_set5 (a := .slice X.F.A X.F.n X.F.c) (b := .slice X.lA X.ln X.lc) (c := .int .i64 X.fuse) (d := .int .i64 (X.fault - 1)) (e := .bool false) hb (show w.heap.size ≤ w.heap.size + 1 by omega)
              have hLe := Lib.hid (lie_put hL hbe hB (fu := X.fuse) (fa := (X.fault - 1)) (of := false) hL.fuse wfa)
              clear hb hL
              go_wp2
              (try rw [Exit.noGoto_ret])
              refine bodyPost_ret (v := .tuple #[.agg #[.slice X.F.A X.F.n X.F.c, .slice X.lA X.ln X.lc, .int .i64 X.fuse, .int .i64 (X.fault - 1), .bool false], .int .i64 0]) ?_ rfl ⟨⟨X.F, X.lA, X.ln, X.lc, X.L, X.fuse, (X.fault - 1), false⟩, by rw [HO.out]; rfl, by rw [HO.out]; (first | rfl | exact congrArg _ Hof.out.symm | (rw [Hof.out]; rfl)), hLe.out, hbe, fun _ _ h _ => ⟨h.firm, h.row, h.loose⟩⟩
              simp [results, Try.results51, go_sem, *]
        · have h6' : (0 < X.fault) = False := eq_false h6
          have A4 := Lib.hid (fun h4 : X.fuse = 0 => Hout.out.symm.trans ((asked_4 Hof.out h2 h3 h4).trans (by rw [show tickN X.fault = X.fault from if_neg h6])))
          have A5 := Lib.hid (fun h4 : ¬ X.fuse = 0 => Hout.out.symm.trans ((asked_5 Hof.out h2 h3 h4).trans (by rw [show tickN X.fault = X.fault from if_neg h6])))
          generalize X.long + gr = lg at *
          generalize X.long = lo at *
          clear h2 h3 h6 hg hl
          by_cases h4 : X.fuse = 0
          · have HO := Lib.hid (A4.out h4)
            have h4' : (X.fuse == 0) = true := beq_iff_eq.2 h4
            clear h4
            go_upto_region 12 with fail
            clear f0 f1 f2 f3 f4 k0 k1 k2 k3 k4 j0 j1 j2 j3 j4 m0 m1 m2 m3 m4
            have HV := Lib.hid (HV.out.set2 (.int .i64 (-1)))
            have HR := Lib.hid (HR.out.other (g := w.heap.size) (i := 2) (.int .i64 (-1)) (Nat.succ_ne_self _))
            have hb := Below.setCell hb (p := ⟨w.heap.size, 2, none⟩) (Nat.le_refl w.heap.size) (.int .i64 (-1))
            generalize W2.setCell ⟨w.heap.size, 2, none⟩ (.int .i64 (-1)) = W5 at *
            obtain ⟨⟨f0, f1, f2, f3, f4⟩, k0, k1, k2, k3, k4⟩ := HV.out
            obtain ⟨⟨j0, j1, j2, j3, j4⟩, m0, m1, m2, m3, m4⟩ := HR.out
            go_upto_region 13 with fail
            clear f0 f1 f2 f3 f4 k0 k1 k2 k3 k4 j0 j1 j2 j3 j4 m0 m1 m2 m3 m4
            have HV := Lib.hid (HV.out.set4 (.bool true))
            have HR := Lib.hid (HR.out.other (g := w.heap.size) (i := 4) (.bool true) (Nat.succ_ne_self _))
            have hb := Below.setCell hb (p := ⟨w.heap.size, 4, none⟩) (Nat.le_refl w.heap.size) (.bool true)
            generalize W5.setCell ⟨w.heap.size, 4, none⟩ (.bool true) = W6 at *
            obtain ⟨⟨f0, f1, f2, f3, f4⟩, k0, k1, k2, k3, k4⟩ := HV.out
            obtain ⟨⟨j0, j1, j2, j3, j4⟩, m0, m1, m2, m3, m4⟩ := HR.out
            have hbe := fbelow_set5 (a := .slice X.F.A X.F.n X.F.c) (b := .slice X.lA X.ln X.lc) (c := .int .i64 (-1)) (d := .int .i64 X.fault) (e := .bool true) hb (show w.heap.size ≤ w.heap.size + 1 by omega)
            have hLe := Lib.hid (lie_put hL hbe hB (fu := (-1)) (fa := X.fault) (of := true) (by decide) hL.fault)
            clear hb hL
            go_wp2
            (try rw [Exit.noGoto_ret])
            refine bodyPost_ret (v := .tuple #[.agg #[.slice X.F.A X.F.n X.F.c, .slice X.lA X.ln X.lc, .int .i64 (-1), .int .i64 X.fault, .bool true], .int .i64 10]) ?_ rfl ⟨⟨X.F, X.lA, X.ln, X.lc, X.L, (-1), X.fault, true⟩, by rw [HO.out]; rfl, by rw [HO.out]; (first | rfl | exact congrArg _ Hof.out.symm | (rw [Hof.out]; rfl)), hLe.out, hbe, fun _ _ h _ => ⟨h.firm, h.row, h.loose⟩⟩
            simp [results, Try.results51, go_sem, *]
          · have HO := Lib.hid (A5.out h4)
            have h4' : (X.fuse == 0) = false := beq_eq_false_iff_ne.2 h4
            clear h4
            by_cases h5 : 0 < X.fuse
            · have h5' : (0 < X.fuse) = True := eq_true h5
              have HO := Lib.hid (HO.out.trans (by rw [show tickN X.fuse = X.fuse - 1 from if_pos h5]))
              have e1 : IntKind.i64.wrap (X.fuse - 1) = X.fuse - 1 := by rw [IntKind.wrap_i64]; have := wf_i64 hL.fuse; omega
              have e2 : wrap64 (X.fuse - 1) = X.fuse - 1 := by unfold wrap64; have := wf_i64 hL.fuse; omega
              have wfu : (Lit.int .i64 (X.fuse - 1)).wf = true := wf_down hL.fuse h5
              clear h5
              go_upto_region 16 with fail
              clear f0 f1 f2 f3 f4 k0 k1 k2 k3 k4 j0 j1 j2 j3 j4 m0 m1 m2 m3 m4
              have HV := Lib.hid (HV.out.set2 (.int .i64 (X.fuse - 1)))
              have HR := Lib.hid (HR.out.other (g := w.heap.size) (i := 2) (.int .i64 (X.fuse - 1)) (Nat.succ_ne_self _))
              have hb := Below.setCell hb (p := ⟨w.heap.size, 2, none⟩) (Nat.le_refl w.heap.size) (.int .i64 (X.fuse - 1))
              generalize W2.setCell ⟨w.heap.size, 2, none⟩ (.int .i64 (X.fuse - 1)) = W5 at *
              obtain ⟨⟨f0, f1, f2, f3, f4⟩, k0, k1, k2, k3, k4⟩ := HV.out
              obtain ⟨⟨j0, j1, j2, j3, j4⟩, m0, m1, m2, m3, m4⟩ := HR.out
              have hbe := fbelow_set5 (a := .slice X.F.A X.F.n X.F.c) (b := .slice X.lA X.ln X.lc) (c := .int .i64 (X.fuse - 1)) (d := .int .i64 X.fault) (e := .bool false) hb (show w.heap.size ≤ w.heap.size + 1 by omega)
              have hLe := Lib.hid (lie_put hL hbe hB (fu := (X.fuse - 1)) (fa := X.fault) (of := false) wfu hL.fault)
              clear hb hL
              go_wp2
              (try rw [Exit.noGoto_ret])
              refine bodyPost_ret (v := .tuple #[.agg #[.slice X.F.A X.F.n X.F.c, .slice X.lA X.ln X.lc, .int .i64 (X.fuse - 1), .int .i64 X.fault, .bool false], .int .i64 0]) ?_ rfl ⟨⟨X.F, X.lA, X.ln, X.lc, X.L, (X.fuse - 1), X.fault, false⟩, by rw [HO.out]; rfl, by rw [HO.out]; (first | rfl | exact congrArg _ Hof.out.symm | (rw [Hof.out]; rfl)), hLe.out, hbe, fun _ _ h _ => ⟨h.firm, h.row, h.loose⟩⟩
              simp [results, Try.results51, go_sem, *]
            · have h5' : (0 < X.fuse) = False := eq_false h5
              have HO := Lib.hid (HO.out.trans (by rw [show tickN X.fuse = X.fuse from if_neg h5]))
              clear h5
              have hbe := fbelow_set5 (a := .slice X.F.A X.F.n X.F.c) (b := .slice X.lA X.ln X.lc) (c := .int .i64 X.fuse) (d := .int .i64 X.fault) (e := .bool false) hb (show w.heap.size ≤ w.heap.size + 1 by omega)
              have hLe := Lib.hid (lie_put hL hbe hB (fu := X.fuse) (fa := X.fault) (of := false) hL.fuse hL.fault)
              clear hb hL
              go_wp2
              (try rw [Exit.noGoto_ret])
              refine bodyPost_ret (v := .tuple #[.agg #[.slice X.F.A X.F.n X.F.c, .slice X.lA X.ln X.lc, .int .i64 X.fuse, .int .i64 X.fault, .bool false], .int .i64 0]) ?_ rfl ⟨⟨X.F, X.lA, X.ln, X.lc, X.L, X.fuse, X.fault, false⟩, by rw [HO.out]; rfl, by rw [HO.out]; (first | rfl | exact congrArg _ Hof.out.symm | (rw [Hof.out]; rfl)), hLe.out, hbe, fun _ _ h _ => ⟨h.firm, h.row, h.loose⟩⟩
              simp [results, Try.results51, go_sem, *]
  · have hb := bel_alloc (bel_alloc (Below.refl w.heap.size w) (.cells #[.slice X.F.A X.F.n X.F.c, .slice X.lA X.ln X.lc, .int .i64 X.fuse, .int .i64 X.fault, .bool true] 25)) (.cells #[.slice none 0 0, .slice none 0 0, .int .i64 0, .int .i64 0, .bool false] 25)
    have HV := Lib.hid ((FVar.new w (.slice X.F.A X.F.n X.F.c) (.slice X.lA X.ln X.lc) (.int .i64 X.fuse) (.int .i64 X.fault) (.bool true) 25).lay (.cells #[.slice none 0 0, .slice none 0 0, .int .i64 0, .int .i64 0, .bool false] 25))
    have hR := FVar.new (w.alloc (.cells #[.slice X.F.A X.F.n X.F.c, .slice X.lA X.ln X.lc, .int .i64 X.fuse, .int .i64 X.fault, .bool true] 25)) (.slice none 0 0) (.slice none 0 0) (.int .i64 0) (.int .i64 0) (.bool false) 25
    rw [World.size_alloc] at hR
    have HR := Lib.hid hR
    clear hR
    have HO := Lib.hid (Hout.out.symm.trans (asked_1 hof))
    rw [hof] at HO
    clear hof HLo hl hg
    go_enter Try.func51, Try.ntmps51
    go_upto_region 1 with fail
    generalize (w.alloc (.cells #[.slice X.F.A X.F.n X.F.c, .slice X.lA X.ln X.lc, .int .i64 X.fuse, .int .i64 X.fault, .bool true] 25)).alloc (.cells #[.slice none 0 0, .slice none 0 0, .int .i64 0, .int .i64 0, .bool false] 25) = W1 at *
    obtain ⟨⟨f0, f1, f2, f3, f4⟩, k0, k1, k2, k3, k4⟩ := HV.out
    obtain ⟨⟨j0, j1, j2, j3, j4⟩, m0, m1, m2, m3, m4⟩ := HR.out
    have hbe := fbelow_set5 (a := .slice X.F.A X.F.n X.F.c) (b := .slice X.lA X.ln X.lc) (c := .int .i64 X.fuse) (d := .int .i64 X.fault) (e := .bool true) hb (show w.heap.size ≤ w.heap.size + 1 by omega)
    have hLe := Lib.hid (lie_put hL hbe hB (fu := X.fuse) (fa := X.fault) (of := true) hL.fuse hL.fault)
    clear hb hL
    go_wp2
    (try rw [Exit.noGoto_ret])
    refine bodyPost_ret (v := .tuple #[.agg #[.slice X.F.A X.F.n X.F.c, .slice X.lA X.ln X.lc, .int .i64 X.fuse, .int .i64 X.fault, .bool true], .int .i64 10]) ?_ rfl ⟨⟨X.F, X.lA, X.ln, X.lc, X.L, X.fuse, X.fault, true⟩, by rw [HO.out]; rfl, by rw [HO.out]; (first | rfl | exact congrArg _ Hof.out.symm | (rw [Hof.out]; rfl)), hLe.out, hbe, fun _ _ h _ => ⟨h.firm, h.row, h.loose⟩⟩
    simp [results, Try.results51, go_sem, *]
end Go.Proofs.Ythoenmggjbojoaa
/-
  Layer 10: the reference's Sync.
-/
namespace Go.Proofs.Ythoenmggjbojoaa
open Go.RowKit
set_option linter.unusedVariables false

theorem FVar.other5 {W : World} {g k : Nat} {a b c d e a' b' c' d' e' : Value} (hk : k ≠ g) (h : FVar W k a b c d e) : FVar (set5F W g a' b' c' d' e') k a b c d e :=
  FVar.other e' hk (FVar.other d' hk (FVar.other c' hk (FVar.other b' hk (FVar.other a' hk h))))
set_option maxRecDepth 20000 in
set_option maxHeartbeats 4000000 in
theorem refSync_any (X : FileT) (B : Nat) (w : World) (hL : LieF w B X) (hB : B ≤ w.heap.size) (hr : X.right = true) :
    Calls Try.prog 35 #[X.agg] w (OpP X (fun _ => True) (X.s.sync X.long) w) := by
  obtain ⟨out, hout⟩ : ∃ out, X.s.sync X.long = out := ⟨_, rfl⟩
  have Hout := Lib.hid hout
  rw [hout]
  clear hout
  have hAs := Lib.hid (fun W (h : Below w.heap.size w W) => refAsked_any X 0 B W (by decide) (hL.later (h.mono hB)) (Nat.le_trans hB h.size) hr)
  simp only [FileT.agg, PcT.val, show ((0 : Nat) : Int) = 0 from rfl] at hAs ⊢
  have HL := Lib.hid (hL.more hB)
  have Hr := Lib.hid (show X.s.right = true by rw [← right_s hL]; exact hr)
  have Hlo := Lib.hid (show X.long = X.s.all.length from long_s hL hr)
  have hb := bel_alloc (bel_alloc (Below.refl w.heap.size w) (.cells #[.slice X.F.A X.F.n X.F.c, .slice X.lA X.ln X.lc, .int .i64 X.fuse, .int .i64 X.fault, .bool X.off] 25)) (.cells #[.slice none 0 0, .slice none 0 0, .int .i64 0, .int .i64 0, .bool false] 25)
  have HV := Lib.hid ((FVar.new w (.slice X.F.A X.F.n X.F.c) (.slice X.lA X.ln X.lc) (.int .i64 X.fuse) (.int .i64 X.fault) (.bool X.off) 25).lay (.cells #[.slice none 0 0, .slice none 0 0, .int .i64 0, .int .i64 0, .bool false] 25))
  have hR := FVar.new (w.alloc (.cells #[.slice X.F.A X.F.n X.F.c, .slice X.lA X.ln X.lc, .int .i64 X.fuse, .int .i64 X.fault, .bool X.off] 25)) (.slice none 0 0) (.slice none 0 0) (.int .i64 0) (.int .i64 0) (.bool false) 25
  rw [World.size_alloc] at hR
  have HR := Lib.hid hR
  have hn2 : w.heap.size + 2 ≤ ((w.alloc (.cells #[.slice X.F.A X.F.n X.F.c, .slice X.lA X.ln X.lc, .int .i64 X.fuse, .int .i64 X.fault, .bool X.off] 25)).alloc (.cells #[.slice none 0 0, .slice none 0 0, .int .i64 0, .int .i64 0, .bool false] 25)).heap.size := by rw [World.size_alloc, World.size_alloc]; omega
  clear hR hL hr
  go_enter Try.func35, Try.ntmps35
  obtain ⟨⟨f0, f1, f2, f3, f4⟩, k0, k1, k2, k3, k4⟩ := HV.out
  obtain ⟨⟨j0, j1, j2, j3, j4⟩, m0, m1, m2, m3, m4⟩ := HR.out
  go_wp2_with fail
  generalize (w.alloc (.cells #[.slice X.F.A X.F.n X.F.c, .slice X.lA X.ln X.lc, .int .i64 X.fuse, .int .i64 X.fault, .bool X.off] 25)).alloc (.cells #[.slice none 0 0, .slice none 0 0, .int .i64 0, .int .i64 0, .bool false] 25) = W1 at *
  refine (hAs.out _ hb).mono ?_
  rintro e W2 ⟨Y, rfl, hYs, hYL, hb2, haw⟩
  clear f0 f1 f2 f3 f4 k0 k1 k2 k3 k4 j0 j1 j2 j3 j4 m0 m1 m2 m3 m4
  have HV := Lib.hid (HV.out.later hb2)
  have HR := Lib.hid (HR.out.later hb2)
  have ha0 := haw w.heap.size (by omega) (HL.out.away (Nat.le_refl _)) trivial
  have ha1 := Lib.hid (haw (w.heap.size + 1) (by omega) (HL.out.away (Nat.le_succ _)) trivial)
  have HAw := Lib.hid (show ∀ g, g < w.heap.size → AwayF X g → AwayF Y g from fun g hg ha => haw g (by omega) ha trivial)
  have hs2 := hb2.size
  have hn3 : w.heap.size + 2 ≤ (set5F W2 w.heap.size (.slice Y.F.A Y.F.n Y.F.c) (.slice Y.lA Y.ln Y.lc) (.int .i64 Y.fuse) (.int .i64 Y.fault) (.bool Y.off)).heap.size := by rw [size_set5]; omega
  have hb := fbelow_set5 (a := .slice Y.F.A Y.F.n Y.F.c) (b := .slice Y.lA Y.ln Y.lc) (c := .int .i64 Y.fuse) (d := .int .i64 Y.fault) (e := .bool Y.off) (bel_next hb hb2) (Nat.le_refl w.heap.size)
  have hL3 := lie_res (a := .slice Y.F.A Y.F.n Y.F.c) (b := .slice Y.lA Y.ln Y.lc) (c := .int .i64 Y.fuse) (d := .int .i64 Y.fault) (e := .bool Y.off) hYL ha0
  have hV3 := FVar.set5 (a' := .slice Y.F.A Y.F.n Y.F.c) (b' := .slice Y.lA Y.ln Y.lc) (c' := .int .i64 Y.fuse) (d' := .int .i64 Y.fault) (e' := .bool Y.off) HV.out
  have hR3 := FVar.other5 (g := w.heap.size) (a' := .slice Y.F.A Y.F.n Y.F.c) (b' := .slice Y.lA Y.ln Y.lc) (c' := .int .i64 Y.fuse) (d' := .int .i64 Y.fault) (e' := .bool Y.off) (show w.heap.size + 1 ≠ w.heap.size by omega) HR.out
  have HV := Lib.hid HV.out
  obtain ⟨⟨f0, f1, f2, f3, f4⟩, k0, k1, k2, k3, k4⟩ := HV.out
  obtain ⟨⟨j0, j1, j2, j3, j4⟩, m0, m1, m2, m3, m4⟩ := HR.out
  unfold set5F at hL3 hV3 hR3 hn3
  have HL3 := Lib.hid hL3
  have HYs := Lib.hid hYs
  clear hL3 hYs hYL haw ha0 hAs hb2 hs2 hn2
  simp only [FileT.agg, PcT.val]
  go_upto_region 2 with fail
  clear f0 f1 f2 f3 f4 k0 k1 k2 k3 k4 j0 j1 j2 j3 j4 m0 m1 m2 m3 m4
  clear HV HR
  have HV := Lib.hid hV3
  have HR := Lib.hid hR3
  clear hV3 hR3
  generalize (((((W2.setCell ⟨w.heap.size, 0, none⟩ (.slice Y.F.A Y.F.n Y.F.c)).setCell ⟨w.heap.size, 1, none⟩ (.slice Y.lA Y.ln Y.lc)).setCell ⟨w.heap.size, 2, none⟩ (.int .i64 Y.fuse)).setCell ⟨w.heap.size, 3, none⟩ (.int .i64 Y.fault)).setCell ⟨w.heap.size, 4, none⟩ (.bool Y.off)) = W3 at *
  obtain ⟨⟨f0, f1, f2, f3, f4⟩, k0, k1, k2, k3, k4⟩ := HV.out
  obtain ⟨⟨j0, j1, j2, j3, j4⟩, m0, m1, m2, m3, m4⟩ := HR.out
  by_cases hz : (X.s.asked X.long 0).2 = 0
  · have hz' : ((X.s.asked X.long 0).2 == 0) = true := beq_iff_eq.2 hz
    have HO := Lib.hid (show out = (⟨X.s.all, [], (X.s.asked X.long 0).1.fuse, (X.s.asked X.long 0).1.fault, (X.s.asked X.long 0).1.off⟩, 0) from Hout.out.symm.trans (if_pos hz))
    have Hal := Lib.hid (show Y.all = X.s.all by
      rw [all_of HYs.out]
      obtain ⟨e1, e2⟩ := asked_same X.s X.long 0
      unfold FileS.all
      rw [e1, e2])
    have hrY : Y.right = true := by
      rw [right_s HL3.out, HYs.out, Hlo.out]
      exact asked_right Hr.out 0
    have hA := refAll_any Y _ W3 HL3.out (Nat.le_refl _) hrY
    have Hfu := Lib.hid (And.intro HL3.out.fuse HL3.out.fault)
    have HlY := Lib.hid (show Y.long = Y.all.length from (right_all HL3.out hrY).1)
    generalize (X.s.asked X.long 0) = ask at *
    have Hz := Lib.hid hz
    clear hz hrY
    simp only [FileT.agg, PcT.val] at hA
    go_wp2_with fail
    refine hA.mono ?_
    rintro e W4 ⟨A, c, rfl, hO, hb4⟩
    clear f0 f1 f2 f3 f4 k0 k1 k2 k3 k4 j0 j1 j2 j3 j4 m0 m1 m2 m3 m4
    have HO4 := hO
    generalize hlo : Y.long = lo at *
    have Hll := Lib.hid hlo
    clear hlo hO hA
    have hs4 := hb4.size
    have hb := bel_next hb hb4
    have HV := Lib.hid (HV.out.later hb4)
    have HR := Lib.hid (HR.out.later hb4)
    clear hb4
    obtain ⟨⟨f0, f1, f2, f3, f4⟩, k0, k1, k2, k3, k4⟩ := HV.out
    obtain ⟨⟨j0, j1, j2, j3, j4⟩, m0, m1, m2, m3, m4⟩ := HR.out
    go_upto_region 4 with fail
    clear f0 f1 f2 f3 f4 k0 k1 k2 k3 k4 j0 j1 j2 j3 j4 m0 m1 m2 m3 m4
    have HV := Lib.hid (HV.out.set0 (.slice A lo c))
    have HR := Lib.hid (HR.out.other (g := w.heap.size) (i := 0) (.slice A lo c) (show w.heap.size + 1 ≠ w.heap.size by omega))
    have hb := Below.setCell hb (p := ⟨w.heap.size, 0, none⟩) (Nat.le_refl w.heap.size) (.slice A lo c)
    have HO5 := Lib.hid (ownsRow_setCell_below HO4.out (show (⟨w.heap.size, 0, none⟩ : Addr).block < _ by show w.heap.size < _; omega) (.slice A lo c))
    generalize W4.setCell ⟨w.heap.size, 0, none⟩ (.slice A lo c) = W5 at *
    obtain ⟨⟨f0, f1, f2, f3, f4⟩, k0, k1, k2, k3, k4⟩ := HV.out
    obtain ⟨⟨j0, j1, j2, j3, j4⟩, m0, m1, m2, m3, m4⟩ := HR.out
    go_upto_region 5 with fail
    clear f0 f1 f2 f3 f4 k0 k1 k2 k3 k4 j0 j1 j2 j3 j4 m0 m1 m2 m3 m4
    have HV := Lib.hid (HV.out.set1 (.slice none 0 0))
    have HR := Lib.hid (HR.out.other (g := w.heap.size) (i := 1) (.slice none 0 0) (show w.heap.size + 1 ≠ w.heap.size by omega))
    have hb := Below.setCell hb (p := ⟨w.heap.size, 1, none⟩) (Nat.le_refl w.heap.size) (.slice none 0 0)
    have HO6 := Lib.hid (ownsRow_setCell_below HO5.out (show (⟨w.heap.size, 1, none⟩ : Addr).block < _ by show w.heap.size < _; omega) (.slice none 0 0))
    generalize W5.setCell ⟨w.heap.size, 1, none⟩ (.slice none 0 0) = W6 at *
    obtain ⟨⟨f0, f1, f2, f3, f4⟩, k0, k1, k2, k3, k4⟩ := HV.out
    obtain ⟨⟨j0, j1, j2, j3, j4⟩, m0, m1, m2, m3, m4⟩ := HR.out
    have hbe := fbelow_set5 (a := .slice A lo c) (b := .slice none 0 0) (c := .int .i64 Y.fuse) (d := .int .i64 Y.fault) (e := .bool Y.off) hb (show w.heap.size ≤ w.heap.size + 1 by omega)
    have hp : PcT.Ok W6 W6.heap.size ⟨A, lo, c, Y.all⟩ := ⟨Bytes.own HO6.out, (own_facts HO6.out).1, (own_facts HO6.out).2.1, (own_facts HO6.out).2.2⟩
    have haw : ∀ g, g < w.heap.size + 2 → AwayF ⟨⟨A, lo, c, Y.all⟩, none, 0, 0, [], Y.fuse, Y.fault, Y.off⟩ g := fun g hg => ⟨own_away HO6.out (by omega), fun b off e _ => (by cases e), fun q hq => (List.not_mem_nil hq).elim⟩
    have hLe := Lib.hid (lie_res (a := .slice A lo c) (b := .slice none 0 0) (c := .int .i64 Y.fuse) (d := .int .i64 Y.fault) (e := .bool Y.off) (lie_syn (b := Y.off) hp Hfu.out.1 Hfu.out.2) (haw (w.heap.size + 1) (by omega)))
    have HAw2 := Lib.hid (show ∀ g, g < w.heap.size → AwayF X g → True → AwayF ⟨⟨A, lo, c, Y.all⟩, none, 0, 0, [], Y.fuse, Y.fault, Y.off⟩ g from fun g hg _ _ => haw g (by omega))
    have HS := Lib.hid (show FileT.s ⟨⟨A, lo, c, Y.all⟩, none, 0, 0, [], Y.fuse, Y.fault, Y.off⟩ = out.1 by
      rw [HO.out, ← HYs.out, ← Hal.out]
      rfl)
    have Ho2 := Lib.hid (show out.2 = 0 by rw [HO.out])
    clear hp haw hb HO6 HO5 HO4 HAw
    go_wp2
    (try rw [Exit.noGoto_ret])
    refine bodyPost_ret (v := .tuple #[.agg #[.slice A lo c, .slice none 0 0, .int .i64 Y.fuse, .int .i64 Y.fault, .bool Y.off], .int .i64 ask.2]) ?_ rfl ⟨_, by rw [Ho2.out, Hz.out]; rfl, HS.out, hLe.out, hbe, HAw2.out⟩
    simp [results, Try.results35, go_sem, *]
  · have hz' : ((X.s.asked X.long 0).2 == 0) = false := beq_eq_false_iff_ne.2 hz
    have HO := Lib.hid (show out = X.s.asked X.long 0 from Hout.out.symm.trans (if_neg hz))
    generalize (X.s.asked X.long 0) = ask at *
    clear hz
    have hbe := fbelow_set5 (a := .slice Y.F.A Y.F.n Y.F.c) (b := .slice Y.lA Y.ln Y.lc) (c := .int .i64 Y.fuse) (d := .int .i64 Y.fault) (e := .bool Y.off) hb (show w.heap.size ≤ w.heap.size + 1 by omega)
    have hLe := Lib.hid (lie_res (a := .slice Y.F.A Y.F.n Y.F.c) (b := .slice Y.lA Y.ln Y.lc) (c := .int .i64 Y.fuse) (d := .int .i64 Y.fault) (e := .bool Y.off) HL3.out ha1.out)
    have HAw2 := Lib.hid (show ∀ g, g < w.heap.size → AwayF X g → True → AwayF Y g from fun g hg ha _ => HAw.out g hg ha)
    clear hb HL3 HAw
    go_wp2
    (try rw [Exit.noGoto_ret])
    refine bodyPost_ret (v := .tuple #[.agg #[.slice Y.F.A Y.F.n Y.F.c, .slice Y.lA Y.ln Y.lc, .int .i64 Y.fuse, .int .i64 Y.fault, .bool Y.off], .int .i64 ask.2]) ?_ rfl ⟨Y, by rw [HO.out]; rfl, by rw [HO.out]; exact HYs.out, hLe.out, hbe, HAw2.out⟩
    simp [results, Try.results35, go_sem, *]
end Go.Proofs.Ythoenmggjbojoaa
/-
  Layer 10: the reference's Append.
-/
namespace Go.Proofs.Ythoenmggjbojoaa
open Go.RowKit
set_option linter.unusedVariables false

theorem slice_one (A : Option Addr) (n c : Nat) : ∀ u ∈ (#[.slice A n c] : Array Value).toList, u.oneCell' = true := by
  intro u hu
  obtain rfl : u = .slice A n c := by simpa using hu
  rfl
theorem vals_one (L : List PcT) : ∀ u ∈ L.map PcT.val, u.oneCell' = true := by
  intro u hu
  obtain ⟨p, _, rfl⟩ := List.mem_map.1 hu
  rfl
/-- A file behind a piece of its own at the end of a row of its own. -/
theorem grow_lie {W3 w7 w9 w11 : World} {Y : FileT} {A11 A9 A7 : Option Addr} {c11 c9 c7 pn n : Nat} {pl : List UInt8} {t : TypeId} (hL : LieF W3 W3.heap.size Y) (h7 : Below W3.heap.size W3 w7) (h9 : Below w7.heap.size w7 w9)
    (o9 : w9.ownsRow w7.heap.size 5 1 (.slice A9 pn c9) pn (pl.map bv)) (o10 : (w9.alloc (.cells #[.slice A9 pn c9] t)).ownsRow W3.heap.size 22 1 (.slice A7 Y.ln c7) Y.ln (Y.L.map PcT.val))
    (g11 : (w9.alloc (.cells #[.slice A9 pn c9] t)).grownBy w11 (Value.slice A7 Y.ln c7).ownBlock) (b11 : Below W3.heap.size (w9.alloc (.cells #[.slice A9 pn c9] t)) w11)
    (o11 : w11.ownsRow W3.heap.size 22 1 (.slice A11 (Y.ln + 1) c11) (Y.ln + 1) (Y.L.map PcT.val ++ (#[.slice A9 pn c9] : Array Value).toList)) (hn : n < W3.heap.size) (ha : AwayF Y n) (u : Value) :
    LieF (w11.setCell ⟨n, 1, none⟩ u) (w11.setCell ⟨n, 1, none⟩ u).heap.size ⟨Y.F, A11, Y.ln + 1, c11, Y.L ++ [⟨A9, pn, c9, pl⟩], Y.fuse, Y.fault, Y.off⟩ ∧
      ∀ g, g < W3.heap.size → AwayF Y g → AwayF ⟨Y.F, A11, Y.ln + 1, c11, Y.L ++ [⟨A9, pn, c9, pl⟩], Y.fuse, Y.fault, Y.off⟩ g := by
  have hs7 := h7.size
  have hbl := bel_alloc (Below.refl w9.heap.size w9) (.cells #[.slice A9 pn c9] t)
  have o9' := own_later o9 hbl
  have hne : (Value.slice A9 pn c9).ownBlock = none ∨ (Value.slice A9 pn c9).ownBlock ≠ (Value.slice A7 Y.ln c7).ownBlock := by
    rcases o9'.2 with ⟨e, _⟩ | ⟨g, cap, cur, e, _, hg, _⟩
    · rw [e]; exact .inl rfl
    · rw [e]
      exact .inr (own_blk_ne o10 hg (by decide))
  have p9 := o9'.kept g11 hne
  have q9 := ownsRow_setCell_below p9 (show (⟨n, 1, none⟩ : Addr).block < _ by show n < _; omega) u
  have q11 := ownsRow_setCell_below o11 (show (⟨n, 1, none⟩ : Addr).block < _ by show n < _; exact hn) u
  have hb : Below W3.heap.size W3 w11 := (bel_alloc (h7.trans (h9.mono hs7)) (.cells #[.slice A9 pn c9] t)).trans b11
  have hL2 := ((hL.later hb).more hb.size).setAway ha 1 u
  obtain ⟨r1, r2, r3⟩ := own_facts q11
  obtain ⟨s1, s2, s3⟩ := own_facts q9
  have hsz : (w11.setCell ⟨n, 1, none⟩ u).heap.size = w11.heap.size := size_set _ _ _
  refine ⟨⟨?_, ?_, ?_, r1, r2, r3, hL.fuse, hL.fault⟩, fun g hg h => ⟨h.firm, own_away o11 hg, ?_⟩⟩
  · rw [hsz]; exact hL2.firm
  · have h := Shows.own q11
    show Shows _ _ 1 A11 (Y.ln + 1) ((Y.L ++ [(⟨A9, pn, c9, pl⟩ : PcT)]).map PcT.val)
    rw [List.map_append]
    exact h
  · intro q hq
    rcases List.mem_append.1 hq with h | h
    · rw [hsz]; exact hL2.loose q h
    · obtain rfl := List.mem_singleton.1 h
      exact ⟨Bytes.own q9, s1, s2, s3⟩
  · intro q hq
    rcases List.mem_append.1 hq with h' | h'
    · exact h.loose q h'
    · obtain rfl := List.mem_singleton.1 h'
      exact own_away p9 (by omega)
set_option maxRecDepth 20000 in
set_option maxHeartbeats 4000000 in
theorem refAppend_any (X : FileT) (p : PcT) (B : Nat) (w : World) (hL : LieF w B X) (hp : p.Ok w B) (hB : B ≤ w.heap.size) (hr : X.right = true) (hpn : p.n ≤ 1048576) :
    Calls Try.prog 37 #[X.agg, p.val] w (OpP X (fun _ => True) (X.s.append X.long p.l) w) := by
  rw [show X.s.append X.long p.l = (if (X.s.asked X.long p.n).2 = 0 then ({ (X.s.asked X.long p.n).1 with loose := X.s.loose ++ [p.l] }, 0) else X.s.asked X.long p.n) by unfold FileS.append; rw [hp.len]]
  obtain ⟨out, hout⟩ : ∃ out, (if (X.s.asked X.long p.n).2 = 0 then ({ (X.s.asked X.long p.n).1 with loose := X.s.loose ++ [p.l] }, 0) else X.s.asked X.long p.n) = out := ⟨_, rfl⟩
  have Hout := Lib.hid hout
  rw [hout]
  clear hout
  have hAs := Lib.hid (fun W (h : Below w.heap.size w W) => refAsked_any X p.n B W hpn (hL.later (h.mono hB)) (Nat.le_trans hB h.size) hr)
  simp only [FileT.agg, PcT.val] at hAs ⊢
  have HL := Lib.hid (hL.more hB)
  have Hr := Lib.hid (show X.s.right = true by rw [← right_s hL]; exact hr)
  have Hlo := Lib.hid (show X.long = X.s.all.length from long_s hL hr)
  have hb := bel_alloc (bel_alloc (Below.refl w.heap.size w) (.cells #[.slice X.F.A X.F.n X.F.c, .slice X.lA X.ln X.lc, .int .i64 X.fuse, .int .i64 X.fault, .bool X.off] 25)) (.cells #[.slice none 0 0, .slice none 0 0, .int .i64 0, .int .i64 0, .bool false] 25)
  have HV := Lib.hid ((FVar.new w (.slice X.F.A X.F.n X.F.c) (.slice X.lA X.ln X.lc) (.int .i64 X.fuse) (.int .i64 X.fault) (.bool X.off) 25).lay (.cells #[.slice none 0 0, .slice none 0 0, .int .i64 0, .int .i64 0, .bool false] 25))
  have hR := FVar.new (w.alloc (.cells #[.slice X.F.A X.F.n X.F.c, .slice X.lA X.ln X.lc, .int .i64 X.fuse, .int .i64 X.fault, .bool X.off] 25)) (.slice none 0 0) (.slice none 0 0) (.int .i64 0) (.int .i64 0) (.bool false) 25
  rw [World.size_alloc] at hR
  have HR := Lib.hid hR
  have hn2 : w.heap.size + 2 ≤ ((w.alloc (.cells #[.slice X.F.A X.F.n X.F.c, .slice X.lA X.ln X.lc, .int .i64 X.fuse, .int .i64 X.fault, .bool X.off] 25)).alloc (.cells #[.slice none 0 0, .slice none 0 0, .int .i64 0, .int .i64 0, .bool false] 25)).heap.size := by rw [World.size_alloc, World.size_alloc]; omega
  have HP := Lib.hid (fun W (h : Below w.heap.size w W) => (hp.later (h.mono hB)))
  clear hR hL hr hp
  go_enter Try.func37, Try.ntmps37
  obtain ⟨⟨f0, f1, f2, f3, f4⟩, k0, k1, k2, k3, k4⟩ := HV.out
  obtain ⟨⟨j0, j1, j2, j3, j4⟩, m0, m1, m2, m3, m4⟩ := HR.out
  go_wp2_with fail
  generalize (w.alloc (.cells #[.slice X.F.A X.F.n X.F.c, .slice X.lA X.ln X.lc, .int .i64 X.fuse, .int .i64 X.fault, .bool X.off] 25)).alloc (.cells #[.slice none 0 0, .slice none 0 0, .int .i64 0, .int .i64 0, .bool false] 25) = W1 at *
  refine (hAs.out _ hb).mono ?_
  rintro e W2 ⟨Y, rfl, hYs, hYL, hb2, haw⟩
  clear f0 f1 f2 f3 f4 k0 k1 k2 k3 k4 j0 j1 j2 j3 j4 m0 m1 m2 m3 m4
  have HV := Lib.hid (HV.out.later hb2)
  have HR := Lib.hid (HR.out.later hb2)
  have ha0 := haw w.heap.size (by omega) (HL.out.away (Nat.le_refl _)) trivial
  have ha1 := Lib.hid (haw (w.heap.size + 1) (by omega) (HL.out.away (Nat.le_succ _)) trivial)
  have HAw := Lib.hid (show ∀ g, g < w.heap.size → AwayF X g → AwayF Y g from fun g hg ha => haw g (by omega) ha trivial)
  have hs2 := hb2.size
  have hn3 : w.heap.size + 2 ≤ (set5F W2 w.heap.size (.slice Y.F.A Y.F.n Y.F.c) (.slice Y.lA Y.ln Y.lc) (.int .i64 Y.fuse) (.int .i64 Y.fault) (.bool Y.off)).heap.size := by rw [size_set5]; omega
  have hb := fbelow_set5 (a := .slice Y.F.A Y.F.n Y.F.c) (b := .slice Y.lA Y.ln Y.lc) (c := .int .i64 Y.fuse) (d := .int .i64 Y.fault) (e := .bool Y.off) (bel_next hb hb2) (Nat.le_refl w.heap.size)
  have hL3 := lie_res (a := .slice Y.F.A Y.F.n Y.F.c) (b := .slice Y.lA Y.ln Y.lc) (c := .int .i64 Y.fuse) (d := .int .i64 Y.fault) (e := .bool Y.off) hYL ha0
  have hV3 := FVar.set5 (a' := .slice Y.F.A Y.F.n Y.F.c) (b' := .slice Y.lA Y.ln Y.lc) (c' := .int .i64 Y.fuse) (d' := .int .i64 Y.fault) (e' := .bool Y.off) HV.out
  have hR3 := FVar.other5 (g := w.heap.size) (a' := .slice Y.F.A Y.F.n Y.F.c) (b' := .slice Y.lA Y.ln Y.lc) (c' := .int .i64 Y.fuse) (d' := .int .i64 Y.fault) (e' := .bool Y.off) (show w.heap.size + 1 ≠ w.heap.size by omega) HR.out
  have HV := Lib.hid HV.out
  obtain ⟨⟨f0, f1, f2, f3, f4⟩, k0, k1, k2, k3, k4⟩ := HV.out
  obtain ⟨⟨j0, j1, j2, j3, j4⟩, m0, m1, m2, m3, m4⟩ := HR.out
  unfold set5F at hL3 hV3 hR3 hn3
  have HL3 := Lib.hid hL3
  have HYs := Lib.hid hYs
  have ha0 := Lib.hid ha0
  clear hL3 hYs hYL haw hAs hb2 hs2 hn2
  simp only [FileT.agg, PcT.val]
  go_upto_region 2 with fail
  clear f0 f1 f2 f3 f4 k0 k1 k2 k3 k4 j0 j1 j2 j3 j4 m0 m1 m2 m3 m4
  clear HV HR
  have HV := Lib.hid hV3
  have HR := Lib.hid hR3
  clear hV3 hR3
  generalize (((((W2.setCell ⟨w.heap.size, 0, none⟩ (.slice Y.F.A Y.F.n Y.F.c)).setCell ⟨w.heap.size, 1, none⟩ (.slice Y.lA Y.ln Y.lc)).setCell ⟨w.heap.size, 2, none⟩ (.int .i64 Y.fuse)).setCell ⟨w.heap.size, 3, none⟩ (.int .i64 Y.fault)).setCell ⟨w.heap.size, 4, none⟩ (.bool Y.off)) = W3 at *
  obtain ⟨⟨f0, f1, f2, f3, f4⟩, k0, k1, k2, k3, k4⟩ := HV.out
  obtain ⟨⟨j0, j1, j2, j3, j4⟩, m0, m1, m2, m3, m4⟩ := HR.out
  by_cases hz : (X.s.asked X.long p.n).2 = 0
  · have hz' : ((X.s.asked X.long p.n).2 == 0) = true := beq_iff_eq.2 hz
    have HO := Lib.hid (show out = ({ (X.s.asked X.long p.n).1 with loose := X.s.loose ++ [p.l] }, 0) from Hout.out.symm.trans (if_pos hz))
    obtain ⟨iP, hiP, hzP, hsP, hbP⟩ := slice_info
    obtain ⟨i0, hi, hz0, hz1, hz2⟩ := u8_info
    have Hfu := Lib.hid (And.intro HL3.out.fuse HL3.out.fault)
    have Hsame := Lib.hid (asked_same X.s X.long p.n)
    have HrA := Lib.hid (show (X.s.asked X.long p.n).1.right = true by rw [Hlo.out]; exact asked_right Hr.out p.n)
    generalize (X.s.asked X.long p.n) = ask at *
    have Hz := Lib.hid hz
    clear hz
    go_upto_region 4 with fail
    have hn0 := World.ownsRow_nil W3 W3.heap.size 22 1
    have hs0 := HL3.out.row
    have hln5 : Y.ln ≤ 524288 := (right_rows HL3.out (by rw [right_s HL3.out, HYs.out]; exact HrA.out)).2.2
    have h63 : 0 + Y.ln ≤ maxLen := by unfold maxLen; omega
    have hbt : (0 + Y.ln) * 24 ≤ 140737488355328 := by omega
    have hq63 : 0 + p.n ≤ maxLen := by unfold maxLen; omega
    have hqbt : (0 + p.n) * 1 ≤ 140737488355328 := by omega
    have hr63 : Y.ln + 1 ≤ maxLen := by unfold maxLen; omega
    have hrbt : (Y.ln + 1) * 24 ≤ 140737488355328 := by omega
    have HbS := Lib.hid hb.size
    go_upto_region 6 with (at_builtin; first | (refine wpList_append_shows _ rfl _ _ 23 rfl W3.heap.size 22 iP (.slice none 0 0) 1 24 Try.underlying23 hiP hzP hsP hbP rfl (by decide) _ _ _ rfl hn0 _ _ Y.ln _ (Y.L.map PcT.val) rfl hs0 (vals_one _) h63 hbt (Nat.le_refl _) ?_; intro A7 c7 w7 hown7 hgrow7 hb7; rw [Nat.zero_add, List.nil_append] at hown7; have HO7 := Lib.hid hown7; have hb8 := bel_alloc (bel_next hb hb7) (.cells #[] 5); have hp8 := (HP.out _ hb8).here; have hn8 := World.ownsRow_made (e := 5) (size := 1) (base := w7.heap.size) w7 #[] 0 (Nat.le_refl _) (Nat.zero_le _) rfl; have hs8 : w7.heap.size ≤ (w7.alloc (.cells #[] 5)).heap.size := (by rw [World.size_alloc]; omega); clear hown7 hgrow7 hn0 hs0 h63 hbt) | (refine wpList_append_shows _ rfl _ _ 22 rfl w7.heap.size 5 i0 (.int .u8 0) 1 1 Try.underlying22 hi hz0 hz1 hz2 rfl (by decide) _ _ _ rfl hn8 B _ p.n _ (p.l.map bv) rfl hp8 (bv_one _) hq63 hqbt hs8 ?_; intro A9 c9 w9 hown9 hgrow9 hb9; rw [Nat.zero_add, List.nil_append] at hown9; have HO9 := Lib.hid hown9; have hx9 : Below w7.heap.size w7 w9 := (bel_alloc (Below.refl _ _) (.cells #[] 5)).trans hb9; have hx10 := bel_alloc hx9 (.cells #[.slice A9 p.n c9] 22); have hn10 := own_later HO7.out hx10; have HO10 := Lib.hid hn10; have hs10 := shows_new' w9 #[.slice A9 p.n c9] 22 1 1 rfl; have hz10 : W3.heap.size ≤ (w9.alloc (.cells #[.slice A9 p.n c9] 22)).heap.size := (Nat.le_trans hb7.size hx10.size); clear hown9 hgrow9 hn8 hp8 hs8 hb8) | (refine wpList_append_shows _ rfl _ _ 23 rfl W3.heap.size 22 iP (.slice none 0 0) 1 24 Try.underlying23 hiP hzP hsP hbP rfl (by decide) _ _ _ rfl hn10 _ _ 1 _ _ rfl hs10 (slice_one _ _ _) hr63 hrbt hz10 ?_; intro A11 c11 w11 hown11 hgrow11 hb11; have HO11 := Lib.hid hown11; have HG11 := Lib.hid hgrow11; have HB11 := Lib.hid hb11; have hx11 := Below.trans (bel_alloc (bel_next (bel_next hb hb7) hx9) (.cells #[.slice A9 p.n c9] 22)) (hb11.mono HbS.out); have HV := Lib.hid (HV.out.later ((hb7.trans (hx10.mono hb7.size)).trans hb11)); have HR := Lib.hid (HR.out.later ((hb7.trans (hx10.mono hb7.size)).trans hb11)); clear hown11 hgrow11 hn10 hs10 hz10 f0 f1 f2 f3 f4 k0 k1 k2 k3 k4 j0 j1 j2 j3 j4 m0 m1 m2 m3 m4; obtain ⟨⟨f0, f1, f2, f3, f4⟩, k0, k1, k2, k3, k4⟩ := HV.out; obtain ⟨⟨j0, j1, j2, j3, j4⟩, m0, m1, m2, m3, m4⟩ := HR.out))
    clear f0 f1 f2 f3 f4 k0 k1 k2 k3 k4 j0 j1 j2 j3 j4 m0 m1 m2 m3 m4
    obtain ⟨hL12, haw12⟩ := grow_lie HL3.out hb7 hx9 HO9.out HO10.out HG11.out HB11.out HO11.out (n := w.heap.size) (by omega) ha0.out (.slice A11 (Y.ln + 1) c11)
    have HV := Lib.hid (HV.out.set1 (.slice A11 (Y.ln + 1) c11))
    have HR := Lib.hid (HR.out.other (g := w.heap.size) (i := 1) (.slice A11 (Y.ln + 1) c11) (show w.heap.size + 1 ≠ w.heap.size by omega))
    have hb := Below.setCell hx11 (p := ⟨w.heap.size, 1, none⟩) (Nat.le_refl w.heap.size) (.slice A11 (Y.ln + 1) c11)
    generalize w11.setCell ⟨w.heap.size, 1, none⟩ (.slice A11 (Y.ln + 1) c11) = W12 at *
    have hbe := fbelow_set5 (a := .slice Y.F.A Y.F.n Y.F.c) (b := .slice A11 (Y.ln + 1) c11) (c := .int .i64 Y.fuse) (d := .int .i64 Y.fault) (e := .bool Y.off) hb (show w.heap.size ≤ w.heap.size + 1 by omega)
    have hLe := Lib.hid (lie_res (a := .slice Y.F.A Y.F.n Y.F.c) (b := .slice A11 (Y.ln + 1) c11) (c := .int .i64 Y.fuse) (d := .int .i64 Y.fault) (e := .bool Y.off) hL12 (haw12 (w.heap.size + 1) (by omega) ha1.out))
    have HAw2 := Lib.hid (show ∀ g, g < w.heap.size → AwayF X g → True → AwayF ⟨Y.F, A11, Y.ln + 1, c11, Y.L ++ [⟨A9, p.n, c9, p.l⟩], Y.fuse, Y.fault, Y.off⟩ g from fun g hg h _ => haw12 g (by omega) (HAw.out g hg h))
    have HS := Lib.hid (show FileT.s ⟨Y.F, A11, Y.ln + 1, c11, Y.L ++ [⟨A9, p.n, c9, p.l⟩], Y.fuse, Y.fault, Y.off⟩ = out.1 by
      rw [HO.out, ← HYs.out]
      show FileS.mk Y.F.l ((Y.L ++ [(⟨A9, p.n, c9, p.l⟩ : PcT)]).map PcT.l) Y.fuse Y.fault Y.off = _
      rw [List.map_append]
      have e : Y.s.loose = X.s.loose := by rw [HYs.out]; exact Hsame.out.2
      rw [← e]
      rfl)
    have Ho2 := Lib.hid (show out.2 = 0 by rw [HO.out])
    clear hL12 haw12 hb hb7 hx9 hx10 hx11 hb9 hb11 HO7 HO9 HO10 HO11 HG11 HB11 HAw hq63 hqbt hr63 hrbt hln5
    obtain ⟨⟨f0, f1, f2, f3, f4⟩, k0, k1, k2, k3, k4⟩ := HV.out
    obtain ⟨⟨j0, j1, j2, j3, j4⟩, m0, m1, m2, m3, m4⟩ := HR.out
    go_wp2
    (try rw [Exit.noGoto_ret])
    refine bodyPost_ret (v := .tuple #[.agg #[.slice Y.F.A Y.F.n Y.F.c, .slice A11 (Y.ln + 1) c11, .int .i64 Y.fuse, .int .i64 Y.fault, .bool Y.off], .int .i64 ask.2]) ?_ rfl ⟨_, by rw [Ho2.out, Hz.out]; rfl, HS.out, hLe.out, hbe, HAw2.out⟩
    simp [results, Try.results37, go_sem, *]
  · have hz' : ((X.s.asked X.long p.n).2 == 0) = false := beq_eq_false_iff_ne.2 hz
    have HO := Lib.hid (show out = X.s.asked X.long p.n from Hout.out.symm.trans (if_neg hz))
    generalize (X.s.asked X.long p.n) = ask at *
    clear hz
    have hbe := fbelow_set5 (a := .slice Y.F.A Y.F.n Y.F.c) (b := .slice Y.lA Y.ln Y.lc) (c := .int .i64 Y.fuse) (d := .int .i64 Y.fault) (e := .bool Y.off) hb (show w.heap.size ≤ w.heap.size + 1 by omega)
    have hLe := Lib.hid (lie_res (a := .slice Y.F.A Y.F.n Y.F.c) (b := .slice Y.lA Y.ln Y.lc) (c := .int .i64 Y.fuse) (d := .int .i64 Y.fault) (e := .bool Y.off) HL3.out ha1.out)
    have HAw2 := Lib.hid (show ∀ g, g < w.heap.size → AwayF X g → True → AwayF Y g from fun g hg ha _ => HAw.out g hg ha)
    clear hb HL3 HAw
    go_wp2
    (try rw [Exit.noGoto_ret])
    refine bodyPost_ret (v := .tuple #[.agg #[.slice Y.F.A Y.F.n Y.F.c, .slice Y.lA Y.ln Y.lc, .int .i64 Y.fuse, .int .i64 Y.fault, .bool Y.off], .int .i64 ask.2]) ?_ rfl ⟨Y, by rw [HO.out]; rfl, by rw [HO.out]; exact HYs.out, hLe.out, hbe, HAw2.out⟩
    simp [results, Try.results37, go_sem, *]
end Go.Proofs.Ythoenmggjbojoaa
