/-
  Layer 10, the law FileTells: the walk.
-/
import Derived.Test.YthoenmggjbojoaaFilAT
import Derived.Deep.CutBlock
namespace Go.Proofs.Ythoenmggjbojoaa
open Go.RowKit
set_option linter.unusedVariables false

theorem sameS_self (S : FileS) : sameS S S = true := by
  unfold sameS
  rw [beq_self_eq_true, beq_self_eq_true, beq_self_eq_true, same_yes' rfl, decide_eq_true rfl]
  rfl
theorem sameS_iff {S T : FileS} : sameS S T = true ↔ S = T := by
  constructor
  · intro h
    unfold sameS at h
    simp only [Bool.and_eq_true, beq_iff_eq, decide_eq_true_eq] at h
    obtain ⟨h1, h2, h3, h4, h5⟩ := h
    unfold sameB at h4
    have h6 := of_decide_eq_true h4
    clear h4
    cases S; cases T
    simp only at h1 h2 h3 h6 h5
    subst h1 h2 h3 h6 h5
    rfl
  · rintro rfl
    exact sameS_self S
theorem sameS_comm (S T : FileS) : sameS S T = sameS T S := by
  rw [Bool.eq_iff_iff, sameS_iff, sameS_iff]
  exact ⟨Eq.symm, Eq.symm⟩
set_option maxRecDepth 100000 in
set_option maxHeartbeats 16000000 in
theorem fileTells_walk (w : World) (X : FileT) (hX : LieF w w.heap.size X) (hN1 : ∀ p ∈ X.Q, p.n ≤ 1048576) (Y : FileT) (hY : LieF w w.heap.size Y) (hN2 : ∀ p ∈ Y.Q, p.n ≤ 1048576) (a : Int) (wa : (Lit.int .i64 a).wf = true) (n : Int) (wn : (Lit.int .i64 n).wf = true) :
    Calls Try.prog 4 #[X.agg, Y.agg, .int .i64 a, .int .i64 n] w fun e w' => e = .returned (.bool true) ∧ Below w.heap.size w w' := by
  have hb := bel_alloc (bel_alloc (Below.refl w.heap.size w) (.cells #[.slice X.F.A X.F.n X.F.c, .slice X.lA X.ln X.lc, .int .i64 X.fuse, .int .i64 X.fault, .bool X.off] 25)) (.cells #[.slice Y.F.A Y.F.n Y.F.c, .slice Y.lA Y.ln Y.lc, .int .i64 Y.fuse, .int .i64 Y.fault, .bool Y.off] 25)
  have HFX := Lib.hid ((FBox.new w X 25).later (bel_alloc (Below.refl _ _) (.cells #[.slice Y.F.A Y.F.n Y.F.c, .slice Y.lA Y.ln Y.lc, .int .i64 Y.fuse, .int .i64 Y.fault, .bool Y.off] 25)))
  have hY1 := FBox.new (w.alloc (.cells #[.slice X.F.A X.F.n X.F.c, .slice X.lA X.ln X.lc, .int .i64 X.fuse, .int .i64 X.fault, .bool X.off] 25)) Y 25
  rw [World.size_alloc] at hY1
  have HFY := Lib.hid hY1
  have HX := Lib.hid (fun W (h : Below w.heap.size w W) => (hX.later h).more h.size)
  have HY := Lib.hid (fun W (h : Below w.heap.size w W) => (hY.later h).more h.size)
  have HW := Lib.hid (fun W (h : Below w.heap.size w W) => lwakes_any W)
  have HcR := Lib.hid (fun W (h : Below w.heap.size w W) => refRight_any X _ W (HX.out W h) (Nat.le_refl _) hN1)
  have HcQ := Lib.hid (fun W (h : Below w.heap.size w W) => refRight_any Y _ W (HY.out W h) (Nat.le_refl _) hN2)
  have HcC := Lib.hid (fun W (h : Below w.heap.size w W) => checkF_any X _ W (HX.out W h) (Nat.le_refl _) hN1)
  have HcS := Lib.hid (fun W (h : Below w.heap.size w W) => refSame_any X Y _ W (HX.out W h) (HY.out W h) (Nat.le_refl _))
  have HXY := Lib.hid (fun W (h : Below w.heap.size w W) => sameF_any X Y _ W (HX.out W h) (HY.out W h) (Nat.le_refl _) hN1 hN2)
  have HYX := Lib.hid (fun W (h : Below w.heap.size w W) => sameF_any Y X _ W (HY.out W h) (HX.out W h) (Nat.le_refl _) hN2 hN1)
  have HXX := Lib.hid (fun W (h : Below w.heap.size w W) => sameF_any X X _ W (HX.out W h) (HX.out W h) (Nat.le_refl _) hN1 hN1)
  have HcL := Lib.hid (fun W (h : Below w.heap.size w W) => lenF_any X _ W (HX.out W h) (Nat.le_refl _) hN1)
  have HN1 := Lib.hid hN1
  simp only [sameS_comm Y.s X.s, sameS_self] at HYX HXX
  obtain ⟨q, hq⟩ : ∃ q, Y.right = q := ⟨_, rfl⟩
  obtain ⟨s, hs⟩ : ∃ s, sameS X.s Y.s = s := ⟨_, rfl⟩
  rw [hq] at HcQ HXY HYX
  rw [hs] at HcS HXY HYX
  clear hq hs hN2 hY hY1
  cases hr : X.right
  · have HRd := Lib.hid (fun W (h : Below w.heap.size w W) => readF_bad X a n _ W (HX.out W h) (Nat.le_refl _) hN1 hr)
    simp only [hr, Bool.false_and, Bool.and_false] at HcR HcC HXY HYX HXX HcL
    simp only [show (false = true) = False from by simp, if_false] at HcC HcL
    simp only [FileT.agg, PcT.val] at HcR HcQ HcC HcS HXY HYX HXX HcL HRd ⊢
    clear hr hN1 hX wa wn
    go_enter Try.func4, Try.ntmps4
    obtain ⟨f0, f1, f2, f3, f4⟩ := HFX.out
    obtain ⟨g0, g1, g2, g3, g4⟩ := HFY.out
    go_upto_region 1 with fail
    generalize (w.alloc (.cells #[.slice X.F.A X.F.n X.F.c, .slice X.lA X.ln X.lc, .int .i64 X.fuse, .int .i64 X.fault, .bool X.off] 25)).alloc (.cells #[.slice Y.F.A Y.F.n Y.F.c, .slice Y.lA Y.ln Y.lc, .int .i64 Y.fuse, .int .i64 Y.fault, .bool Y.off] 25) = W1 at *
    go_wp2_with fail
    refine (HW.out _ hb).mono ?_
    rintro e V ⟨rfl, hbn⟩
    clear f0 f1 f2 f3 f4 g0 g1 g2 g3 g4
    have HFX := Lib.hid (HFX.out.later hbn)
    have HFY := Lib.hid (HFY.out.later hbn)
    have hb := bel_next hb hbn
    clear hbn HW
    obtain ⟨f0, f1, f2, f3, f4⟩ := HFX.out
    obtain ⟨g0, g1, g2, g3, g4⟩ := HFY.out
    go_wp2_with fail
    refine (HcR.out _ hb).mono ?_
    rintro e V ⟨rfl, hbn⟩
    clear f0 f1 f2 f3 f4 g0 g1 g2 g3 g4
    have HFX := Lib.hid (HFX.out.later hbn)
    have HFY := Lib.hid (HFY.out.later hbn)
    have hb := bel_next hb hbn
    clear hbn HcR
    obtain ⟨f0, f1, f2, f3, f4⟩ := HFX.out
    obtain ⟨g0, g1, g2, g3, g4⟩ := HFY.out
    go_wp2_with fail
    refine (HcC.out _ hb).mono ?_
    rintro e V ⟨rfl, hbn⟩
    clear f0 f1 f2 f3 f4 g0 g1 g2 g3 g4
    have HFX := Lib.hid (HFX.out.later hbn)
    have HFY := Lib.hid (HFY.out.later hbn)
    have hb := bel_next hb hbn
    clear hbn HcC
    obtain ⟨f0, f1, f2, f3, f4⟩ := HFX.out
    obtain ⟨g0, g1, g2, g3, g4⟩ := HFY.out
    go_wp2_with fail
    refine (HXY.out _ hb).mono ?_
    rintro e V ⟨rfl, hbn⟩
    clear f0 f1 f2 f3 f4 g0 g1 g2 g3 g4
    have HFX := Lib.hid (HFX.out.later hbn)
    have HFY := Lib.hid (HFY.out.later hbn)
    have hb := bel_next hb hbn
    clear hbn HXY
    obtain ⟨f0, f1, f2, f3, f4⟩ := HFX.out
    obtain ⟨g0, g1, g2, g3, g4⟩ := HFY.out
    go_wp2_with fail
    refine (HYX.out _ hb).mono ?_
    rintro e V ⟨rfl, hbn⟩
    clear f0 f1 f2 f3 f4 g0 g1 g2 g3 g4
    have HFX := Lib.hid (HFX.out.later hbn)
    have HFY := Lib.hid (HFY.out.later hbn)
    have hb := bel_next hb hbn
    clear hbn HYX
    obtain ⟨f0, f1, f2, f3, f4⟩ := HFX.out
    obtain ⟨g0, g1, g2, g3, g4⟩ := HFY.out
    go_wp2_with fail
    refine (HXX.out _ hb).mono ?_
    rintro e V ⟨rfl, hbn⟩
    clear f0 f1 f2 f3 f4 g0 g1 g2 g3 g4
    have HFX := Lib.hid (HFX.out.later hbn)
    have HFY := Lib.hid (HFY.out.later hbn)
    have hb := bel_next hb hbn
    clear hbn HXX
    obtain ⟨f0, f1, f2, f3, f4⟩ := HFX.out
    obtain ⟨g0, g1, g2, g3, g4⟩ := HFY.out
    go_wp2_with fail
    refine (HRd.out _ hb).mono ?_
    rintro e V ⟨rfl, hbn⟩
    clear f0 f1 f2 f3 f4 g0 g1 g2 g3 g4
    have HFX := Lib.hid (HFX.out.later hbn)
    have HFY := Lib.hid (HFY.out.later hbn)
    have hb := bel_next hb hbn
    clear hbn HRd
    obtain ⟨f0, f1, f2, f3, f4⟩ := HFX.out
    obtain ⟨g0, g1, g2, g3, g4⟩ := HFY.out
    go_wp2_with fail
    refine (HcL.out _ hb).mono ?_
    rintro e V ⟨rfl, hbn⟩
    clear f0 f1 f2 f3 f4 g0 g1 g2 g3 g4
    have HFX := Lib.hid (HFX.out.later hbn)
    have HFY := Lib.hid (HFY.out.later hbn)
    have hb := bel_next hb hbn
    clear hbn HcL
    obtain ⟨f0, f1, f2, f3, f4⟩ := HFX.out
    obtain ⟨g0, g1, g2, g3, g4⟩ := HFY.out
    go_wp2
    go_ret
    exact ⟨rfl, hb⟩
  · have hl := (right_rows hX hr).2.1
    have HcA := Lib.hid (fun W (h : Below w.heap.size w W) => refAll_any X _ W (HX.out W h) (Nat.le_refl _) hr)
    obtain ⟨hlong, hmax⟩ := right_all hX hr
    have HR := Lib.hid hr
    simp only [hr, Bool.true_and, Bool.and_true] at HcR HcC HXY HYX HXX HcL
    simp only [if_true] at HcC HcL
    simp only [FileT.agg, PcT.val] at HcR HcQ HcC HcS HXY HYX HXX HcL HcA ⊢
    have Hlong := Lib.hid hlong
    clear hr hN1 hX hlong hmax
    go_enter Try.func4, Try.ntmps4
    obtain ⟨f0, f1, f2, f3, f4⟩ := HFX.out
    obtain ⟨g0, g1, g2, g3, g4⟩ := HFY.out
    go_upto_region 1 with fail
    generalize (w.alloc (.cells #[.slice X.F.A X.F.n X.F.c, .slice X.lA X.ln X.lc, .int .i64 X.fuse, .int .i64 X.fault, .bool X.off] 25)).alloc (.cells #[.slice Y.F.A Y.F.n Y.F.c, .slice Y.lA Y.ln Y.lc, .int .i64 Y.fuse, .int .i64 Y.fault, .bool Y.off] 25) = W1 at *
    go_wp2_with fail
    refine (HW.out _ hb).mono ?_
    rintro e V ⟨rfl, hbn⟩
    clear f0 f1 f2 f3 f4 g0 g1 g2 g3 g4
    have HFX := Lib.hid (HFX.out.later hbn)
    have HFY := Lib.hid (HFY.out.later hbn)
    have hb := bel_next hb hbn
    clear hbn HW
    obtain ⟨f0, f1, f2, f3, f4⟩ := HFX.out
    obtain ⟨g0, g1, g2, g3, g4⟩ := HFY.out
    go_wp2_with fail
    refine (HcR.out _ hb).mono ?_
    rintro e V ⟨rfl, hbn⟩
    clear f0 f1 f2 f3 f4 g0 g1 g2 g3 g4
    have HFX := Lib.hid (HFX.out.later hbn)
    have HFY := Lib.hid (HFY.out.later hbn)
    have hb := bel_next hb hbn
    clear hbn HcR
    obtain ⟨f0, f1, f2, f3, f4⟩ := HFX.out
    obtain ⟨g0, g1, g2, g3, g4⟩ := HFY.out
    go_wp2_with fail
    refine (HcC.out _ hb).mono ?_
    rintro e V ⟨rfl, hbn⟩
    clear f0 f1 f2 f3 f4 g0 g1 g2 g3 g4
    have HFX := Lib.hid (HFX.out.later hbn)
    have HFY := Lib.hid (HFY.out.later hbn)
    have hb := bel_next hb hbn
    clear hbn HcC
    obtain ⟨f0, f1, f2, f3, f4⟩ := HFX.out
    obtain ⟨g0, g1, g2, g3, g4⟩ := HFY.out
    go_upto_region 7 with fail
    go_cut [11] (fun sv wx => sv = .bool (q && s) ∧ Below w.heap.size w wx ∧ Hid (FBox wx w.heap.size X) ∧ Hid (FBox wx (w.heap.size + 1) Y))
    case first =>
      cases q
      · go_wp2_with fail
        refine (HcQ.out _ hb).mono ?_
        rintro e V ⟨rfl, hbn⟩
        clear f0 f1 f2 f3 f4 g0 g1 g2 g3 g4
        have HFX := Lib.hid (HFX.out.later hbn)
        have HFY := Lib.hid (HFY.out.later hbn)
        have hb := bel_next hb hbn
        clear hbn HcQ
        obtain ⟨f0, f1, f2, f3, f4⟩ := HFX.out
        obtain ⟨g0, g1, g2, g3, g4⟩ := HFY.out
        go_wp2
        all_goals
          go_meet
          case rel => exact ⟨rfl, hb, HFX, HFY⟩
      · go_wp2_with fail
        refine (HcQ.out _ hb).mono ?_
        rintro e V ⟨rfl, hbn⟩
        clear f0 f1 f2 f3 f4 g0 g1 g2 g3 g4
        have HFX := Lib.hid (HFX.out.later hbn)
        have HFY := Lib.hid (HFY.out.later hbn)
        have hb := bel_next hb hbn
        clear hbn HcQ
        obtain ⟨f0, f1, f2, f3, f4⟩ := HFX.out
        obtain ⟨g0, g1, g2, g3, g4⟩ := HFY.out
        go_wp2_with fail
        refine (HcS.out _ hb).mono ?_
        rintro e V ⟨rfl, hbn⟩
        clear f0 f1 f2 f3 f4 g0 g1 g2 g3 g4
        have HFX := Lib.hid (HFX.out.later hbn)
        have HFY := Lib.hid (HFY.out.later hbn)
        have hb := bel_next hb hbn
        clear hbn HcS
        obtain ⟨f0, f1, f2, f3, f4⟩ := HFX.out
        obtain ⟨g0, g1, g2, g3, g4⟩ := HFY.out
        go_wp2
        all_goals
          go_meet
          case rel => exact ⟨by cases s <;> rfl, hb, HFX, HFY⟩
    case rest =>
      clear HcQ HcS hb HFX HFY f0 f1 f2 f3 f4 g0 g1 g2 g3 g4
      obtain ⟨rfl, hb, HFX, HFY⟩ := hcut
      obtain ⟨f0, f1, f2, f3, f4⟩ := HFX.out
      obtain ⟨g0, g1, g2, g3, g4⟩ := HFY.out
      have e7 : (q && s) = (s && q) := Bool.and_comm ..
      obtain ⟨b, hqs⟩ : ∃ b, (q && s) = b := ⟨_, rfl⟩
      rw [hqs] at HXY HYX ⊢
      clear hqs e7
      go_wp2_with fail
      refine (HXY.out _ hb).mono ?_
      rintro e V ⟨rfl, hbn⟩
      clear f0 f1 f2 f3 f4 g0 g1 g2 g3 g4
      have HFX := Lib.hid (HFX.out.later hbn)
      have HFY := Lib.hid (HFY.out.later hbn)
      have hb := bel_next hb hbn
      clear hbn HXY
      obtain ⟨f0, f1, f2, f3, f4⟩ := HFX.out
      obtain ⟨g0, g1, g2, g3, g4⟩ := HFY.out
      go_wp2_with fail
      refine (HYX.out _ hb).mono ?_
      rintro e V ⟨rfl, hbn⟩
      clear f0 f1 f2 f3 f4 g0 g1 g2 g3 g4
      have HFX := Lib.hid (HFX.out.later hbn)
      have HFY := Lib.hid (HFY.out.later hbn)
      have hb := bel_next hb hbn
      clear hbn HYX
      obtain ⟨f0, f1, f2, f3, f4⟩ := HFX.out
      obtain ⟨g0, g1, g2, g3, g4⟩ := HFY.out
      go_wp2_with fail
      refine (HXX.out _ hb).mono ?_
      rintro e V ⟨rfl, hbn⟩
      clear f0 f1 f2 f3 f4 g0 g1 g2 g3 g4
      have HFX := Lib.hid (HFX.out.later hbn)
      have HFY := Lib.hid (HFY.out.later hbn)
      have hb := bel_next hb hbn
      clear hbn HXX
      obtain ⟨f0, f1, f2, f3, f4⟩ := HFX.out
      obtain ⟨g0, g1, g2, g3, g4⟩ := HFY.out
      have hmx := Hlong.out
      obtain ⟨-, hmax⟩ := right_all (HX.out _ hb) HR.out
      rw [← hmx] at hmax
      clear hmx
      by_cases ha : a < 0
      · have HRd := Lib.hid (fun W (h : Below w.heap.size w W) => readF_arg X a n _ W (HX.out W h) (Nat.le_refl _) HN1.out HR.out (.inl ha))
        simp only [FileT.agg, PcT.val] at HRd
        generalize X.long = lo at *
        clear wa wn
        go_wp2_with fail
        refine (HRd.out _ hb).mono ?_
        rintro e V ⟨rfl, hbn⟩
        clear f0 f1 f2 f3 f4 g0 g1 g2 g3 g4
        have HFX := Lib.hid (HFX.out.later hbn)
        have HFY := Lib.hid (HFY.out.later hbn)
        have hb := bel_next hb hbn
        clear hbn HRd
        obtain ⟨f0, f1, f2, f3, f4⟩ := HFX.out
        obtain ⟨g0, g1, g2, g3, g4⟩ := HFY.out
        go_wp2_with fail
        refine (HcA.out _ hb).mono ?_
        rintro e V ⟨A, c, rfl, hO, hbn⟩
        clear f0 f1 f2 f3 f4 g0 g1 g2 g3 g4
        have HFX := Lib.hid (HFX.out.later hbn)
        have HFY := Lib.hid (HFY.out.later hbn)
        have hb := bel_next hb hbn
        have HO := Lib.hid hO
        clear hO
        clear hbn HcA
        obtain ⟨f0, f1, f2, f3, f4⟩ := HFX.out
        obtain ⟨g0, g1, g2, g3, g4⟩ := HFY.out
        go_wp2_with fail
        refine (HcL.out _ hb).mono ?_
        rintro e V ⟨rfl, hbn⟩
        clear f0 f1 f2 f3 f4 g0 g1 g2 g3 g4
        have HFX := Lib.hid (HFX.out.later hbn)
        have HFY := Lib.hid (HFY.out.later hbn)
        have hb := bel_next hb hbn
        clear hbn HcL
        obtain ⟨f0, f1, f2, f3, f4⟩ := HFX.out
        obtain ⟨g0, g1, g2, g3, g4⟩ := HFY.out
        go_wp2
        all_goals
          go_ret
          exact ⟨rfl, hb⟩
      · by_cases hn : n < 0
        · have HRd := Lib.hid (fun W (h : Below w.heap.size w W) => readF_arg X a n _ W (HX.out W h) (Nat.le_refl _) HN1.out HR.out (.inr hn))
          simp only [FileT.agg, PcT.val] at HRd
          have ha' : (a < 0) = False := by simp; omega
          clear ha wa wn
          generalize X.long = lo at *
          go_wp2_with fail
          refine (HRd.out _ hb).mono ?_
          rintro e V ⟨rfl, hbn⟩
          clear f0 f1 f2 f3 f4 g0 g1 g2 g3 g4
          have HFX := Lib.hid (HFX.out.later hbn)
          have HFY := Lib.hid (HFY.out.later hbn)
          have hb := bel_next hb hbn
          clear hbn HRd
          obtain ⟨f0, f1, f2, f3, f4⟩ := HFX.out
          obtain ⟨g0, g1, g2, g3, g4⟩ := HFY.out
          go_wp2_with fail
          refine (HcA.out _ hb).mono ?_
          rintro e V ⟨A, c, rfl, hO, hbn⟩
          clear f0 f1 f2 f3 f4 g0 g1 g2 g3 g4
          have HFX := Lib.hid (HFX.out.later hbn)
          have HFY := Lib.hid (HFY.out.later hbn)
          have hb := bel_next hb hbn
          have HO := Lib.hid hO
          clear hO
          clear hbn HcA
          obtain ⟨f0, f1, f2, f3, f4⟩ := HFX.out
          obtain ⟨g0, g1, g2, g3, g4⟩ := HFY.out
          go_wp2_with fail
          refine (HcL.out _ hb).mono ?_
          rintro e V ⟨rfl, hbn⟩
          clear f0 f1 f2 f3 f4 g0 g1 g2 g3 g4
          have HFX := Lib.hid (HFX.out.later hbn)
          have HFY := Lib.hid (HFY.out.later hbn)
          have hb := bel_next hb hbn
          clear hbn HcL
          obtain ⟨f0, f1, f2, f3, f4⟩ := HFX.out
          obtain ⟨g0, g1, g2, g3, g4⟩ := HFY.out
          go_wp2
          all_goals
            go_ret
            exact ⟨rfl, hb⟩
        · obtain ⟨k, rfl⟩ : ∃ k : Nat, a = (k : Int) := ⟨a.toNat, by omega⟩
          obtain ⟨m, rfl⟩ : ∃ k : Nat, n = (k : Int) := ⟨n.toNat, by omega⟩
          have ha' : ((k : Int) < 0) = False := by simp
          have hn' : ((m : Int) < 0) = False := by simp
          clear ha hn
          by_cases hs : X.long < k + m
          · have HRd := Lib.hid (fun W (h : Below w.heap.size w W) => readF_short X k m _ W (HX.out W h) (Nat.le_refl _) HN1.out HR.out wa wn hs)
            simp only [FileT.agg, PcT.val] at HRd
            clear wa wn
            generalize X.long = lo at *
            by_cases hk : lo < k
            · have h1 : ((lo : Int) < (k : Int)) = True := by simp; omega
              clear hk hs
              go_wp2_with fail
              refine (HRd.out _ hb).mono ?_
              rintro e V ⟨rfl, hbn⟩
              clear f0 f1 f2 f3 f4 g0 g1 g2 g3 g4
              have HFX := Lib.hid (HFX.out.later hbn)
              have HFY := Lib.hid (HFY.out.later hbn)
              have hb := bel_next hb hbn
              clear hbn HRd
              obtain ⟨f0, f1, f2, f3, f4⟩ := HFX.out
              obtain ⟨g0, g1, g2, g3, g4⟩ := HFY.out
              go_wp2_with fail
              refine (HcA.out _ hb).mono ?_
              rintro e V ⟨A, c, rfl, hO, hbn⟩
              clear f0 f1 f2 f3 f4 g0 g1 g2 g3 g4
              have HFX := Lib.hid (HFX.out.later hbn)
              have HFY := Lib.hid (HFY.out.later hbn)
              have hb := bel_next hb hbn
              have HO := Lib.hid hO
              clear hO
              clear hbn HcA
              obtain ⟨f0, f1, f2, f3, f4⟩ := HFX.out
              obtain ⟨g0, g1, g2, g3, g4⟩ := HFY.out
              go_wp2_with fail
              refine (HcL.out _ hb).mono ?_
              rintro e V ⟨rfl, hbn⟩
              clear f0 f1 f2 f3 f4 g0 g1 g2 g3 g4
              have HFX := Lib.hid (HFX.out.later hbn)
              have HFY := Lib.hid (HFY.out.later hbn)
              have hb := bel_next hb hbn
              clear hbn HcL
              obtain ⟨f0, f1, f2, f3, f4⟩ := HFX.out
              obtain ⟨g0, g1, g2, g3, g4⟩ := HFY.out
              go_wp2
              all_goals
                go_ret
                exact ⟨rfl, hb⟩
            · have h1 : ((lo : Int) < (k : Int)) = False := by simp; omega
              have h2 : ((lo : Int) - (k : Int) < (m : Int)) = True := by simp; omega
              have e1 : IntKind.i64.wrap ((lo : Int) - (k : Int)) = (lo : Int) - (k : Int) := by rw [IntKind.wrap_i64]; omega
              have e2 : wrap64 ((lo : Int) - (k : Int)) = (lo : Int) - (k : Int) := by unfold wrap64; omega
              clear hk hs
              go_wp2_with fail
              refine (HRd.out _ hb).mono ?_
              rintro e V ⟨rfl, hbn⟩
              clear f0 f1 f2 f3 f4 g0 g1 g2 g3 g4
              have HFX := Lib.hid (HFX.out.later hbn)
              have HFY := Lib.hid (HFY.out.later hbn)
              have hb := bel_next hb hbn
              clear hbn HRd
              obtain ⟨f0, f1, f2, f3, f4⟩ := HFX.out
              obtain ⟨g0, g1, g2, g3, g4⟩ := HFY.out
              go_wp2_with fail
              refine (HcA.out _ hb).mono ?_
              rintro e V ⟨A, c, rfl, hO, hbn⟩
              clear f0 f1 f2 f3 f4 g0 g1 g2 g3 g4
              have HFX := Lib.hid (HFX.out.later hbn)
              have HFY := Lib.hid (HFY.out.later hbn)
              have hb := bel_next hb hbn
              have HO := Lib.hid hO
              clear hO
              clear hbn HcA
              obtain ⟨f0, f1, f2, f3, f4⟩ := HFX.out
              obtain ⟨g0, g1, g2, g3, g4⟩ := HFY.out
              go_wp2_with fail
              refine (HcL.out _ hb).mono ?_
              rintro e V ⟨rfl, hbn⟩
              clear f0 f1 f2 f3 f4 g0 g1 g2 g3 g4
              have HFX := Lib.hid (HFX.out.later hbn)
              have HFY := Lib.hid (HFY.out.later hbn)
              have hb := bel_next hb hbn
              clear hbn HcL
              obtain ⟨f0, f1, f2, f3, f4⟩ := HFX.out
              obtain ⟨g0, g1, g2, g3, g4⟩ := HFY.out
              go_wp2
              all_goals
                go_ret
                exact ⟨rfl, hb⟩
          · have HRd := Lib.hid (fun W (h : Below w.heap.size w W) => readF_ok X k m _ W (HX.out W h) (Nat.le_refl _) HN1.out HR.out (by omega))
            simp only [FileT.agg, PcT.val] at HRd
            clear wa wn
            generalize X.long = lo at *
            have h1 : ((lo : Int) < (k : Int)) = False := by simp; omega
            have h2 : ((lo : Int) - (k : Int) < (m : Int)) = False := by simp; omega
            have e1 : IntKind.i64.wrap ((lo : Int) - (k : Int)) = (lo : Int) - (k : Int) := by rw [IntKind.wrap_i64]; omega
            have e2 : wrap64 ((lo : Int) - (k : Int)) = (lo : Int) - (k : Int) := by unfold wrap64; omega
            have e3 : IntKind.i64.wrap ((k : Int) + (m : Int)) = ((k + m : Nat) : Int) := by rw [IntKind.wrap_i64]; omega
            have e4 : wrap64 ((k : Int) + (m : Int)) = ((k + m : Nat) : Int) := by unfold wrap64; omega
            go_wp2_with fail
            refine (HRd.out _ hb).mono ?_
            rintro e V ⟨p, rfl, hpl, hpo, hbn, -⟩
            clear f0 f1 f2 f3 f4 g0 g1 g2 g3 g4
            have HFX := Lib.hid (HFX.out.later hbn)
            have HFY := Lib.hid (HFY.out.later hbn)
            have hb := bel_next hb hbn
            have HP := Lib.hid (And.intro hpl hpo)
            clear hpl hpo
            clear hbn HRd
            obtain ⟨f0, f1, f2, f3, f4⟩ := HFX.out
            obtain ⟨g0, g1, g2, g3, g4⟩ := HFY.out
            go_wp2_with fail
            refine (HcA.out _ hb).mono ?_
            rintro e V ⟨A, c, rfl, hO, hbn⟩
            clear f0 f1 f2 f3 f4 g0 g1 g2 g3 g4
            have HFX := Lib.hid (HFX.out.later hbn)
            have HFY := Lib.hid (HFY.out.later hbn)
            have hb := bel_next hb hbn
            obtain ⟨-, hlc, -⟩ := own_facts hO.out
            have HO := Lib.hid hO
            have HP := Lib.hid (And.intro HP.out.1 ((HP.out.2.later hbn).more hbn.size))
            clear hO
            clear hbn HcA
            obtain ⟨f0, f1, f2, f3, f4⟩ := HFX.out
            obtain ⟨g0, g1, g2, g3, g4⟩ := HFY.out
            go_wp2_with fail
            refine (HcL.out _ hb).mono ?_
            rintro e V ⟨rfl, hbn⟩
            clear f0 f1 f2 f3 f4 g0 g1 g2 g3 g4
            have HFX := Lib.hid (HFX.out.later hbn)
            have HFY := Lib.hid (HFY.out.later hbn)
            have hb := bel_next hb hbn
            have HO := Lib.hid (Bytes.below (Bytes.own HO.out.out) hbn)
            have HP := Lib.hid (And.intro HP.out.1 ((HP.out.2.later hbn).more hbn.size))
            clear hbn HcL
            obtain ⟨f0, f1, f2, f3, f4⟩ := HFX.out
            obtain ⟨g0, g1, g2, g3, g4⟩ := HFY.out
            have hct := (HO.out.first (show k + m ≤ lo by omega)).cut (k := k) (cap := c) (by omega) (by omega)
            rw [show k + m - k = m by omega] at hct
            have i1 : (k : Int) ≤ ((k + m : Nat) : Int) := by omega
            have i2 : ((k + m : Nat) : Int) ≤ (c : Int) := by omega
            have i3 : (0 : Int) ≤ (k : Int) := by omega
            by_cases hck : c = k
            · rw [if_pos hck] at hct
              subst hck
              have hc := fun cc => bequal_any p.A A p.n p.c m cc p.l _ _ _ V HP.out.2.here hct true (same_yes' HP.out.1)
              clear hct hs
              go_wp2_with fail
              refine (hc _).mono ?_
              rintro e V9 ⟨rfl, rfl⟩
              clear hc
              go_wp2
              all_goals
                go_ret
                exact ⟨rfl, hb⟩
            · rw [if_neg hck] at hct
              have hc := fun cc => bequal_any p.A _ p.n p.c m cc p.l _ _ _ V HP.out.2.here hct true (same_yes' HP.out.1)
              clear hct hs
              go_wp2_with fail
              refine (hc _).mono ?_
              rintro e V9 ⟨rfl, rfl⟩
              clear hc
              go_wp2
              all_goals
                go_ret
                exact ⟨rfl, hb⟩
end Go.Proofs.Ythoenmggjbojoaa
