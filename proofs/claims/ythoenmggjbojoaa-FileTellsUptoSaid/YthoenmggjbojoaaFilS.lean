/-
  Layer 10: Check.
-/
import Derived.Test.YthoenmggjbojoaaFilR
namespace Go.Proofs.Ythoenmggjbojoaa
open Go.RowKit
set_option linter.unusedVariables false

set_option maxRecDepth 20000 in
set_option maxHeartbeats 2000000 in
theorem checkF_any (X : FileT) (B : Nat) (w : World) (hL : LieF w B X) (hB : B ≤ w.heap.size) (hN : ∀ p ∈ X.Q, p.n ≤ 1048576) :
    Calls Try.prog 17 #[X.agg] w fun e w' => e = .returned (.int .i64 (if X.right = true then 0 else 200)) ∧ Below w.heap.size w w' := by
  have hb1 := bel_alloc (Below.refl w.heap.size w) (.cells #[.slice X.F.A X.F.n X.F.c, .slice X.lA X.ln X.lc, .int .i64 X.fuse, .int .i64 X.fault, .bool X.off] 25)
  obtain ⟨f0, f1, f2, f3, f4⟩ := FBox.new w X 25
  have Hco := Lib.hid (containsP_any X.lA X.ln X.lc B X.L (w.alloc (.cells #[.slice X.F.A X.F.n X.F.c, .slice X.lA X.ln X.lc, .int .i64 X.fuse, .int .i64 X.fault, .bool X.off] 25)) (hL.row.below (hb1.mono hB)) (Nat.le_trans hL.fits hL.most))
  have Hle := Lib.hid (length_any X B (w.alloc (.cells #[.slice X.F.A X.F.n X.F.c, .slice X.lA X.ln X.lc, .int .i64 X.fuse, .int .i64 X.fault, .bool X.off] 25)) (hL.later (hb1.mono hB)) (Nat.le_trans hB hb1.size) hN)
  have HRt := Lib.hid (right_hollow X)
  simp only [FileT.agg, PcT.val] at Hle ⊢
  generalize hollowB X.L = ho at *
  generalize X.right = rt at *
  generalize X.long = lo at *
  clear hL hN
  generalize X.fuse = fu at *
  generalize X.fault = fa at *
  generalize X.off = of at *
  go_enter Try.func17, Try.ntmps17
  go_wp2_with fail
  refine Hco.out.mono ?_
  rintro e W1 ⟨rfl, rfl⟩
  clear Hco
  by_cases c1 : fu < -1
  · have hr : rt = false := by rw [HRt.out, decide_eq_false (show ¬ -1 ≤ fu by omega)]; simp
    clear Hle
    go_wp2
    all_goals
      go_ret
      exact ⟨by first | rfl | (rw [hr]; rfl), hb1⟩
  · by_cases c2 : fa < -1
    · have hr : rt = false := by rw [HRt.out, decide_eq_false (show ¬ -1 ≤ fa by omega)]; simp
      clear Hle
      go_wp2
      all_goals
        go_ret
        exact ⟨by first | rfl | (rw [hr]; rfl), hb1⟩
    · have d1 : decide (-1 ≤ fu) = true := decide_eq_true (by omega)
      have d2 : decide (-1 ≤ fa) = true := decide_eq_true (by omega)
      cases of
      · cases ho
        · by_cases c5 : 524288 < lo
          · have hr : rt = false := by rw [HRt.out, decide_eq_false (show ¬ lo ≤ 524288 by omega)]; simp
            have hgt : ((524288 : Int) < (lo : Int)) = True := by simp; omega
            clear HRt d1 d2 c5
            go_wp2_with fail
            refine Hle.out.mono ?_
            rintro e W2 ⟨rfl, hb2⟩
            clear Hle
            go_wp2
            all_goals
              go_ret
              exact ⟨by first | rfl | (rw [hr]; rfl), bel_next hb1 hb2⟩
          · have hr : rt = true := by rw [HRt.out, d1, d2, decide_eq_true (show lo ≤ 524288 by omega)]; rfl
            have hgt : ((524288 : Int) < (lo : Int)) = False := by simp; omega
            clear HRt d1 d2 c5
            go_wp2_with fail
            refine Hle.out.mono ?_
            rintro e W2 ⟨rfl, hb2⟩
            clear Hle
            go_wp2
            all_goals
              go_ret
              exact ⟨by first | rfl | (rw [hr]; rfl), bel_next hb1 hb2⟩
        · have hr : rt = false := by rw [HRt.out]; rfl
          clear HRt d1 d2
          clear Hle
          go_wp2
          all_goals
            go_ret
            exact ⟨by first | rfl | (rw [hr]; rfl), hb1⟩
      · by_cases c3 : fu = -1
        · subst c3
          cases ho
          · by_cases c5 : 524288 < lo
            · have hr : rt = false := by rw [HRt.out, decide_eq_false (show ¬ lo ≤ 524288 by omega)]; simp
              have hgt : ((524288 : Int) < (lo : Int)) = True := by simp; omega
              clear HRt d1 d2 c5 c1
              go_wp2_with fail
              refine Hle.out.mono ?_
              rintro e W2 ⟨rfl, hb2⟩
              clear Hle
              go_wp2
              all_goals
                go_ret
                exact ⟨by first | rfl | (rw [hr]; rfl), bel_next hb1 hb2⟩
            · have hr : rt = true := by rw [HRt.out, d1, d2, decide_eq_true (show lo ≤ 524288 by omega)]; rfl
              have hgt : ((524288 : Int) < (lo : Int)) = False := by simp; omega
              clear HRt d1 d2 c5 c1
              go_wp2_with fail
              refine Hle.out.mono ?_
              rintro e W2 ⟨rfl, hb2⟩
              clear Hle
              go_wp2
              all_goals
                go_ret
                exact ⟨by first | rfl | (rw [hr]; rfl), bel_next hb1 hb2⟩
          · have hr : rt = false := by rw [HRt.out]; rfl
            clear HRt d1 d2 c1
            clear Hle
            go_wp2
            all_goals
              go_ret
              exact ⟨by first | rfl | (rw [hr]; rfl), hb1⟩
        · have hne : (fu == -1) = false := beq_eq_false_iff_ne.2 c3
          have hr : rt = false := by rw [HRt.out, hne]; simp
          clear HRt d1 d2
          clear Hle
          go_wp2
          all_goals
            go_ret
            exact ⟨by first | rfl | (rw [hr]; rfl), hb1⟩
end Go.Proofs.Ythoenmggjbojoaa
