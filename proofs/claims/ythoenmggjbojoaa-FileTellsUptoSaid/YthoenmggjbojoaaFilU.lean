/-
  Layer 10: the reference's Right.
-/
import Derived.Test.YthoenmggjbojoaaFilS
namespace Go.Proofs.Ythoenmggjbojoaa
open Go.RowKit
set_option linter.unusedVariables false

set_option maxRecDepth 20000 in
set_option maxHeartbeats 4000000 in
theorem refRight_any (X : FileT) (B : Nat) (w : World) (hL : LieF w B X) (hB : B ≤ w.heap.size) (hN : ∀ p ∈ X.Q, p.n ≤ 1048576) :
    Calls Try.prog 16 #[X.agg] w fun e w' => e = .returned (.bool X.right) ∧ Below w.heap.size w w' := by
  have hb1 := bel_alloc (Below.refl w.heap.size w) (.cells #[.slice X.F.A X.F.n X.F.c, .slice X.lA X.ln X.lc, .int .i64 X.fuse, .int .i64 X.fault, .bool X.off] 25)
  obtain ⟨f0, f1, f2, f3, f4⟩ := FBox.new w X 25
  have Hle := Lib.hid (refLong_any X B (w.alloc (.cells #[.slice X.F.A X.F.n X.F.c, .slice X.lA X.ln X.lc, .int .i64 X.fuse, .int .i64 X.fault, .bool X.off] 25)) (hL.later (hb1.mono hB)) (Nat.le_trans hB hb1.size) hN)
  have HRt := Lib.hid (right_hollow X)
  have hln := Nat.le_trans hL.fits hL.most
  unfold maxLen at hln
  have Hrow := Lib.hid (hL.row.below (hb1.mono hB))
  have HlL := Lib.hid hL.len
  simp only [FileT.agg, PcT.val] at Hle ⊢
  generalize X.right = rt at *
  generalize X.long = lo at *
  clear hL hN
  generalize X.fuse = fu at *
  generalize X.fault = fa at *
  generalize X.off = of at *
  go_enter Try.func16, Try.ntmps16
  go_upto_region 1 with fail
  generalize (w.alloc (.cells #[.slice X.F.A X.F.n X.F.c, .slice X.lA X.ln X.lc, .int .i64 fu, .int .i64 fa, .bool of] 25)) = W1 at *
  go_wp2
  go_loopw [3] (fun i wr => ∃ j : Nat, j ≤ X.ln ∧ i = .int .i64 j ∧ Hid (∀ k p, k < j → X.L[k]? = some p → p.n ≠ 0) ∧ W1 = wr) (fun i _ => X.ln - (intOf i).toNat)
  case atStart => exact ⟨0, Nat.zero_le _, rfl, Lib.hid (fun k p hk => absurd hk (Nat.not_lt_zero k)), rfl⟩
  case round =>
    obtain ⟨j, hj, rfl, HN, rfl⟩ := hrel
    by_cases hlt : j < X.ln
    · obtain ⟨b, off, p, hA, _, hp, hc⟩ := pc_at Hrow.out hlt
      have hlt' : (j : Int) < X.ln := by omega
      rw [hA] at f1
      by_cases h0 : p.n = 0
      · have hr : rt = false := by rw [HRt.out, hollow_yes hp h0]; rfl
        have h1 : ((p.n : Int) == 0) = true := by rw [beq_iff_eq]; omega
        clear h0 hp HN Hrow HlL HRt
        clear Hle
        go_wp2
        all_goals
          go_ret
          exact ⟨by first | rfl | (rw [hr]; rfl), hb1⟩
      · have h1 : ((p.n : Int) == 0) = false := by rw [beq_eq_false_iff_ne]; omega
        have HN2 := Lib.hid (show ∀ k q, k < j + 1 → X.L[k]? = some q → q.n ≠ 0 from fun k q hk hq => by
          by_cases e : k = j
          · subst e
            rw [hp] at hq
            cases hq
            exact h0
          · exact HN.out k q (by omega) hq)
        clear h0 hp HN HRt
        go_wp2
        go_roundw
        case rel => exact ⟨j + 1, by omega, by go_num, HN2, by first | exact trivial | rfl⟩
        case measure => simp [intOf]; omega
    · obtain rfl : j = X.ln := by omega
      have hho : hollowB X.L = false := hollow_no fun k p hk hp => HN.out k p (by rw [HlL.out] at hk; exact hk) hp
      have HR2 := HRt.out
      rw [hho] at HR2
      have HRt := Lib.hid HR2
      clear HN Hrow HlL hho HR2
      by_cases c1 : fu < -1
      · have hr : rt = false := by rw [HRt.out, decide_eq_false (show ¬ -1 ≤ fu by omega)]; rfl
        clear Hle
        go_wp2
        all_goals
          go_ret
          exact ⟨by first | rfl | (rw [hr]; rfl), hb1⟩
      · by_cases c2 : fa < -1
        · have hr : rt = false := by rw [HRt.out, decide_eq_false (show ¬ -1 ≤ fa by omega)]; simp
          clear Hle
          go_wp2
          all_goals
            go_ret
            exact ⟨by first | rfl | (rw [hr]; rfl), hb1⟩
        · have d1 : decide (-1 ≤ fu) = true := decide_eq_true (by omega)
          have d2 : decide (-1 ≤ fa) = true := decide_eq_true (by omega)
          cases of
          · by_cases c5 : lo ≤ 524288
            · have hr : rt = true := by rw [HRt.out, d1, d2, decide_eq_true c5]; rfl
              have hgt : ((lo : Int) ≤ 524288) = True := by simp; omega
              clear HRt d1 d2 c5
              go_wp2_with fail
              refine Hle.out.mono ?_
              rintro e W2 ⟨rfl, hb2⟩
              clear Hle
              go_wp2
              all_goals
                go_ret
                exact ⟨by first | rfl | (rw [hr]; rfl), bel_next hb1 hb2⟩
            · have hr : rt = false := by rw [HRt.out, decide_eq_false c5]; simp
              have hgt : ((lo : Int) ≤ 524288) = False := by simp; omega
              clear HRt d1 d2 c5
              go_wp2_with fail
              refine Hle.out.mono ?_
              rintro e W2 ⟨rfl, hb2⟩
              clear Hle
              go_wp2
              all_goals
                go_ret
                exact ⟨by first | rfl | (rw [hr]; rfl), bel_next hb1 hb2⟩
          · by_cases c3 : fu = -1
            · subst c3
              by_cases c5 : lo ≤ 524288
              · have hr : rt = true := by rw [HRt.out, d1, d2, decide_eq_true c5]; rfl
                have hgt : ((lo : Int) ≤ 524288) = True := by simp; omega
                clear HRt d1 d2 c5 c1
                go_wp2_with fail
                refine Hle.out.mono ?_
                rintro e W2 ⟨rfl, hb2⟩
                clear Hle
                go_wp2
                all_goals
                  go_ret
                  exact ⟨by first | rfl | (rw [hr]; rfl), bel_next hb1 hb2⟩
              · have hr : rt = false := by rw [HRt.out, decide_eq_false c5]; simp
                have hgt : ((lo : Int) ≤ 524288) = False := by simp; omega
                clear HRt d1 d2 c5 c1
                go_wp2_with fail
                refine Hle.out.mono ?_
                rintro e W2 ⟨rfl, hb2⟩
                clear Hle
                go_wp2
                all_goals
                  go_ret
                  exact ⟨by first | rfl | (rw [hr]; rfl), bel_next hb1 hb2⟩
            · have hne : (fu == -1) = false := beq_eq_false_iff_ne.2 c3
              have hr : rt = false := by rw [HRt.out, hne]; simp
              clear HRt d1 d2
              clear Hle
              go_wp2
              all_goals
                go_ret
                exact ⟨by first | rfl | (rw [hr]; rfl), hb1⟩
end Go.Proofs.Ythoenmggjbojoaa
