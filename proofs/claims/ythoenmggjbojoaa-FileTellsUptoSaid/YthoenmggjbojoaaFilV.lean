/-
  Layer 10: Len, and the reference's All.
-/
import Derived.Test.YthoenmggjbojoaaFilU
import Derived.Test.YthoenmggjbojoaaClone
import Derived.Test.YthoenmggjbojoaaAp
namespace Go.Proofs.Ythoenmggjbojoaa
open Go.RowKit
set_option linter.unusedVariables false

set_option maxRecDepth 20000 in
theorem lenF_any (X : FileT) (B : Nat) (w : World) (hL : LieF w B X) (hB : B ≤ w.heap.size) (hN : ∀ p ∈ X.Q, p.n ≤ 1048576) :
    Calls Try.prog 20 #[X.agg] w fun e w' => e = .returned (.int .i64 (if X.right = true then (X.long : Nat) else 0)) ∧ Below w.heap.size w w' := by
  have hb1 := bel_alloc (Below.refl w.heap.size w) (.cells #[.slice X.F.A X.F.n X.F.c, .slice X.lA X.ln X.lc, .int .i64 X.fuse, .int .i64 X.fault, .bool X.off] 25)
  have HX := FBox.new w X 25
  have hch := checkF_any X B _ (hL.later (hb1.mono hB)) (Nat.le_trans hB hb1.size) hN
  have Hle := Lib.hid (fun W (h : Below w.heap.size w W) => length_any X B W (hL.later (h.mono hB)) (Nat.le_trans hB h.size) hN)
  simp only [FileT.agg, PcT.val] at Hle hch ⊢
  generalize X.long = lo at *
  clear hL hN
  obtain ⟨f0, f1, f2, f3, f4⟩ := HX
  cases hr : X.right
  · rw [hr] at hch
    clear hr
    go_enter Try.func20, Try.ntmps20
    go_wp2_with fail
    refine hch.mono ?_
    rintro e W1 ⟨rfl, hb2⟩
    clear hch Hle
    go_wp2
    all_goals
      go_ret
      exact ⟨rfl, bel_next hb1 hb2⟩
  · rw [hr] at hch
    clear hr
    have HX := Lib.hid (FBox.new w X 25)
    go_enter Try.func20, Try.ntmps20
    go_wp2_with fail
    refine hch.mono ?_
    rintro e W1 ⟨rfl, hb2⟩
    have hb3 := bel_next hb1 hb2
    have hX2 := HX.out.later hb2
    clear hch HX f0 f1 f2 f3 f4
    obtain ⟨f0, f1, f2, f3, f4⟩ := hX2
    go_wp2_with fail
    refine (Hle.out _ hb3).mono ?_
    rintro e W2 ⟨rfl, hb4⟩
    clear Hle
    go_wp2
    all_goals
      go_ret
      exact ⟨rfl, bel_next hb3 hb4⟩
theorem sumN_take (L : List PcT) (k : Nat) : sumN (L.take k) ≤ sumN L := by
  have h : sumN L = sumN (L.take k) + sumN (L.drop k) := by
    unfold sumN
    rw [← List.sum_append, ← List.map_append, List.take_append_drop]
  omega
set_option maxRecDepth 20000 in
set_option maxHeartbeats 2000000 in
theorem refAll_any (X : FileT) (B : Nat) (w : World) (hL : LieF w B X) (hB : B ≤ w.heap.size) (hr : X.right = true) :
    Calls Try.prog 21 #[X.agg] w fun e w' => ∃ A c, e = .returned (.slice A X.long c) ∧ Hid (w'.ownsRow w.heap.size 5 1 (.slice A X.long c) X.long (X.all.map bv)) ∧ Below w.heap.size w w' := by
  obtain ⟨i0, hi, hz0, hz1, hz2⟩ := u8_info
  obtain ⟨hlong, hmax⟩ := right_all hL hr
  have hsum : X.all.length = X.F.n + sumN X.L := by unfold FileT.all; rw [List.length_append, hL.firm.len, sumN_len hL.loose]
  have hb1 := bel_alloc (Below.refl w.heap.size w) (.cells #[.slice X.F.A X.F.n X.F.c, .slice X.lA X.ln X.lc, .int .i64 X.fuse, .int .i64 X.fault, .bool X.off] 25)
  have HX := Lib.hid (FBox.new w X 25)
  have HL := Lib.hid (fun W (h : Below w.heap.size w W) => hL.later (h.mono hB))
  have hln := Nat.le_trans hL.fits hL.most
  unfold maxLen at hln
  have hMx : 600000 ≤ maxLen := by decide
  have Hlong := Lib.hid (show X.long = X.F.n + sumN X.L by rw [hlong, hsum])
  have hFn : X.F.n ≤ 524288 := by omega
  have Hsum := Lib.hid (show X.F.n + sumN X.L ≤ 524288 by omega)
  have HlL := Lib.hid hL.len
  clear hlong hmax hsum hr
  simp only [FileT.agg, PcT.val]
  go_enter Try.func21, Try.ntmps21
  go_upto_region 2 with fail
  generalize (w.alloc (.cells #[.slice X.F.A X.F.n X.F.c, .slice X.lA X.ln X.lc, .int .i64 X.fuse, .int .i64 X.fault, .bool X.off] 25)) = W1 at *
  obtain ⟨f0, f1, -⟩ := HX.out
  have hn0 := World.ownsRow_nil W1 W1.heap.size 5 1
  have hs0 := (HL.out W1 hb1).firm.here
  go_wp2_with (at_builtin; refine wpList_append_shows _ rfl _ _ 22 rfl W1.heap.size 5 i0 (.int .u8 0) 1 1 Try.underlying22 hi hz0 hz1 hz2 rfl (by decide) _ _ _ rfl hn0 B _ X.F.n _ (X.F.l.map bv) rfl hs0 (bv_one _) (by omega) (by omega) (Nat.le_refl _) ?_; intro A7 c7 w7 hown7 hgrow7 hb7; have hx7 : Below w.heap.size w w7 := bel_next hb1 hb7; have HO7 := Lib.hid hown7; clear hown7 hgrow7 hn0 hs0)
  have HO := Lib.hid (show w7.ownsRow W1.heap.size 5 1 (.slice A7 X.F.n c7) X.F.n ((X.F.l ++ joinP (X.L.take 0)).map bv) by simpa [joinP] using HO7.out)
  clear HO7 f0 f1
  go_wp2
  go_loopw [3, 4] (fun o i wr => ∃ (j m : Nat) (A : Option Addr) (c : Nat), j ≤ X.ln ∧ i = .int .i64 j ∧ o = .slice A m c ∧ Hid (m = X.F.n + sumN (X.L.take j)) ∧ Hid (wr.ownsRow W1.heap.size 5 1 (.slice A m c) m ((X.F.l ++ joinP (X.L.take j)).map bv)) ∧ Below W1.heap.size W1 wr) (fun _ i _ => X.ln - (intOf i).toNat)
  case atStart => exact ⟨0, X.F.n, A7, c7, Nat.zero_le _, rfl, by first | rfl | simp, Lib.hid (by simp [sumN]), HO, hb7⟩
  case round =>
    obtain ⟨j, m, A, c, hj, rfl, rfl, HM, HO, hbr⟩ := hrel
    rename World => wr
    clear hb7 hx7
    obtain ⟨f0, f1, -⟩ := HX.out.later hbr
    have hbw := bel_next hb1 hbr
    have hLr := HL.out wr hbw
    by_cases hlt : j < X.ln
    · obtain ⟨b, off, p, hA, _, hp, hc⟩ := pc_at hLr.row hlt
      have hs := (hLr.loose p (List.mem_of_getElem? hp)).here
      have hlt' : (j : Int) < X.ln := by omega
      have HM2 := Lib.hid (show m + p.n = X.F.n + sumN (X.L.take (j + 1)) by
        rw [HM.out]
        have : sumN (X.L.take (j + 1)) = sumN (X.L.take j) + p.n := by unfold sumN; rw [List.take_add_one, hp]; simp
        omega)
      have hle : m + p.n ≤ 524288 := by
        rw [HM2.out]
        have h1 := sumN_take X.L (j + 1)
        have := Hsum.out
        omega
      have HJ := Lib.hid (joinP_take hp)
      have hown := HO.out
      have hbs := hbr.size
      rw [hA] at f1
      clear hp HM HO hLr hA
      go_wp2_with (at_builtin; refine wpList_append_shows _ rfl _ _ 22 rfl W1.heap.size 5 i0 (.int .u8 0) 1 1 Try.underlying22 hi hz0 hz1 hz2 rfl (by decide) _ _ _ rfl hown B _ p.n _ (p.l.map bv) rfl hs (bv_one _) (by omega) (by omega) hbs ?_; intro A8 c8 w8 hown8 hgrow8 hb8; have HO8 := Lib.hid hown8; clear hown8 hgrow8 hown hs)
      go_roundw
      case rel => exact ⟨j + 1, m + p.n, A8, c8, by omega, by go_num, rfl, HM2, Lib.hid (by rw [HJ.out, ← List.append_assoc, List.map_append]; exact HO8.out), hbr.trans hb8⟩
      case measure => simp [intOf]; omega
    · obtain rfl : j = X.ln := by omega
      have htk : X.L.take X.ln = X.L := List.take_of_length_le (by rw [HlL.out]; exact Nat.le_refl _)
      have HM2 := Lib.hid (show m = X.long by rw [Hlong.out, HM.out, htk])
      have HO2 := Lib.hid (show wr.ownsRow W1.heap.size 5 1 (.slice A m c) m (X.all.map bv) by have h := HO.out; rw [htk] at h; exact h)
      clear HM HO htk hLr
      go_wp2
      go_ret
      exact ⟨A, c, by rw [← HM2.out]; rfl, Lib.hid (by rw [← HM2.out]; exact own_base HO2.out hb1.size), hbw⟩
end Go.Proofs.Ythoenmggjbojoaa
