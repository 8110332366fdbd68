import Derived.Test.YtnfohlabmidliaaGah
import Derived.Test.YtnfohlabmidliaaVApZ
import Derived.Test.YtnfohlabmidliaaGae
/-
  The reference: high.
-/
namespace Go.Proofs.Ytnfohlabmidliaa
open Go.RowKit
set_option linter.unusedVariables false

theorem nzeros_bv (n : Nat) : List.replicate n (Value.int .u8 0) = (List.replicate n (0 : UInt8)).map bv := by rw [List.map_replicate]; rfl
theorem nset_zeros (q : Nat) (x : UInt8) (T : List UInt8) : (List.replicate (q + 1) 0 ++ T).set q x = List.replicate q 0 ++ x :: T := by
  rw [List.replicate_succ', List.append_assoc, List.set_append_right _ _ (by simp), List.length_replicate, Nat.sub_self]
  rfl
set_option maxRecDepth 20000 in
set_option maxHeartbeats 2000000 in
theorem nhigh_any (x n : Nat) (w : World) (hx : x < 18446744073709551616) (hn : 1 ≤ n ∧ n ≤ 8) :
    Calls Try.prog 44 #[.int .u64 (x : Int), .int .i64 (n : Nat)] w (GivesBytes 5 (Nod.hiL x n) w) := by
  obtain ⟨i0, hi, hz0, hz1, hz2⟩ := u8_info
  have hmk := fun W => run_make_one (P := Try.prog) Try.underlying32 hi hz0 rfl hz1 .i64 .i64 (n : Int) (n : Int) (by omega) (by omega) (by rw [hz2]; omega) (by omega) W
  rw [Int.toNat_natCast] at hmk
  have ho := own_zeros (base := w.heap.size) (e := 5) w (.int .u8 0) n n (Nat.le_refl _) (Nat.le_refl _) (by unfold maxLen; omega)
  have hb1 := bel_alloc (Below.refl w.heap.size w) (.cells (madeCells #[.int .u8 0] n) 5)
  go_enter Try.func44, Try.ntmps44
  go_wp2
  generalize w.alloc (.cells (madeCells #[.int .u8 0] n) 5) = W1 at *
  obtain ⟨g, hg⟩ : ∃ g, w.heap.size = g := ⟨_, rfl⟩
  rw [hg] at ho ⊢
  have hgw : w.heap.size ≤ g := by omega
  have HO := Lib.hid (show W1.ownsRow w.heap.size 5 1 (.slice (some ⟨g, 0, none⟩) n n) n ((List.replicate (n - 0) (0 : UInt8) ++ []).map bv) by
    rw [hg, List.append_nil, Nat.sub_zero, ← nzeros_bv]
    exact ho)
  clear hmk ho hg
  go_loopw [0, 6] (fun xv iv wr => ∃ (j X : Nat) (z : Int) (T : List UInt8), j ≤ n ∧ xv = .int .u64 (X : Nat) ∧ iv = .int .i64 z ∧ Hid (z = (n : Int) - 1 - (j : Int)) ∧ Hid (Nod.hiL X (n - j) ++ T = Nod.hiL x n) ∧ X < 18446744073709551616 ∧ Hid (T.length = j) ∧ Hid (wr.ownsRow w.heap.size 5 1 (.slice (some ⟨g, 0, none⟩) n n) n ((List.replicate (n - j) 0 ++ T).map bv)) ∧ Below w.heap.size w wr) (fun _ iv _ => (intOf iv + 1).toNat)
  case atStart => exact ⟨0, x, (n : Int) - 1, [], by omega, rfl, rfl, Lib.hid (by omega), Lib.hid (by rw [List.append_nil, Nat.sub_zero]), hx, Lib.hid rfl, HO, hb1⟩
  case round =>
    clear HO hb1 hx
    obtain ⟨j, X, z, T, hj, rfl, rfl, HZ, HH, hX, HT, HO, hb⟩ := hrel
    by_cases hlt : j < n
    · obtain ⟨q, rfl⟩ : ∃ q : Nat, z = (q : Int) := ⟨z.toNat, by have := HZ.out; omega⟩
      have hqn : q < n := by have := HZ.out; omega
      have hq1 : n - j = q + 1 := by have := HZ.out; omega
      have ho2 := HO.out
      rw [hq1] at ho2
      obtain ⟨b', off, e', hb', hc⟩ := (Shows.own ho2).2 (by omega)
      injection e' with e'
      injection e' with e1 e2
      subst e1 e2
      have hcell : ∃ u, wr.cell? ⟨g, q, none⟩ = some u := by
        have := hc q ((List.replicate (q + 1) (0 : UInt8) ++ T).map bv)[q]! (by
          rw [List.getElem!_eq_getElem?_getD, List.getElem?_eq_getElem (by simp; omega)]
          rfl)
        rw [Nat.zero_add] at this
        exact ⟨_, this⟩
      obtain ⟨u, hu⟩ := hcell
      have hf := World.ownsRow.frozenAt ho2 q
      have hst := (World.ownsRow.stored ho2 q (bv (UInt8.ofNat X))).1
      rw [← List.map_set, nset_zeros] at hst
      have HST := Lib.hid hst
      have hbv := nu8_nat X
      have HBV := Lib.hid hbv
      have HH2 := Lib.hid (show Nod.hiL (X / 256) q ++ UInt8.ofNat X :: T = Nod.hiL x n by
        rw [← HH.out, hq1, Nod.hiL, List.append_assoc]
        rfl)
      have hX2 : X / 256 < 18446744073709551616 := by omega
      have hj1 : n - (j + 1) = q := by omega
      have HJ := Lib.hid hj1
      clear hst ho2 hc hb' HO HH hbv hq1 hj1
      go_wp2
      go_roundw
      case rel =>
        refine ⟨j + 1, X / 256, (q : Int) - 1, UInt8.ofNat X :: T, by omega, by first | rfl | (congr 1; omega), by first | rfl | go_num, Lib.hid (by have := HZ.out; omega), Lib.hid (by rw [HJ.out]; exact HH2.out), hX2, Lib.hid (by rw [List.length_cons, HT.out]), Lib.hid ?_, ?_⟩
        · rw [HJ.out, ← HBV.out]
          exact HST.out
        · rw [← HBV.out]
          exact hb.setCell hgw _
      case measure => simp [intOf]
    · have hjn : j = n := by omega
      have HF := Lib.hid (show T = Nod.hiL x n by rw [← HH.out, hjn, Nat.sub_self]; rfl)
      have HO2 := Lib.hid (show wr.ownsRow w.heap.size 5 1 (.slice (some ⟨g, 0, none⟩) n n) n (T.map bv) by
        have h := HO.out
        rw [hjn, Nat.sub_self] at h
        exact h)
      have hz : ¬ (0 ≤ z) := by have := HZ.out; omega
      clear hjn HO HH
      go_wp2
      go_ret
      exact ⟨_, n, n, rfl, by rw [← HF.out]; exact HO2.out, hb⟩
end Go.Proofs.Ytnfohlabmidliaa
