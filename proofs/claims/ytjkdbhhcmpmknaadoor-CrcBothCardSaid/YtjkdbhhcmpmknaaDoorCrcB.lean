/-
  Package crc: Both.
-/
import Derived.Test.YtjkdbhhcmpmknaaDoorCrcZ
import Derived.Test.YtjkdbhhcmpmknaaDoorB64
namespace Go.Proofs.YtjkdbhhcmpmknaaDoor
open Go.RowKit

set_option maxRecDepth 100000 in
set_option maxHeartbeats 1000000 in
theorem both_neg (s t n : Int) (w : World) (hn : n < 0) :
    Calls Tryd.prog 18 #[.int .u32 s, .int .u32 t, .int .i64 n] w fun e w' => e = .returned (.int .u32 0) ∧ w = w' := by
  go_enter Tryd.func18, Tryd.ntmps18
  go_wp2
  go_step3
  go_wp2
  rw [Exit.noGoto_ret]
  go_ret
  exact ⟨rfl, rfl⟩

set_option maxRecDepth 100000 in
set_option maxHeartbeats 1000000 in
theorem both_any (s t n : Nat) (w : World) (hs : s < 4294967296) (ht : t < 4294967296) (hn : n < 9223372036854775808) :
    Calls Tryd.prog 18 #[.int .u32 (s : Int), .int .u32 (t : Int), .int .i64 (n : Int)] w fun e w' => e = .returned (.int .u32 ((Crc.stN (8 * n) s ^^^ t : Nat) : Int)) ∧ Below w.heap.size w w' := by
  have hu := Tryd.underlying46
  go_enter Tryd.func18, Tryd.ntmps18
  go_wp2
  go_step3
  go_wp2_with fail
  refine (zero_any w).mono ?_
  rintro e w1 ⟨⟨M, rfl, hM⟩, hb1⟩
  go_wp2_with (with_reducible refine wpList_store_mid (op := ⟨none, _, _, _, _, _⟩) rfl _ _ _ rfl w1.heap.size 0 M.toArray rfl rfl ?d1 ?d2 ?d3 ?_)
  case d1 => rw [show M.toArray.size = 32 by rw [List.size_toArray, hM.len]]; exact there_new _ (List.replicate 32 (.int .u32 0)).toArray _
  case d2 => rw [show M.toArray.size = 32 by rw [List.size_toArray, hM.len]]; exact opInfo
  case d3 => exact Array.all_eq_true_iff_forall_mem.2 (fun v hv => hM.one v (by simpa using hv))
  go_frame
  go_wp2
  go_step3
  go_wp2
  go_loopw [0, 2] (fun x i wr => ∃ (m u p : Nat) (M : List Value), m < 9223372036854775808 ∧ u < 4294967296 ∧ Hid (IsOp M (Crc.stN p)) ∧ Hid (Crc.stN (p * m) u = Crc.stN (8 * n) s) ∧ i = .int .i64 m ∧ x = .int .u32 u ∧ wr.rangeAt w1.heap.size 0 M ∧ wr.there w1.heap.size 0 32 ∧ Below w.heap.size w wr ∧ w1.heap.size < wr.heap.size) (fun _ i _ => (intOf i).toNat)
  case atStart =>
    refine ⟨n, s, 8, M, hn, hs, Lib.hid hM, Lib.hid rfl, rfl, rfl, ?_, ?_, ?_, ?_⟩
    · exact World.rangeAt_setCells_same _ _ _ _ (by rw [hM.len]; exact there_new _ (List.replicate 32 (.int .u32 0)).toArray _)
    · exact World.there_setCells (there_new _ (List.replicate 32 (.int .u32 0)).toArray _) _ _ _
    · exact below_cells (hb1.trans ((Below.refl _ _).alloc hb1.size _)) hb1.size _ _
    · have h := (below_cells (Below.refl w1.heap.size (w1.alloc (.cells (List.replicate 32 (.int .u32 0)).toArray 46))) (Nat.le_refl _) 0 M).size
      have e1 : (w1.alloc (.cells (List.replicate 32 (.int .u32 0)).toArray 46)).heap.size = w1.heap.size + 1 := by simp
      exact Nat.lt_of_lt_of_le (by omega) h
  case round =>
    clear hM
    obtain ⟨m, u, p, M, hm, hul, HM, HR, rfl, rfl, h1, h3, hb, hz⟩ := hrel
    by_cases h0 : m = 0
    · subst h0
      have hr : Crc.stN (8 * n) s = u := by rw [← HR.out, Nat.mul_zero]; rfl
      have Hr := Lib.hid hr
      clear hr
      have hx : bits .xor .u32 (u : Int) (t : Int) = ((u ^^^ t : Nat) : Int) := u32_xor_nat _ _ hul ht
      go_wp2
      rw [Exit.noGoto_ret]
      go_ret
      exact ⟨by rw [Hr.out]; rfl, hb⟩
    · have hz0 : ((m : Int) == 0) = false := by simp; omega
      have hinf : (Tryd.prog.info? 46).map (·.size) = some M.length := by rw [opInfo, HM.out.len]
      have hbw := hb1.size
      by_cases hodd : m % 2 = 1
      · have ha : (bits .and .i64 (m : Int) 1 == 1) = true := by rw [odd64 m hm, hodd]; rfl
        go_wp2_with (with_reducible refine wpList_load_mid (op := ⟨some 18, _, _, _, _, _⟩) rfl _ _ rfl w1.heap.size 0 rfl M _ h1 hu rfl hinf ?_)
        refine (apply_any M _ HM.out (Crc.Lin.stN _) u _ hul).mono ?_
        rintro e w3 ⟨rfl, rfl⟩
        have h1' := World.rangeAt_alloc h1 (.cells M.toArray 46)
        have h3' := World.there_alloc h3 (.cells M.toArray 46)
        go_wp2_with (with_reducible refine wpList_load_mid (op := ⟨some 23, _, _, _, _, _⟩) rfl _ _ rfl w1.heap.size 0 rfl M _ h1' hu rfl hinf ?_)
        refine (squared_any M _ HM.out (Crc.Lin.stN _) _).mono ?_
        rintro e w4 ⟨⟨N, rfl, hN⟩, hb4⟩
        have hz4 := hb4.size
        have h4 := there_below h3' hb4 (by simp; omega)
        have hsq : (fun s => Crc.stN p (Crc.stN p s)) = Crc.stN (p + p) := by
          funext s
          rw [← Crc.stN_add]
        have hN2 : IsOp N (Crc.stN (p + p)) := by rw [← hsq]; exact hN
        clear hsq hN
        go_wp2_with (with_reducible refine wpList_store_mid (op := ⟨none, _, _, _, _, _⟩) rfl _ _ _ rfl w1.heap.size 0 N.toArray rfl rfl ?d1 ?d2 ?d3 ?_)
        case d1 => rw [show N.toArray.size = 32 by rw [List.size_toArray, hN2.len]]; exact h4
        case d2 => rw [show N.toArray.size = 32 by rw [List.size_toArray, hN2.len]]; exact opInfo
        case d3 => exact Array.all_eq_true_iff_forall_mem.2 (fun v hv => hN2.one v (by simpa using hv))
        go_frame
        go_wp2
        go_roundw
        case rel =>
          refine ⟨m / 2, Crc.stN p u, p + p, N, by omega, Crc.stN_lt p hul, Lib.hid hN2, Lib.hid ?_, by simp, rfl, ?_, ?_, ?_, ?_⟩
          · rw [← HR.out, ← Crc.stN_add]
            congr 1
            conv => rhs; rw [show m = 2 * (m / 2) + 1 by omega]
            rw [Nat.mul_add, ← Nat.mul_assoc, Nat.mul_two]
            omega
          · exact World.rangeAt_setCells_same _ _ _ _ (by rw [hN2.len]; exact h4)
          · exact World.there_setCells h4 _ _ _
          · exact below_cells (((hb.alloc (by omega) _).trans (hb4.mono (by simp; omega)))) hbw _ _
          · have := (below_cells (Below.refl w1.heap.size w4) (Nat.le_refl _) 0 N).size
            have e1 : (wr.alloc (.cells M.toArray 46)).heap.size = wr.heap.size + 1 := by simp
            omega
        case measure => simp [intOf]; omega
      · have ha : (bits .and .i64 (m : Int) 1 == 1) = false := by rw [odd64 m hm, show m % 2 = 0 by omega]; rfl
        go_wp2_with (with_reducible refine wpList_load_mid (op := ⟨some 23, _, _, _, _, _⟩) rfl _ _ rfl w1.heap.size 0 rfl M _ h1 hu rfl hinf ?_)
        refine (squared_any M _ HM.out (Crc.Lin.stN _) _).mono ?_
        rintro e w4 ⟨⟨N, rfl, hN⟩, hb4⟩
        have hz4 := hb4.size
        have h4 := there_below h3 hb4 hz
        have hsq : (fun s => Crc.stN p (Crc.stN p s)) = Crc.stN (p + p) := by
          funext s
          rw [← Crc.stN_add]
        have hN2 : IsOp N (Crc.stN (p + p)) := by rw [← hsq]; exact hN
        clear hsq hN
        go_wp2_with (with_reducible refine wpList_store_mid (op := ⟨none, _, _, _, _, _⟩) rfl _ _ _ rfl w1.heap.size 0 N.toArray rfl rfl ?d1 ?d2 ?d3 ?_)
        case d1 => rw [show N.toArray.size = 32 by rw [List.size_toArray, hN2.len]]; exact h4
        case d2 => rw [show N.toArray.size = 32 by rw [List.size_toArray, hN2.len]]; exact opInfo
        case d3 => exact Array.all_eq_true_iff_forall_mem.2 (fun v hv => hN2.one v (by simpa using hv))
        go_frame
        go_wp2
        go_roundw
        case rel =>
          refine ⟨m / 2, u, p + p, N, by omega, hul, Lib.hid hN2, Lib.hid ?_, by simp, rfl, ?_, ?_, ?_, ?_⟩
          · rw [← HR.out]
            congr 1
            conv => rhs; rw [show m = 2 * (m / 2) + 0 by omega]
            rw [Nat.mul_add, ← Nat.mul_assoc, Nat.mul_two]
            omega
          · exact World.rangeAt_setCells_same _ _ _ _ (by rw [hN2.len]; exact h4)
          · exact World.there_setCells h4 _ _ _
          · exact below_cells ((hb.trans (hb4.mono (by omega)))) hbw _ _
          · have := (below_cells (Below.refl w1.heap.size w4) (Nat.le_refl _) 0 N).size
            omega
        case measure => simp [intOf]; omega
end Go.Proofs.YtjkdbhhcmpmknaaDoor
