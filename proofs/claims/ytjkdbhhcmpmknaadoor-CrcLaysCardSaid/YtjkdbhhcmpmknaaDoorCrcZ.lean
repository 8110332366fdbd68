/-
  Package crc: zeroByte and Both.
-/
import Derived.Test.YtjkdbhhcmpmknaaDoorCrcO
namespace Go.Proofs.YtjkdbhhcmpmknaaDoor
open Go.RowKit
attribute [local go_sem ↓] Go.wp_at_zero Go.wp_at_succ

theorem range_below {w w' : World} {B b o : Nat} {cs : List Value} (h : w.rangeAt b o cs) (hb : Below B w w') (hlt : b < B) : w'.rangeAt b o cs := fun j v hv => (hb.cell (p := ⟨b, o + j, none⟩) hlt).trans (h j v hv)
theorem there_below {w w' : World} {B b o n : Nat} (h : w.there b o n) (hb : Below B w w') (hlt : b < B) : w'.there b o n := fun j hj => by
  rw [hb.cell (p := ⟨b, o + j, none⟩) hlt, hb.frozen (p := ⟨b, o + j, none⟩) hlt]
  exact h j hj

theorem st_pow (k : Nat) (h1 : 1 ≤ k) (h2 : k < 32) : (2 ^ (k - 1) % 4294967296 : Int) = (Crc.st (2 ^ k) : Int) := by
  have h : Crc.st (2 ^ k) = 2 ^ (k - 1) := by
    conv => lhs; rw [show k = (k - 1) + 1 by omega, Nat.pow_succ, Nat.mul_comm]
    exact Crc.st_double _
  have hl : (2 ^ (k - 1) : Nat) < 2 ^ 32 := Nat.pow_lt_pow_right (by decide) (by omega)
  rw [h]
  rw [show ((2 ^ (k - 1) : Nat) : Int) = (2 : Int) ^ (k - 1) by simp]
  have h3 : ((2 : Int) ^ (k - 1)) = ((2 ^ (k - 1) : Nat) : Int) := by simp
  rw [h3]
  omega
set_option maxRecDepth 100000 in
set_option maxHeartbeats 1000000 in
theorem zero_any (w : World) :
    Calls Tryd.prog 24 #[] w fun e w' => (∃ M : List Value, e = .returned (.agg M.toArray) ∧ IsOp M (Crc.stN 8)) ∧ Below w.heap.size w w' := by
  have hu := Tryd.underlying46
  go_enter Tryd.func24, Tryd.ntmps24
  go_wp2
  go_loopw [2] (fun i wr => ∃ (k : Nat) (M : List Value), 1 ≤ k ∧ k ≤ 32 ∧ Hid (M = mix Crc.st k) ∧ i = .int .i64 k ∧ wr.rangeAt (w.heap.size + 1) 0 M ∧ wr.there (w.heap.size + 1) 0 32 ∧ wr.there w.heap.size 0 32 ∧ Below w.heap.size w wr ∧ w.heap.size + 1 < wr.heap.size) (fun i _ => 32 - (intOf i).toNat)
  case atStart =>
    have e1 : ∀ o : Obj, (w.alloc o).heap.size = w.heap.size + 1 := fun o => by simp
    refine ⟨1, mix Crc.st 1, by omega, by omega, Lib.hid rfl, rfl, ?_, ?_, ?_, ?_, ?_⟩
    · exact range_at _ (.int .u32 2197175160 :: List.replicate 31 (.int .u32 0)) _ _ (e1 _)
    · exact there_at _ (.int .u32 2197175160 :: List.replicate 31 (.int .u32 0)).toArray _ _ (e1 _)
    · exact World.there_alloc (there_new _ (List.replicate 32 (.int .u32 0)).toArray _) _
    · exact ((Below.refl _ _).alloc (Nat.le_refl _) _).alloc (by simp) _
    · simp
  case round =>
    obtain ⟨k, M, hk1, hk, HM, rfl, h1, h3, h4, hb, hz⟩ := hrel
    by_cases hlt : k < 32
    · have hi0 : (0 : Int) ≤ (k : Int) := by omega
      have hi1 : (k : Int) < 32 := by omega
      have hi2 : (0 : Int) ≤ (k : Int) - 1 := by omega
      have hd := h1 k (.int .u32 0) (by rw [HM.out]; exact mix_at Crc.st hlt)
      have hfz := (h3 k hlt).2
      simp only [Nat.zero_add] at hd hfz
      go_wp2
      go_roundw
      case rel =>
        have hv : (2 ^ (k - 1) % 4294967296 : Int) = (Crc.st (2 ^ k) : Int) := st_pow k hk1 hlt
        rw [hv]
        refine ⟨k + 1, M.set k (.int .u32 (Crc.st (2 ^ k) : Int)), by omega, by omega, Lib.hid (by rw [HM.out]; exact mix_set Crc.st hlt), by go_num, range_set h1 k _, there_set h3 _ _, there_set h4 _ _, hb.setCell (p := ⟨w.heap.size + 1, k, none⟩) (by show w.heap.size ≤ w.heap.size + 1; omega) _, by rw [size_set]; exact hz⟩
      case measure => simp [intOf]; omega
    · have hk' : k = 32 := by omega
      have hM : IsOp M (Crc.stN (2 ^ 0)) := by rw [HM.out, hk']; exact mix_full _
      clear hk' HM
      obtain ⟨wo, rfl⟩ : ∃ wo : World, wo = wr := ⟨_, rfl⟩
      go_wp2
      go_loopw [13] (fun i w2 => ∃ (j : Nat) (M : List Value), j ≤ 3 ∧ Hid (IsOp M (Crc.stN (2 ^ j))) ∧ i = .int .i64 j ∧ w2.rangeAt (w.heap.size + 1) 0 M ∧ w2.there (w.heap.size + 1) 0 32 ∧ w2.there w.heap.size 0 32 ∧ Below w.heap.size w w2 ∧ w.heap.size + 1 < w2.heap.size) (fun i _ => 3 - (intOf i).toNat)
      case atStart => exact ⟨0, M, by omega, Lib.hid hM, rfl, h1, h3, h4, hb, hz⟩
      case round =>
        clear h1 h3 h4 hb hz hM
        obtain ⟨j, M, hj, HM, rfl, h1, h3, h4, hb, hz⟩ := hrel
        have hinf : (Tryd.prog.info? 46).map (·.size) = some M.length := by rw [opInfo, HM.out.len]
        by_cases hlt2 : j < 3
        · go_wp2_with (with_reducible refine wpList_load_mid (op := ⟨some 15, _, _, _, _, _⟩) rfl _ _ rfl (w.heap.size + 1) 0 rfl M _ h1 hu rfl hinf ?_)
          refine (squared_any M _ HM.out (Crc.Lin.stN _) _).mono ?_
          rintro e w3 ⟨⟨N, rfl, hN⟩, hb3⟩
          have h3' := there_below h3 hb3 hz
          go_wp2_with (with_reducible refine wpList_store_mid (op := ⟨none, _, _, _, _, _⟩) rfl _ _ _ rfl (w.heap.size + 1) 0 N.toArray rfl rfl ?d1 ?d2 ?d3 ?_)
          case d1 => rw [show N.toArray.size = 32 by rw [List.size_toArray, hN.len]]; exact h3'
          case d2 => rw [show N.toArray.size = 32 by rw [List.size_toArray, hN.len]]; exact opInfo
          case d3 => exact Array.all_eq_true_iff_forall_mem.2 (fun v hv => hN.one v (by simpa using hv))
          go_wp2
          go_roundw
          case rel =>
            refine ⟨j + 1, N, by omega, Lib.hid ?_, by go_num, ?_, ?_, ?_, ?_, ?_⟩
            · have : (fun s => Crc.stN (2 ^ j) (Crc.stN (2 ^ j) s)) = Crc.stN (2 ^ (j + 1)) := by
                funext s
                rw [← Crc.stN_add, Nat.pow_succ, Nat.mul_two]
              rw [← this]
              exact hN
            · exact World.rangeAt_setCells_same _ _ _ _ (by rw [hN.len]; exact h3')
            · exact World.there_setCells h3' _ _ _
            · exact World.there_setCells (there_below h4 hb3 (by omega)) _ _ _
            · exact below_cells (hb.trans (hb3.mono (by omega))) (by omega) _ _
            · have := (below_cells (Below.refl w.heap.size w3) (show w.heap.size ≤ w.heap.size + 1 by omega) 0 N).size
              have := hb3.size
              omega
          case measure => simp [intOf]; omega
        · have hj' : j = 3 := by omega
          have hM8 : IsOp M (Crc.stN 8) := by have := HM.out; rw [hj'] at this; exact this
          clear hj' HM
          go_wp2_with (first
            | (with_reducible refine wpList_load_mid (op := ⟨some 18, _, _, _, _, _⟩) rfl _ _ rfl (w.heap.size + 1) 0 rfl M _ h1 hu rfl hinf ?_)
            | (with_reducible refine wpList_store_mid (op := ⟨none, _, _, _, _, _⟩) rfl _ _ _ rfl w.heap.size 0 M.toArray rfl rfl ?d1 ?d2 ?d3 ?_))
          case d1 => rw [show M.toArray.size = 32 by rw [List.size_toArray, hM8.len]]; exact h4
          case d2 => rw [show M.toArray.size = 32 by rw [List.size_toArray, hM8.len]]; exact opInfo
          case d3 => exact Array.all_eq_true_iff_forall_mem.2 (fun v hv => hM8.one v (by simpa using hv))
          · go_wp2
            have hrg : (wr.setCells w.heap.size 0 M).rangeAt w.heap.size 0 M := World.rangeAt_setCells_same _ _ _ _ (by rw [hM8.len]; exact h4)
            refine bodyPost_ret (v := .agg M.toArray) ?_ rfl ⟨⟨M, rfl, hM8⟩, below_cells hb (Nat.le_refl _) _ _⟩
            have hrun := run_loadVar_mid (P := Tryd.prog) _ _ _ 46 M _ hrg hu rfl hinf
            simp only [results, Tryd.results24]
            simp [Act.put, asAddr, hrun]
end Go.Proofs.YtjkdbhhcmpmknaaDoor
