/-
  Layer 9: the walk of CrcBoth.
-/
import Derived.Test.YtjkdbhhcmpmknaaDoorCrcK
import Derived.Test.YtjkdbhhcmpmknaaDoorFr
import Derived.Deep.RegionHeld3
import Derived.Deep.DrawnRows
namespace Go.Proofs.YtjkdbhhcmpmknaaDoor
open Go.RowKit
attribute [local go_sem ↓] Go.wp_at_zero Go.wp_at_succ

theorem take_zeros (n : Nat) : ∀ s : Nat, Crc.take s (List.replicate n 0) = Crc.stN (8 * n) s := by
  induction n with
  | zero => intro s; rfl
  | succ n ih =>
    intro s
    rw [List.replicate_succ, show 8 * (n + 1) = 8 + 8 * n by omega, Crc.stN_add, ← ih]
    show Crc.take (Crc.eat s 0) _ = _
    unfold Crc.eat
    rw [show s ^^^ (0 : UInt8).toNat = s from Nat.xor_zero s]
theorem bytes_zeros (w : World) (q : Nat) (t : TypeId) : Bytes (w.alloc (.cells (madeCells #[.int .u8 0] q) t)) (w.heap.size + 1) (some ⟨w.heap.size, 0, none⟩) q (List.replicate q 0) := by
  have h := bytes_new w (List.replicate q 0) (madeCells #[.int .u8 0] q) t (0, 0) (by rw [toList_madeCells_one]; simp [bv])
  rw [List.length_replicate] at h
  exact h

set_option maxRecDepth 100000 in
set_option maxHeartbeats 1000000 in
theorem crcBoth_walk (w : World) (s : Int) (ws : (Lit.int .u32 s).wf = true) (t : Int) (wt : (Lit.int .u32 t).wf = true) (n : Int) (wn : (Lit.int .i64 n).wf = true) (htab : Tab w) :
    Calls Tryd.prog 5 #[.int .u32 s, .int .u32 t, .int .i64 n] w fun e w' => e = .returned (.bool true) ∧ Below w.heap.size w w' := by
  obtain ⟨hs0, hs1⟩ := wf_u32 ws
  obtain ⟨s, rfl⟩ := Int.eq_ofNat_of_zero_le hs0
  obtain ⟨ht0, ht1⟩ := wf_u32 wt
  obtain ⟨t, rfl⟩ := Int.eq_ofNat_of_zero_le ht0
  obtain ⟨hn0, hn1⟩ := wf_i64 wn
  have hs : s < 4294967296 := by omega
  have ht : t < 4294967296 := by omega
  clear ws wt wn hs0 ht0 hs1 ht1
  by_cases hn : n < 0
  · go_enter Tryd.func5, Tryd.ntmps5
    go_wp2_with fail
    refine (wakes_any w htab).mono ?_
    rintro e w1 ⟨rfl, hb1⟩
    go_wp2_with fail
    refine (both_neg s t n _ hn).mono ?_
    rintro e w2 ⟨rfl, rfl⟩
    go_wp2
    go_ret
    exact ⟨rfl, hb1⟩
  · obtain ⟨n, rfl⟩ := Int.eq_ofNat_of_zero_le (show 0 ≤ n by omega)
    obtain ⟨i0, hi, hz0, hz1, hz2⟩ := u8_info
    obtain ⟨q, Hq, hq⟩ : ∃ q, Hid (q = n % 2000) ∧ q < 2000 := ⟨_, Lib.hid rfl, Nat.mod_lt _ (by decide)⟩
    have hmod : (n : Int) % 2000 = (q : Int) := by rw [Hq.out]; omega
    have hmk := fun W => run_make_one (P := Tryd.prog) Tryd.underlying23 hi hz0 rfl hz1 .i64 .i64 (q : Int) (q : Int) (by omega) (by omega) (by rw [hz2]; omega) (by omega) W
    rw [Int.toNat_natCast] at hmk
    have hlt := Crc.stN_lt (8 * q) hs
    clear hn0 hn1 hn
    have hx : bits .xor .u32 (Crc.stN (8 * q) s : Int) (t : Int) = ((Crc.stN (8 * q) s ^^^ t : Nat) : Int) := u32_xor_nat _ _ hlt ht
    go_enter Tryd.func5, Tryd.ntmps5
    go_wp2_with fail
    refine (wakes_any w htab).mono ?_
    rintro e w1 ⟨rfl, hb1⟩
    have s1 := hb1.size
    go_wp2_with fail
    go_region_held3 (fun w' => True) (trivial) (first
      | (go_at_call 18; refine (both_any s t q _ hs ht (by omega)).mono ?_; rintro e w2 ⟨rfl, hb2⟩)
      | (go_at_call 19; refine (take_any (some ⟨_, 0, none⟩) q q _ (List.replicate q 0) s _ (by first | exact bytes_zeros _ _ _ | exact Bytes.below (bytes_zeros _ _ _) ((below_undrew hb2).mono (Nat.le_of_eq (World.size_alloc _ _).symm))) hs (by unfold maxLen; omega)).mono ?_; rw [take_zeros]; rintro e w3 ⟨rfl, rfl⟩))
    all_goals
      go_wp2
      go_ret
      refine ⟨rfl, hb1.trans (Below.mono ?_ s1)⟩
    · first
        | exact ((Below.refl _ _).alloc (Nat.le_refl _) _).trans ((below_undrew hb2).mono (by simp))
        | exact (below_undrew hb2).alloc hb2.size _
    · first
        | exact ((Below.refl _ _).alloc (Nat.le_refl _) _).trans ((below_undrew hb2).mono (by simp))
        | exact (below_undrew hb2).alloc hb2.size _
end Go.Proofs.YtjkdbhhcmpmknaaDoor
