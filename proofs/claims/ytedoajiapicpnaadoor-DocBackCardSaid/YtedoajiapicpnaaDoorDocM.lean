/-
  The reference of layer 19: revisions.
-/
import Derived.Test.YtedoajiapicpnaaDoorDocN
namespace Go.Proofs.YtedoajiapicpnaaDoor
open Go.RowKit
attribute [local go_sem ↓] Go.wp_at_zero Go.wp_at_succ

set_option maxHeartbeats 1000000 in
theorem is_any (g m : Nat) (w : World) :
    Calls Tryd.prog 16 #[revV g m] w fun e w' => e = .returned (.bool (possB g m)) ∧ Below w.heap.size w w' := by
  have hv : revV g m = .agg #[.int .u32 (g : Int), .int .u32 (m : Int)] := rfl
  rw [hv]
  clear hv
  by_cases hg : 0 < g
  · have Hr := Lib.hid (show possB g m = true by unfold possB; rw [decide_eq_true hg]; rfl)
    have hz : ((g : Int) != 0) = true := bne_iff_ne.2 (by omega)
    clear hg
    go_enter Tryd.func16, Tryd.ntmps16
    go_wp2
    go_ret
    exact ⟨by rw [Hr.out]; rfl, (Below.refl _ _).alloc (Nat.le_refl _) _⟩
  · have hg0 : g = 0 := by omega
    subst hg0
    clear hg
    by_cases hm : m = 0
    · subst hm
      go_enter Tryd.func16, Tryd.ntmps16
      go_wp2
      go_ret
      exact ⟨rfl, (Below.refl _ _).alloc (Nat.le_refl _) _⟩
    · have hmz : ((m : Int) == 0) = false := beq_eq_false_iff_ne.2 (by omega)
      have Hr := Lib.hid (show possB 0 m = false by unfold possB; rw [decide_eq_false hm]; rfl)
      clear hm
      go_enter Tryd.func16, Tryd.ntmps16
      go_wp2
      go_ret
      exact ⟨by rw [Hr.out]; rfl, (Below.refl _ _).alloc (Nat.le_refl _) _⟩

theorem next_at_once (m : Nat) (l : List UInt8) : Crc.more 0 (Crc.laid m ++ l) = nextM m l := by
  unfold nextM Crc.more
  have h := Crc.take_lt (Crc.laid m) (s := 4294967295 - 0) (by omega)
  rw [Crc.take_append, show 4294967295 - (4294967295 - Crc.take (4294967295 - 0) (Crc.laid m)) = Crc.take (4294967295 - 0) (Crc.laid m) by omega]

set_option maxRecDepth 20000 in
set_option maxHeartbeats 1000000 in
theorem refNext_any (g m : Nat) (A : Option Addr) (n c B : Nat) (l : List UInt8) (w : World) (hg : g < 4294967295) (hm : m < 4294967296) (h : Bytes w B A n l) (hB : B ≤ w.heap.size) (hn : n ≤ 100000) :
    Calls Tryd.prog 17 #[revV g m, .slice A n c] w fun e w' => e = .returned (revV (g + 1) (nextM m l)) ∧ Below w.heap.size w w' := by
  have hb0 := (((Below.refl w.heap.size w).alloc (Nat.le_refl _) (.cells #[.int .u32 (g : Int), .int .u32 (m : Int)] 28)).alloc (by simp) (.cells #[.int .u32 0, .int .u32 0] 28)).alloc (by simp; omega) (.cells #[] 5)
  have hb00 := (Below.refl ((w.alloc (.cells #[.int .u32 (g : Int), .int .u32 (m : Int)] 28)).alloc (.cells #[.int .u32 0, .int .u32 0] 28)).heap.size _).alloc (Nat.le_refl _) (.cells #[] 5)
  have hown0 := World.ownsRow_made (base := w.heap.size + 2) (e := 5) (size := 1) ((w.alloc (.cells #[.int .u32 (g : Int), .int .u32 (m : Int)] 28)).alloc (.cells #[.int .u32 0, .int .u32 0] 28)) #[] 0 (by simp) (Nat.zero_le _) rfl
  rw [show ((w.alloc (.cells #[.int .u32 (g : Int), .int .u32 (m : Int)] 28)).alloc (.cells #[.int .u32 0, .int .u32 0] 28)).heap.size = w.heap.size + 2 by simp] at hown0 hb00
  have hv : revV g m = .agg #[.int .u32 (g : Int), .int .u32 (m : Int)] := rfl
  rw [hv]
  clear hv
  obtain ⟨i0, hi, hz0, hz1, hz2⟩ := u8_info
  go_enter Tryd.func17, Tryd.ntmps17
  go_wp2_with fail
  refine (laid_any m _ hm).mono ?_
  rintro e w1 ⟨A1, n1, c1, rfl, hown1, hb1⟩
  have hq1 : Below (w.heap.size + 2) _ w1 := hb00.trans (hb1.mono (by simp))
  have hl1 := (Bytes.own hown1).len
  obtain rfl : n1 = 4 := by rw [← hl1]; rfl
  have hown0' := own_below hown0 hb1
  have hby1 := Bytes.own hown1
  have s1 := hq1.size
  simp at s1
  clear hown0 hown1 hl1
  go_wp2_with (at_builtin; refine wpList_append_shows _ rfl _ _ _ rfl (w.heap.size + 2) 5 i0 (.int .u8 0) 1 1 Tryd.underlying29 hi hz0 hz1 hz2 rfl (by decide) _ _ _ rfl hown0' w1.heap.size A1 4 c1 ((Crc.laid m).map bv) rfl hby1 (bv_one _) ?c3 ?c4 ?c5 ?_)
  case c3 => unfold maxLen; omega
  case c4 => omega
  case c5 => omega
  intro A2 c2 w2 hown2 _ hb2
  have hq2 := hq1.trans hb2
  have hB2 := ((h.below (hb0.mono hB)).below (hb1.mono (by simp; omega))).below (hb2.mono (by omega))
  clear hown0' hby1 h
  have s2 := hb2.size
  go_wp2_with (at_builtin; refine wpList_append_shows _ rfl _ _ _ rfl (w.heap.size + 2) 5 i0 (.int .u8 0) 1 1 Tryd.underlying29 hi hz0 hz1 hz2 rfl (by decide) _ _ _ rfl hown2 B A n c (l.map bv) rfl hB2 (bv_one _) ?c3 ?c4 ?c5 ?_)
  case c3 => unfold maxLen; omega
  case c4 => omega
  case c5 => omega
  intro A3 c3 w3 hown3 _ hb3
  rw [← List.map_append] at hown3
  have hq3 := hq2.trans hb3
  have hby3 := Lib.hid (Bytes.own hown3)
  have hbz := hb0.trans ((hb1.mono (by simp; omega)).trans ((hb2.trans hb3).mono (by omega)))
  have s3 := hb3.size
  obtain ⟨⟨c00, c01⟩, ⟨c02, c03⟩, f2, f3⟩ := two_new w _ _ _ _ _ _ (w1 := w3) (hq3.mono (by simp))
  clear hown2 hown3 hB2 hq1 hq2 hq3 hb00 hb0 hb1 hb2 hb3
  go_wp2
  go_region_held3 (fun w' => w'.cell? ⟨w.heap.size, 0, none⟩ = some (.int .u32 (g : Int))) ((first | assumption | (go_simp; done) | go_keep)) ((go_at_call 36; refine (refmore_any A3 (4 + n) c3 _ (Crc.laid m ++ l) 0 _ hby3.out.drew (by omega) (by unfold maxLen; omega)).mono ?_; rintro e w5 ⟨rfl, rfl⟩))
  go_wp2
  refine bodyPost_ret (v := .agg #[.int .u32 ((g : Int) + 1), .int .u32 (Crc.more 0 (Crc.laid m ++ l) : Int)]) ?_ rfl ⟨?_, ((hbz.drew).setCell (by show w.heap.size ≤ w.heap.size + 1; omega) _).setCell (by show w.heap.size ≤ w.heap.size + 1; omega) _⟩
  · simp [results, Tryd.results17, go_sem, *]
    rw [IntKind.wrap_u32]
    omega
  · rw [next_at_once]
    unfold revV
    rw [show ((g + 1 : Nat) : Int) = (g : Int) + 1 by omega]
end Go.Proofs.YtedoajiapicpnaaDoor
