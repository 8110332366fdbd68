/-
  Layer 19: few, and the reference's Bytes.
-/
import Derived.Test.YtedoajiapicpnaaDoorDocS
import Derived.Test.YtedoajiapicpnaaDoorDocD
namespace Go.Proofs.YtedoajiapicpnaaDoor
open Go.RowKit
attribute [local go_sem ↓] Go.wp_at_zero Go.wp_at_succ

set_option maxHeartbeats 1000000 in
theorem few_any (A : Option Addr) (n c B : Nat) (l : List UInt8) (w : World) (h : Bytes w B A n l) (hA : A = none → c = 0) (hB : B ≤ w.heap.size) (hn : n ≤ c) (hc : c ≤ maxLen) :
    Calls Tryd.prog 14 #[.slice A n c] w (GivesBytes 5 (l.take 300) w) := by
  unfold maxLen at hc
  by_cases h4 : n ≤ 300
  · have hl : l.take 300 = l := List.take_of_length_le (by rw [h.len]; exact h4)
    rw [hl]
    clear hl
    have hm : min (n : Int) 300 = (n : Int) := by omega
    go_enter Tryd.func14, Tryd.ntmps14
    go_wp2_with fail
    refine (clone_any A n c l B _ h hA hB (by omega)).mono ?_
    rintro e w1 ⟨A1, n1, c1, rfl, hown, hb⟩
    go_wp2
    go_ret
    exact ⟨A1, n1, c1, rfl, hown, hb⟩
  · have hm : min (n : Int) 300 = 300 := by omega
    have h5 := h.first (k := 300) (by omega)
    go_enter Tryd.func14, Tryd.ntmps14
    go_wp2_with fail
    refine (clone_any A 300 c (l.take 300) B _ h5 hA hB (by omega)).mono ?_
    rintro e w1 ⟨A1, n1, c1, rfl, hown, hb⟩
    go_wp2
    go_ret
    exact ⟨A1, n1, c1, rfl, hown, hb⟩


/-- The reference's Bytes, an append a step. -/
theorem enc_high (g m s : Nat) (d : Bool) (a : Nat) : encL g m s d a = highL g 4 ++ highL m 4 ++ highL s 8 ++ [if d then 1 else 0] ++ highL a 4 := by
  unfold encL
  rw [highL_num, highL_num, highL_num, highL_num]
  cases d <;> rfl

set_option maxRecDepth 20000 in
set_option maxHeartbeats 1000000 in
theorem refBytes_any (g m s : Nat) (d : Bool) (a : Nat) (w : World) (hg : g < 4294967296) (hm : m < 4294967296) (hs : s < 18446744073709551616) (ha : a < 524288) :
    Calls Tryd.prog 25 #[infoV g m s d (a : Int)] w (GivesBytes 5 (encL g m s d a) w) := by
  have Hs := Lib.hid hs
  clear hs
  have hb0 := ((Below.refl w.heap.size w).alloc (Nat.le_refl _) (.cells #[.int .u32 (g : Int), .int .u32 (m : Int), .int .u64 (s : Int), .bool d, .int .i64 (a : Int)] 46)).alloc (by simp) (.cells #[] 5)
  have hown0 := World.ownsRow_made (base := w.heap.size + 1) (e := 5) (size := 1) (w.alloc (.cells #[.int .u32 (g : Int), .int .u32 (m : Int), .int .u64 (s : Int), .bool d, .int .i64 (a : Int)] 46)) #[] 0 (by simp) (Nat.zero_le _) rfl
  have hq0 := Below.refl (w.heap.size + 1) ((w.alloc (.cells #[.int .u32 (g : Int), .int .u32 (m : Int), .int .u64 (s : Int), .bool d, .int .i64 (a : Int)] 46)).alloc (.cells #[] 5))
  rw [show (w.alloc (.cells #[.int .u32 (g : Int), .int .u32 (m : Int), .int .u64 (s : Int), .bool d, .int .i64 (a : Int)] 46)).heap.size = w.heap.size + 1 by simp] at hown0
  have hv : infoV g m s d (a : Int) = .agg #[.int .u32 (g : Int), .int .u32 (m : Int), .int .u64 (s : Int), .bool d, .int .i64 (a : Int)] := rfl
  rw [hv]
  clear hv
  obtain ⟨i0, hi, hz0, hz1, hz2⟩ := u8_info
  go_enter Tryd.func25, Tryd.ntmps25
  go_wp2_with fail
  refine (high_any 4 g _ (by omega) (by omega)).mono ?_
  rintro e u1 ⟨B1, m1, k1, rfl, op1, hp1⟩
  obtain rfl : m1 = 4 := by have e1 := op1.1; rw [List.length_map, highL_length] at e1; omega
  have oo1 := own_below hown0 hp1
  have by1 := Bytes.own op1
  have s1 := hq0.size
  have z1 := hp1.size
  simp at s1 z1
  have hq1a := hq0.trans (hp1.mono (by simp))
  clear op1
  go_wp2_with (at_builtin; refine wpList_append_shows _ rfl _ _ _ rfl (w.heap.size + 1) 5 i0 (.int .u8 0) 1 1 Tryd.underlying29 hi hz0 hz1 hz2 rfl (by decide) _ _ _ rfl oo1 u1.heap.size B1 4 k1 ((highL g 4).map bv) rfl by1 (bv_one _) ?c3 ?c4 ?c5 ?_)
  case c3 => unfold maxLen; omega
  case c4 => omega
  case c5 => omega
  intro A1 c1 w1 own1 _ hb1
  have hq1 := hq1a.trans hb1
  obtain ⟨cc0, cc1, cc2, cc3, cc4⟩ := five_new w _ _ _ _ _ _ _ (w1 := w1) (hq1.mono (by simp))
  clear oo1 by1 hq1a hb1 hp1 s1 z1
  go_wp2_with fail
  refine (high_any 4 m _ (by omega) (by omega)).mono ?_
  rintro e u2 ⟨B2, m2, k2, rfl, op2, hp2⟩
  obtain rfl : m2 = 4 := by have e1 := op2.1; rw [List.length_map, highL_length] at e1; omega
  have oo2 := own_below own1 hp2
  have by2 := Bytes.own op2
  have s2 := hq1.size
  simp at s2
  have z2 := hp2.size
  have hq2a := hq1.trans (hp2.mono (by omega))
  clear op2
  go_wp2_with (at_builtin; refine wpList_append_shows _ rfl _ _ _ rfl (w.heap.size + 1) 5 i0 (.int .u8 0) 1 1 Tryd.underlying29 hi hz0 hz1 hz2 rfl (by decide) _ _ _ rfl oo2 u2.heap.size B2 4 k2 ((highL m 4).map bv) rfl by2 (bv_one _) ?c3 ?c4 ?c5 ?_)
  case c3 => unfold maxLen; omega
  case c4 => omega
  case c5 => omega
  intro A2 c2 w2 own2 _ hb2
  rw [← List.map_append] at own2
  have hq2 := hq2a.trans hb2
  obtain ⟨cc0, cc1, cc2, cc3, cc4⟩ := five_new w _ _ _ _ _ _ _ (w1 := w2) (hq2.mono (by simp))
  clear oo2 by2 hq2a hb2 hp2 s2 z2
  go_wp2_with fail
  refine (high_any 8 s _ (by omega) Hs.out).mono ?_
  rintro e u3 ⟨B3, m3, k3, rfl, op3, hp3⟩
  obtain rfl : m3 = 8 := by have e1 := op3.1; rw [List.length_map, highL_length] at e1; omega
  have oo3 := own_below own2 hp3
  have by3 := Bytes.own op3
  have s3 := hq2.size
  simp at s3
  have z3 := hp3.size
  have hq3a := hq2.trans (hp3.mono (by omega))
  clear op3
  go_wp2_with (at_builtin; refine wpList_append_shows _ rfl _ _ _ rfl (w.heap.size + 1) 5 i0 (.int .u8 0) 1 1 Tryd.underlying29 hi hz0 hz1 hz2 rfl (by decide) _ _ _ rfl oo3 u3.heap.size B3 8 k3 ((highL s 8).map bv) rfl by3 (bv_one _) ?c3 ?c4 ?c5 ?_)
  case c3 => unfold maxLen; omega
  case c4 => omega
  case c5 => omega
  intro A3 c3 w3 own3 _ hb3
  rw [← List.map_append] at own3
  have hq3 := hq3a.trans hb3
  obtain ⟨cc0, cc1, cc2, cc3, cc4⟩ := five_new w _ _ _ _ _ _ _ (w1 := w3) (hq3.mono (by simp))
  clear oo3 by3 hq3a hb3 hp3 s3 z3
  cases d
  · have s4 := hq3.size
    simp at s4
    go_wp2_with (at_builtin; refine wpList_append_shows _ rfl _ _ _ rfl (w.heap.size + 1) 5 i0 (.int .u8 0) 1 1 Tryd.underlying29 hi hz0 hz1 hz2 rfl (by decide) _ _ _ rfl (own3.alloc _) (w3.heap.size + 1) _ 1 1 [bv 0] rfl (by exact bytes_new w3 [0] _ _ _ rfl) (bv_one [0]) ?c3 ?c4 ?c5 ?_)
    case c3 => unfold maxLen; omega
    case c4 => omega
    case c5 => simp; omega
    intro A4 c4 w4 own4 _ hb4
    rw [show [bv 0] = ([0] : List UInt8).map bv from rfl, ← List.map_append] at own4
    have hq4 := (hq3.alloc (by omega) (.cells #[bv 0] 5)).trans hb4
    obtain ⟨cc0, cc1, cc2, cc3, cc4⟩ := five_new w _ _ _ _ _ _ _ (w1 := w4) (hq4.mono (by simp))
    clear hb4 s4
    go_wp2_with fail
    refine (high_any 4 a _ (by omega) (by omega)).mono ?_
    rintro e u5 ⟨B5, m5, k5, rfl, op5, hp5⟩
    obtain rfl : m5 = 4 := by have e1 := op5.1; rw [List.length_map, highL_length] at e1; omega
    have oo5 := own_below own4 hp5
    have by5 := Bytes.own op5
    have s5 := hq4.size
    simp at s5
    have z5 := hp5.size
    have hq5a := hq4.trans (hp5.mono (by omega))
    clear op5
    go_wp2_with (at_builtin; refine wpList_append_shows _ rfl _ _ _ rfl (w.heap.size + 1) 5 i0 (.int .u8 0) 1 1 Tryd.underlying29 hi hz0 hz1 hz2 rfl (by decide) _ _ _ rfl oo5 u5.heap.size B5 4 k5 ((highL a 4).map bv) rfl by5 (bv_one _) ?c3 ?c4 ?c5 ?_)
    case c3 => unfold maxLen; omega
    case c4 => omega
    case c5 => omega
    intro A5 c5 w5 own5 _ hb5
    have hq5 := hq5a.trans hb5
    obtain ⟨cc0, cc1, cc2, cc3, cc4⟩ := five_new w _ _ _ _ _ _ _ (w1 := w5) (hq5.mono (by simp))
    clear oo5 by5 hq5a hb5 hp5 s5 z5
    have hbz := hb0.trans (hq5.mono (Nat.le_succ _))
    clear cc0 cc1 cc2 cc3 cc4 hq0 hq1 hq2 hq3 hq4 hq5 hb0 hown0 own1 own2 own3 own4
    have Hown := Lib.hid own5
    clear own5
    go_wp2
    go_ret
    refine ⟨A5, 21, c5, by simp, ?_, hbz⟩
    rw [enc_high]
    refine own_base (base := w.heap.size + 1) ?_ (by omega)
    simpa using Hown.out
  · have s4 := hq3.size
    simp at s4
    go_wp2_with (at_builtin; refine wpList_append_shows _ rfl _ _ _ rfl (w.heap.size + 1) 5 i0 (.int .u8 0) 1 1 Tryd.underlying29 hi hz0 hz1 hz2 rfl (by decide) _ _ _ rfl (own3.alloc _) (w3.heap.size + 1) _ 1 1 [bv 1] rfl (by exact bytes_new w3 [1] _ _ _ rfl) (bv_one [1]) ?c3 ?c4 ?c5 ?_)
    case c3 => unfold maxLen; omega
    case c4 => omega
    case c5 => simp; omega
    intro A4 c4 w4 own4 _ hb4
    rw [show [bv 1] = ([1] : List UInt8).map bv from rfl, ← List.map_append] at own4
    have hq4 := (hq3.alloc (by omega) (.cells #[bv 1] 5)).trans hb4
    obtain ⟨cc0, cc1, cc2, cc3, cc4⟩ := five_new w _ _ _ _ _ _ _ (w1 := w4) (hq4.mono (by simp))
    clear hb4 s4
    go_wp2_with fail
    refine (high_any 4 a _ (by omega) (by omega)).mono ?_
    rintro e u5 ⟨B5, m5, k5, rfl, op5, hp5⟩
    obtain rfl : m5 = 4 := by have e1 := op5.1; rw [List.length_map, highL_length] at e1; omega
    have oo5 := own_below own4 hp5
    have by5 := Bytes.own op5
    have s5 := hq4.size
    simp at s5
    have z5 := hp5.size
    have hq5a := hq4.trans (hp5.mono (by omega))
    clear op5
    go_wp2_with (at_builtin; refine wpList_append_shows _ rfl _ _ _ rfl (w.heap.size + 1) 5 i0 (.int .u8 0) 1 1 Tryd.underlying29 hi hz0 hz1 hz2 rfl (by decide) _ _ _ rfl oo5 u5.heap.size B5 4 k5 ((highL a 4).map bv) rfl by5 (bv_one _) ?c3 ?c4 ?c5 ?_)
    case c3 => unfold maxLen; omega
    case c4 => omega
    case c5 => omega
    intro A5 c5 w5 own5 _ hb5
    have hq5 := hq5a.trans hb5
    obtain ⟨cc0, cc1, cc2, cc3, cc4⟩ := five_new w _ _ _ _ _ _ _ (w1 := w5) (hq5.mono (by simp))
    clear oo5 by5 hq5a hb5 hp5 s5 z5
    have hbz := hb0.trans (hq5.mono (Nat.le_succ _))
    clear cc0 cc1 cc2 cc3 cc4 hq0 hq1 hq2 hq3 hq4 hq5 hb0 hown0 own1 own2 own3 own4
    have Hown := Lib.hid own5
    clear own5
    go_wp2
    go_ret
    refine ⟨A5, 21, c5, by simp, ?_, hbz⟩
    rw [enc_high]
    refine own_base (base := w.heap.size + 1) ?_ (by omega)
    simpa using Hown.out
end Go.Proofs.YtedoajiapicpnaaDoor
