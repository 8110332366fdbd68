/-
  Layer 19: the walk of DocOnce.
-/
import Derived.Test.YtedoajiapicpnaaDoorDocCodes
import Derived.Test.YtedoajiapicpnaaDoorDocGrows
import Derived.Test.YtedoajiapicpnaaDoorDocJ
namespace Go.Proofs.YtedoajiapicpnaaDoor
open Go.RowKit
attribute [local go_sem ↓] Go.wp_at_zero Go.wp_at_succ

set_option maxRecDepth 100000 in
set_option maxHeartbeats 2000000 in
theorem docOnce_walk (w : World) (g m s : Nat) (d : Bool) (a : Int) (hg : g < 4294967296) (hm : m < 4294967296) (hs : s < 18446744073709551616) (_ : (Lit.int .i64 a).wf = true) (A : Option Addr) (n c : Nat) (l : List UInt8) (h : Bytes w w.heap.size A n l) (hA : A = none → c = 0) (hn : n ≤ c) (hc : c ≤ maxLen) (htab : Tab w) :
    Calls Tryd.prog 9 #[.agg #[.int .u32 (g : Int), .int .u32 (m : Int), .int .u64 (s : Int), .bool d, .int .i64 a], .slice A n c] w fun e w' => e = .returned (.bool true) ∧ Below w.heap.size w w' := by
  by_cases hv : validB g s d a = true
  · obtain ⟨n0, hn0, hn1⟩ := valid_nat g s d a hv
    subst hn0
    obtain ⟨hd1, hd2, hd3⟩ := dec_enc g m s d n0 hg hm hs (by omega) hv
    have Hv := Lib.hid hv
    have HdV := Lib.hid (show decV (encL g m s d n0) = .agg #[.int .u32 (g : Int), .int .u32 (m : Int), .int .u64 (s : Int), .bool d, .int .i64 (n0 : Int)] from hd2)
    have HdE := Lib.hid hd3
    have HsE := Lib.hid (show decE ((encL g m s d n0).take 20) = 6 by
      have hl : ((encL g m s d n0).take 20).length = 20 := by rw [List.length_take, encL_length]; rfl
      unfold decE
      rw [if_neg (by unfold decB; rw [hl]; simp), if_pos (by omega)])
    have HlE := Lib.hid (show decE (encL g m s d n0 ++ [0]) = 292 by
      have hl : (encL g m s d n0 ++ [0]).length = 22 := by rw [List.length_append, encL_length]; rfl
      unfold decE
      rw [if_neg (by unfold decB; rw [hl]; simp), if_neg (by omega)])
    obtain ⟨u0, u1, u2, u3, u4, hsv, _⟩ := dec_cases ((encL g m s d n0).take 20)
    obtain ⟨v0, v1, v2, v3, v4, hlv, _⟩ := dec_cases (encL g m s d n0 ++ [0])
    have HsV := Lib.hid hsv
    have HlV := Lib.hid hlv
    have hel := encL_length g m s d n0
    clear hv hd1 hd2 hd3 hsv hlv
    go_enter Tryd.func9, Tryd.ntmps9
    go_wp2_with fail
    refine (wakes_any _ (htab.alloc _)).mono ?_
    rintro e w1 ⟨rfl, hb1⟩
    have o0 : w1.cell? ⟨w.heap.size, 0, none⟩ = some (.int .u32 (g : Int)) := new_later hb1 0 rfl
    have o1 : w1.cell? ⟨w.heap.size, 1, none⟩ = some (.int .u32 (m : Int)) := new_later hb1 1 rfl
    have o2 : w1.cell? ⟨w.heap.size, 2, none⟩ = some (.int .u64 (s : Int)) := new_later hb1 2 rfl
    have o3 : w1.cell? ⟨w.heap.size, 3, none⟩ = some (.bool d) := new_later hb1 3 rfl
    have o4 : w1.cell? ⟨w.heap.size, 4, none⟩ = some (.int .i64 (n0 : Int)) := new_later hb1 4 rfl
    have hb01 := ((Below.refl w.heap.size w).alloc (Nat.le_refl _) (.cells #[.int .u32 (g : Int), .int .u32 (m : Int), .int .u64 (s : Int), .bool d, .int .i64 (n0 : Int)] 46)).trans (hb1.mono (by simp))
    have s1 := hb01.size
    clear hb1
    go_wp2_with fail
    refine (Encode_yes g m s d n0 _ hg hm hn1 Hv.out).mono ?_
    rintro e w2 ⟨A1, n1, c1, rfl, hown1, hb2⟩
    generalize hq : encL g m s d n0 = q at *
    clear hq
    have hl2 : Bytes w2 w2.heap.size A1 n1 q := Bytes.own hown1
    obtain ⟨hlq, hc1, hc1'⟩ := gives_len hown1
    obtain rfl : n1 = 21 := by omega
    have o0 := kept_later hb2 o0
    have o1 := kept_later hb2 o1
    have o2 := kept_later hb2 o2
    have o3 := kept_later hb2 o3
    have o4 := kept_later hb2 o4
    have hb02 := hb01.trans (hb2.mono s1)
    have s2 := hb02.size
    have hA1 : A1 = none → c1 = 0 := by
      intro e
      subst e
      obtain ⟨_, _, e1, _⟩ := hl2.cell (k := 0) (by omega)
      cases e1
    clear hb2 hb01 hown1 hlq hel
    go_wp2_with fail
    refine (decode_any A1 21 c1 w2.heap.size q _ hl2 (Nat.le_refl _) hc1 hc1').mono ?_
    rintro e w3 ⟨rfl, hb3⟩
    rw [HdV.out, HdE.out]
    have o0 := cell_keep (kept_later hb3 o0) (.cells #[.int .u32 (g : Int), .int .u32 (m : Int), .int .u64 (s : Int), .bool d, .int .i64 (n0 : Int)] 46)
    have o1 := cell_keep (kept_later hb3 o1) (.cells #[.int .u32 (g : Int), .int .u32 (m : Int), .int .u64 (s : Int), .bool d, .int .i64 (n0 : Int)] 46)
    have o2 := cell_keep (kept_later hb3 o2) (.cells #[.int .u32 (g : Int), .int .u32 (m : Int), .int .u64 (s : Int), .bool d, .int .i64 (n0 : Int)] 46)
    have o3 := cell_keep (kept_later hb3 o3) (.cells #[.int .u32 (g : Int), .int .u32 (m : Int), .int .u64 (s : Int), .bool d, .int .i64 (n0 : Int)] 46)
    have o4 := cell_keep (kept_later hb3 o4) (.cells #[.int .u32 (g : Int), .int .u32 (m : Int), .int .u64 (s : Int), .bool d, .int .i64 (n0 : Int)] 46)
    have p0 : (w3.alloc (.cells #[.int .u32 (g : Int), .int .u32 (m : Int), .int .u64 (s : Int), .bool d, .int .i64 (n0 : Int)] 46)).cell? ⟨w3.heap.size, 0, none⟩ = some (.int .u32 (g : Int)) := World.cell?_alloc_new w3 _ _ 0
    have p1 : (w3.alloc (.cells #[.int .u32 (g : Int), .int .u32 (m : Int), .int .u64 (s : Int), .bool d, .int .i64 (n0 : Int)] 46)).cell? ⟨w3.heap.size, 1, none⟩ = some (.int .u32 (m : Int)) := World.cell?_alloc_new w3 _ _ 1
    have p2 : (w3.alloc (.cells #[.int .u32 (g : Int), .int .u32 (m : Int), .int .u64 (s : Int), .bool d, .int .i64 (n0 : Int)] 46)).cell? ⟨w3.heap.size, 2, none⟩ = some (.int .u64 (s : Int)) := World.cell?_alloc_new w3 _ _ 2
    have p3 : (w3.alloc (.cells #[.int .u32 (g : Int), .int .u32 (m : Int), .int .u64 (s : Int), .bool d, .int .i64 (n0 : Int)] 46)).cell? ⟨w3.heap.size, 3, none⟩ = some (.bool d) := World.cell?_alloc_new w3 _ _ 3
    have p4 : (w3.alloc (.cells #[.int .u32 (g : Int), .int .u32 (m : Int), .int .u64 (s : Int), .bool d, .int .i64 (n0 : Int)] 46)).cell? ⟨w3.heap.size, 4, none⟩ = some (.int .i64 (n0 : Int)) := World.cell?_alloc_new w3 _ _ 4
    have hb03 := (hb02.trans (hb3.mono s2)).alloc (by have := hb3.size; omega) (.cells #[.int .u32 (g : Int), .int .u32 (m : Int), .int .u64 (s : Int), .bool d, .int .i64 (n0 : Int)] 46)
    have hl3 := (hl2.below hb3).alloc hb3.size (.cells #[.int .u32 (g : Int), .int .u32 (m : Int), .int .u64 (s : Int), .bool d, .int .i64 (n0 : Int)] 46)
    have s3 := hb03.size
    have s23 : w2.heap.size ≤ (w3.alloc (.cells #[.int .u32 (g : Int), .int .u32 (m : Int), .int .u64 (s : Int), .bool d, .int .i64 (n0 : Int)] 46)).heap.size := by have := hb3.size; simp; omega
    clear hb3 hb02 hl2
    go_upto_region 8 with fail
    generalize w3.alloc (.cells #[.int .u32 (g : Int), .int .u32 (m : Int), .int .u64 (s : Int), .bool d, .int .i64 (n0 : Int)] 46) = w4 at *
    have hl3' := hl3.first (k := 20) (by omega)
    have hc20 : (20 : Int) ≤ (c1 : Int) := by omega
    go_wp2_with fail
    refine (decode_any A1 20 c1 w2.heap.size (q.take 20) _ hl3' s23 (by omega) hc1').mono ?_
    rintro e w5 ⟨rfl, hb5⟩
    rw [HsV.out, HsE.out]
    have o0 := cell_keep (kept_later hb5 o0) (.cells #[.int .u32 (u0 : Int), .int .u32 (u1 : Int), .int .u64 (u2 : Int), .bool u3, .int .i64 u4] 46)
    have o1 := cell_keep (kept_later hb5 o1) (.cells #[.int .u32 (u0 : Int), .int .u32 (u1 : Int), .int .u64 (u2 : Int), .bool u3, .int .i64 u4] 46)
    have o2 := cell_keep (kept_later hb5 o2) (.cells #[.int .u32 (u0 : Int), .int .u32 (u1 : Int), .int .u64 (u2 : Int), .bool u3, .int .i64 u4] 46)
    have o3 := cell_keep (kept_later hb5 o3) (.cells #[.int .u32 (u0 : Int), .int .u32 (u1 : Int), .int .u64 (u2 : Int), .bool u3, .int .i64 u4] 46)
    have o4 := cell_keep (kept_later hb5 o4) (.cells #[.int .u32 (u0 : Int), .int .u32 (u1 : Int), .int .u64 (u2 : Int), .bool u3, .int .i64 u4] 46)
    have p0 := cell_keep (kept_later hb5 p0) (.cells #[.int .u32 (u0 : Int), .int .u32 (u1 : Int), .int .u64 (u2 : Int), .bool u3, .int .i64 u4] 46)
    have p1 := cell_keep (kept_later hb5 p1) (.cells #[.int .u32 (u0 : Int), .int .u32 (u1 : Int), .int .u64 (u2 : Int), .bool u3, .int .i64 u4] 46)
    have p2 := cell_keep (kept_later hb5 p2) (.cells #[.int .u32 (u0 : Int), .int .u32 (u1 : Int), .int .u64 (u2 : Int), .bool u3, .int .i64 u4] 46)
    have p3 := cell_keep (kept_later hb5 p3) (.cells #[.int .u32 (u0 : Int), .int .u32 (u1 : Int), .int .u64 (u2 : Int), .bool u3, .int .i64 u4] 46)
    have p4 := cell_keep (kept_later hb5 p4) (.cells #[.int .u32 (u0 : Int), .int .u32 (u1 : Int), .int .u64 (u2 : Int), .bool u3, .int .i64 u4] 46)
    have hb05 := (hb03.trans (hb5.mono s3)).alloc (by have := hb5.size; omega) (.cells #[.int .u32 (u0 : Int), .int .u32 (u1 : Int), .int .u64 (u2 : Int), .bool u3, .int .i64 u4] 46)
    have hl5 := (hl3.below (hb5.mono s23)).alloc (by have := hb5.size; omega) (.cells #[.int .u32 (u0 : Int), .int .u32 (u1 : Int), .int .u64 (u2 : Int), .bool u3, .int .i64 u4] 46)
    have s5 := hb05.size
    have s25 : w2.heap.size ≤ (w5.alloc (.cells #[.int .u32 (u0 : Int), .int .u32 (u1 : Int), .int .u64 (u2 : Int), .bool u3, .int .i64 u4] 46)).heap.size := by have := hb5.size; simp; omega
    clear hb5 hb03 hl3 hl3'
    go_upto_region 9 with fail
    generalize w5.alloc (.cells #[.int .u32 (u0 : Int), .int .u32 (u1 : Int), .int .u64 (u2 : Int), .bool u3, .int .i64 u4] 46) = w6 at *
    have z0 : w.heap.size < w6.heap.size := World.block_lt_of_cell? w6 _ o0
    have z1 : w3.heap.size < w6.heap.size := World.block_lt_of_cell? w6 _ p0
    go_wp2_with fail
    refine (clone_any A1 21 c1 q w2.heap.size _ hl5 hA1 s25 (by omega)).mono ?_
    rintro e w7 ⟨A3, n3, c3, rfl, hown3, hb7⟩
    obtain ⟨hn3, hc3, hc3'⟩ := gives_len hown3
    obtain rfl : n3 = 21 := by have := hl5.len; omega
    clear hn3
    have hb07 := hb05.trans (hb7.mono s5)
    have s7 := hb7.size
    have o0 := kept_later hb7 o0
    have o1 := kept_later hb7 o1
    have o2 := kept_later hb7 o2
    have o3 := kept_later hb7 o3
    have o4 := kept_later hb7 o4
    have p0 := kept_later hb7 p0
    have p1 := kept_later hb7 p1
    have p2 := kept_later hb7 p2
    have p3 := kept_later hb7 p3
    have p4 := kept_later hb7 p4
    have s07 := hb07.size
    clear hb7 hb05 hl5
    obtain ⟨i0, hi, hz0, hz1, hz2⟩ := u8_info
    go_wp2_with (at_builtin; go_loud (refine wpList_append_shows _ rfl _ _ _ rfl w6.heap.size 5 i0 (.int .u8 0) 1 1 Tryd.underlying29 hi hz0 hz1 hz2 rfl (by decide) _ _ _ rfl (hown3.alloc _) (w7.heap.size + 1) _ 1 1 [bv 0] rfl (by exact bytes_new w7 [0] _ _ _ rfl) (bv_one [0]) ?c3 ?c4 ?c5 ?_))
    case c3 => unfold maxLen; omega
    case c4 => omega
    case c5 => simp; omega
    intro A8 c8 w8 hown8 _ hb8
    have hl8 : Bytes w8 w8.heap.size A8 22 (q ++ [0]) := by
      have := Bytes.own (l := q ++ [0]) (by rw [List.map_append]; exact hown8)
      exact this
    obtain ⟨-, hc8, hc8'⟩ := gives_len (l := q ++ [0]) (by rw [List.map_append]; exact hown8)
    have hb78 : Below w6.heap.size w7 w8 := ((Below.refl _ _).alloc s7 _).trans hb8
    have o0 := (hb8.cell (p := ⟨w.heap.size, 0, none⟩) z0).trans (cell_keep o0 _)
    have o1 := (hb8.cell (p := ⟨w.heap.size, 1, none⟩) z0).trans (cell_keep o1 _)
    have o2 := (hb8.cell (p := ⟨w.heap.size, 2, none⟩) z0).trans (cell_keep o2 _)
    have o3 := (hb8.cell (p := ⟨w.heap.size, 3, none⟩) z0).trans (cell_keep o3 _)
    have o4 := (hb8.cell (p := ⟨w.heap.size, 4, none⟩) z0).trans (cell_keep o4 _)
    have p0 := (hb8.cell (p := ⟨w3.heap.size, 0, none⟩) z1).trans (cell_keep p0 _)
    have p1 := (hb8.cell (p := ⟨w3.heap.size, 1, none⟩) z1).trans (cell_keep p1 _)
    have p2 := (hb8.cell (p := ⟨w3.heap.size, 2, none⟩) z1).trans (cell_keep p2 _)
    have p3 := (hb8.cell (p := ⟨w3.heap.size, 3, none⟩) z1).trans (cell_keep p3 _)
    have p4 := (hb8.cell (p := ⟨w3.heap.size, 4, none⟩) z1).trans (cell_keep p4 _)
    have hb08 := hb07.trans (hb78.mono s5)
    have s8 := hb08.size
    clear hb8 hb78 hown8 hown3 hb07
    go_wp2_with fail
    refine (decode_any A8 22 c8 w8.heap.size (q ++ [0]) _ hl8 (Nat.le_refl _) hc8 hc8').mono ?_
    rintro e w9 ⟨rfl, hb9⟩
    rw [HlV.out, HlE.out]
    have o0 := cell_keep (kept_later hb9 o0) (.cells #[.int .u32 (v0 : Int), .int .u32 (v1 : Int), .int .u64 (v2 : Int), .bool v3, .int .i64 v4] 46)
    have o1 := cell_keep (kept_later hb9 o1) (.cells #[.int .u32 (v0 : Int), .int .u32 (v1 : Int), .int .u64 (v2 : Int), .bool v3, .int .i64 v4] 46)
    have o2 := cell_keep (kept_later hb9 o2) (.cells #[.int .u32 (v0 : Int), .int .u32 (v1 : Int), .int .u64 (v2 : Int), .bool v3, .int .i64 v4] 46)
    have o3 := cell_keep (kept_later hb9 o3) (.cells #[.int .u32 (v0 : Int), .int .u32 (v1 : Int), .int .u64 (v2 : Int), .bool v3, .int .i64 v4] 46)
    have o4 := cell_keep (kept_later hb9 o4) (.cells #[.int .u32 (v0 : Int), .int .u32 (v1 : Int), .int .u64 (v2 : Int), .bool v3, .int .i64 v4] 46)
    have p0 := cell_keep (kept_later hb9 p0) (.cells #[.int .u32 (v0 : Int), .int .u32 (v1 : Int), .int .u64 (v2 : Int), .bool v3, .int .i64 v4] 46)
    have p1 := cell_keep (kept_later hb9 p1) (.cells #[.int .u32 (v0 : Int), .int .u32 (v1 : Int), .int .u64 (v2 : Int), .bool v3, .int .i64 v4] 46)
    have p2 := cell_keep (kept_later hb9 p2) (.cells #[.int .u32 (v0 : Int), .int .u32 (v1 : Int), .int .u64 (v2 : Int), .bool v3, .int .i64 v4] 46)
    have p3 := cell_keep (kept_later hb9 p3) (.cells #[.int .u32 (v0 : Int), .int .u32 (v1 : Int), .int .u64 (v2 : Int), .bool v3, .int .i64 v4] 46)
    have p4 := cell_keep (kept_later hb9 p4) (.cells #[.int .u32 (v0 : Int), .int .u32 (v1 : Int), .int .u64 (v2 : Int), .bool v3, .int .i64 v4] 46)
    have hb04 := (hb08.trans (hb9.mono s8)).alloc (by have := hb9.size; omega) (.cells #[.int .u32 (v0 : Int), .int .u32 (v1 : Int), .int .u64 (v2 : Int), .bool v3, .int .i64 v4] 46)
    have s4 := hb04.size
    go_upto_region 10 with fail
    generalize w9.alloc (.cells #[.int .u32 (v0 : Int), .int .u32 (v1 : Int), .int .u64 (v2 : Int), .bool v3, .int .i64 v4] 46) = w10 at *
    clear hb9 hb08 hl8
    go_wp2_with fail
    refine (few_any A n c w.heap.size l _ (h.below hb04) hA s4 hn hc).mono ?_
    rintro e w5 ⟨A2, n2, c2, rfl, hown, hb5⟩
    have hl5 : Bytes w5 w5.heap.size A2 n2 (l.take 300) := Bytes.own hown
    obtain ⟨-, hc2, hc3⟩ := gives_len hown
    have hb05 := hb04.trans (hb5.mono s4)
    have s5 := hb05.size
    clear hb5 hown hb04
    go_wp2_with fail
    refine (decode_any A2 n2 c2 w5.heap.size (l.take 300) _ hl5 (Nat.le_refl _) hc2 hc3).mono ?_
    rintro e w6 ⟨rfl, hb6⟩
    have hl6 := hl5.below hb6
    have hb06 := hb05.trans (hb6.mono s5)
    have s6 := hb06.size
    have s56 := hb6.size
    clear hb6 hb05 hl5
    by_cases hdb : decB (l.take 300) = true
    · obtain ⟨he1, he2, he3, he4, he5, he6⟩ := enc_dec _ hdb
      have hV : decV (l.take 300) = .agg #[.int .u32 (dG (l.take 300) : Int), .int .u32 (dM (l.take 300) : Int), .int .u64 (dS (l.take 300) : Int), .bool (dD (l.take 300)), .int .i64 (dA (l.take 300) : Int)] := by unfold decV; rw [if_pos hdb]; rfl
      have hE : decE (l.take 300) = 0 := by unfold decE; rw [if_pos hdb]
      rw [hV, hE]
      have Hee := Lib.hid he1
      have Hvv := Lib.hid he2
      clear hV hE hdb he1 he2
      generalize dG (l.take 300) = y0 at *
      generalize dM (l.take 300) = y1 at *
      generalize dS (l.take 300) = y2 at *
      generalize dD (l.take 300) = y3 at *
      generalize dA (l.take 300) = y4 at *
      have hl7 := hl6.alloc (by omega) (.cells #[.int .u32 (y0 : Int), .int .u32 (y1 : Int), .int .u64 (y2 : Int), .bool y3, .int .i64 (y4 : Int)] 46)
      have s7 : w6.heap.size + 1 = (w6.alloc (.cells #[.int .u32 (y0 : Int), .int .u32 (y1 : Int), .int .u64 (y2 : Int), .bool y3, .int .i64 (y4 : Int)] 46)).heap.size := by simp
      have hb07 := hb06.alloc s6 (.cells #[.int .u32 (y0 : Int), .int .u32 (y1 : Int), .int .u64 (y2 : Int), .bool y3, .int .i64 (y4 : Int)] 46)
      go_wp2_with fail
      refine (Encode_yes y0 y1 y2 y3 y4 _ he3 he4 he6 Hvv.out).mono ?_
      rintro e w8 ⟨A7, n7, c7, rfl, hown7, hb8⟩
      rw [Hee.out] at hown7
      have hl8 : Bytes w8 w8.heap.size A7 n7 (l.take 300) := Bytes.own hown7
      obtain ⟨-, h71, h72⟩ := gives_len hown7
      have hb08 := hb07.trans (hb8.mono hb07.size)
      go_wp2_with fail
      refine (equal_any A7 A2 n7 c7 n2 c2 (l.take 300) (l.take 300) _ _ _ hl8 (hl7.below (hb8.mono (by omega))) (by omega) (by omega)).mono ?_
      rintro e w9 ⟨rfl, k6, rfl⟩
      rw [show sameB (l.take 300) (l.take 300) = true from decide_eq_true rfl]
      go_wp2
      go_ret
      exact ⟨rfl, below_drewN hb08 _⟩
    · have hV : decV (l.take 300) = .agg #[.int .u32 0, .int .u32 0, .int .u64 0, .bool false, .int .i64 0] := by unfold decV; rw [if_neg hdb]; rfl
      have hE : decE (l.take 300) = 6 ∨ decE (l.take 300) = 292 := by
        unfold decE
        rw [if_neg hdb]
        split
        · exact .inl rfl
        · exact .inr rfl
      rw [hV]
      have hb07 := hb06.alloc s6 (.cells #[.int .u32 0, .int .u32 0, .int .u64 0, .bool false, .int .i64 0] 46)
      clear hV hdb
      generalize decE (l.take 300) = F at *
      rcases hE with rfl | rfl
      · go_wp2
        go_ret
        exact ⟨rfl, hb07⟩
      · go_wp2
        go_ret
        exact ⟨rfl, hb07⟩
  · have hv2 : validB g s d a = false := by simpa using hv
    have Hv := Lib.hid hv2
    clear hv hv2
    go_enter Tryd.func9, Tryd.ntmps9
    go_wp2_with fail
    refine (wakes_any _ (htab.alloc _)).mono ?_
    rintro e w1 ⟨rfl, hb1⟩
    have o0 : w1.cell? ⟨w.heap.size, 0, none⟩ = some (.int .u32 (g : Int)) := new_later hb1 0 rfl
    have o1 : w1.cell? ⟨w.heap.size, 1, none⟩ = some (.int .u32 (m : Int)) := new_later hb1 1 rfl
    have o2 : w1.cell? ⟨w.heap.size, 2, none⟩ = some (.int .u64 (s : Int)) := new_later hb1 2 rfl
    have o3 : w1.cell? ⟨w.heap.size, 3, none⟩ = some (.bool d) := new_later hb1 3 rfl
    have o4 : w1.cell? ⟨w.heap.size, 4, none⟩ = some (.int .i64 a) := new_later hb1 4 rfl
    have hb01 := ((Below.refl w.heap.size w).alloc (Nat.le_refl _) (.cells #[.int .u32 (g : Int), .int .u32 (m : Int), .int .u64 (s : Int), .bool d, .int .i64 a] 46)).trans (hb1.mono (by simp))
    have s1 := hb01.size
    clear hb1
    go_wp2_with fail
    refine (Encode_no g m s d a _ Hv.out).mono ?_
    rintro e w4 ⟨rfl, hb2⟩
    have hb04 := hb01.trans (hb2.mono s1)
    have s4 := hb04.size
    clear hb2 hb01 o0 o1 o2 o3 o4
    go_wp2_with fail
    refine (few_any A n c w.heap.size l _ (h.below hb04) hA s4 hn hc).mono ?_
    rintro e w5 ⟨A2, n2, c2, rfl, hown, hb5⟩
    have hl5 : Bytes w5 w5.heap.size A2 n2 (l.take 300) := Bytes.own hown
    obtain ⟨-, hc2, hc3⟩ := gives_len hown
    have hb05 := hb04.trans (hb5.mono s4)
    have s5 := hb05.size
    clear hb5 hown hb04
    go_wp2_with fail
    refine (decode_any A2 n2 c2 w5.heap.size (l.take 300) _ hl5 (Nat.le_refl _) hc2 hc3).mono ?_
    rintro e w6 ⟨rfl, hb6⟩
    have hl6 := hl5.below hb6
    have hb06 := hb05.trans (hb6.mono s5)
    have s6 := hb06.size
    have s56 := hb6.size
    clear hb6 hb05 hl5
    by_cases hdb : decB (l.take 300) = true
    · obtain ⟨he1, he2, he3, he4, he5, he6⟩ := enc_dec _ hdb
      have hV : decV (l.take 300) = .agg #[.int .u32 (dG (l.take 300) : Int), .int .u32 (dM (l.take 300) : Int), .int .u64 (dS (l.take 300) : Int), .bool (dD (l.take 300)), .int .i64 (dA (l.take 300) : Int)] := by unfold decV; rw [if_pos hdb]; rfl
      have hE : decE (l.take 300) = 0 := by unfold decE; rw [if_pos hdb]
      rw [hV, hE]
      have Hee := Lib.hid he1
      have Hvv := Lib.hid he2
      clear hV hE hdb he1 he2
      generalize dG (l.take 300) = y0 at *
      generalize dM (l.take 300) = y1 at *
      generalize dS (l.take 300) = y2 at *
      generalize dD (l.take 300) = y3 at *
      generalize dA (l.take 300) = y4 at *
      have hl7 := hl6.alloc (by omega) (.cells #[.int .u32 (y0 : Int), .int .u32 (y1 : Int), .int .u64 (y2 : Int), .bool y3, .int .i64 (y4 : Int)] 46)
      have s7 : w6.heap.size + 1 = (w6.alloc (.cells #[.int .u32 (y0 : Int), .int .u32 (y1 : Int), .int .u64 (y2 : Int), .bool y3, .int .i64 (y4 : Int)] 46)).heap.size := by simp
      have hb07 := hb06.alloc s6 (.cells #[.int .u32 (y0 : Int), .int .u32 (y1 : Int), .int .u64 (y2 : Int), .bool y3, .int .i64 (y4 : Int)] 46)
      go_wp2_with fail
      refine (Encode_yes y0 y1 y2 y3 y4 _ he3 he4 he6 Hvv.out).mono ?_
      rintro e w8 ⟨A7, n7, c7, rfl, hown7, hb8⟩
      rw [Hee.out] at hown7
      have hl8 : Bytes w8 w8.heap.size A7 n7 (l.take 300) := Bytes.own hown7
      obtain ⟨-, h71, h72⟩ := gives_len hown7
      have hb08 := hb07.trans (hb8.mono hb07.size)
      go_wp2_with fail
      refine (equal_any A7 A2 n7 c7 n2 c2 (l.take 300) (l.take 300) _ _ _ hl8 (hl7.below (hb8.mono (by omega))) (by omega) (by omega)).mono ?_
      rintro e w9 ⟨rfl, k6, rfl⟩
      rw [show sameB (l.take 300) (l.take 300) = true from decide_eq_true rfl]
      go_wp2
      go_ret
      exact ⟨rfl, below_drewN hb08 _⟩
    · have hV : decV (l.take 300) = .agg #[.int .u32 0, .int .u32 0, .int .u64 0, .bool false, .int .i64 0] := by unfold decV; rw [if_neg hdb]; rfl
      have hE : decE (l.take 300) = 6 ∨ decE (l.take 300) = 292 := by
        unfold decE
        rw [if_neg hdb]
        split
        · exact .inl rfl
        · exact .inr rfl
      rw [hV]
      have hb07 := hb06.alloc s6 (.cells #[.int .u32 0, .int .u32 0, .int .u64 0, .bool false, .int .i64 0] 46)
      clear hV hdb
      generalize decE (l.take 300) = F at *
      rcases hE with rfl | rfl
      · go_wp2
        go_ret
        exact ⟨rfl, hb07⟩
      · go_wp2
        go_ret
        exact ⟨rfl, hb07⟩
end Go.Proofs.YtedoajiapicpnaaDoor
