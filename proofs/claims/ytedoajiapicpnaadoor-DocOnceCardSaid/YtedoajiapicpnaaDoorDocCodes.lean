/-
  Layer 19: the walk of DocCodes.
-/
import Derived.Test.YtedoajiapicpnaaDoorDocNexts
import Derived.Test.YtedoajiapicpnaaDoorDocR
namespace Go.Proofs.YtedoajiapicpnaaDoor
open Go.RowKit
attribute [local go_sem ↓] Go.wp_at_zero Go.wp_at_succ

theorem decode_any (A : Option Addr) (n c B : Nat) (l : List UInt8) (w : World) (h : Bytes w B A n l) (hB : B ≤ w.heap.size) (hcc : n ≤ c) (hcm : c ≤ maxLen) :
    Calls Tryd.prog 26 #[.slice A n c] w fun e w' => e = .returned (.tuple #[decV l, .int .i64 (decE l)]) ∧ Below w.heap.size w w' := by
  by_cases hx : n ≠ 21 ∨ 1 < at8 l 16
  · exact decode_early A n c B l w h hx
  · obtain rfl : n = 21 := by omega
    obtain ⟨b, off, rfl, _, _⟩ := h.cell (k := 0) (by omega)
    exact decode_late b off c B l w h hB hcc hcm (by omega)
theorem read_any (A : Option Addr) (n c B : Nat) (l : List UInt8) (w : World) (h : Bytes w B A n l) (hB : B ≤ w.heap.size) (hcc : n ≤ c) (hcm : c ≤ maxLen) :
    Calls Tryd.prog 27 #[.slice A n c] w fun e w' => e = .returned (.tuple #[decV l, .bool (decB l)]) ∧ Below w.heap.size w w' := by
  by_cases hx : n ≠ 21 ∨ 1 < at8 l 16
  · exact read_early A n c B l w h hx
  · obtain rfl : n = 21 := by omega
    obtain ⟨b, off, rfl, _, _⟩ := h.cell (k := 0) (by omega)
    exact read_late b off c B l w h hB hcc hcm (by omega)
theorem dec_cases (l : List UInt8) : ∃ (x0 x1 x2 : Nat) (x3 : Bool) (x4 : Int), decV l = .agg #[.int .u32 (x0 : Int), .int .u32 (x1 : Int), .int .u64 (x2 : Int), .bool x3, .int .i64 x4] ∧
    ((21 ≤ l.length ∧ decE l = 0 ∧ decB l = true) ∨ (l.length < 21 ∧ decE l = 6 ∧ decB l = false ∧ x0 = 0 ∧ x1 = 0 ∧ x2 = 0 ∧ x3 = false ∧ x4 = 0) ∨ (21 ≤ l.length ∧ decE l = 292 ∧ decB l = false ∧ x0 = 0 ∧ x1 = 0 ∧ x2 = 0 ∧ x3 = false ∧ x4 = 0)) := by
  by_cases hb : decB l = true
  · have h21 : l.length = 21 := by
      unfold decB at hb
      simp only [Bool.and_eq_true, decide_eq_true_eq] at hb
      exact hb.1.1
    exact ⟨dG l, dM l, dS l, dD l, (dA l : Int), by unfold decV; rw [if_pos hb]; rfl, .inl ⟨by omega, by unfold decE; rw [if_pos hb], hb⟩⟩
  · have hb2 : decB l = false := by simpa using hb
    refine ⟨0, 0, 0, false, 0, by unfold decV; rw [if_neg hb]; rfl, .inr ?_⟩
    by_cases h21 : l.length < 21
    · exact .inl ⟨h21, by unfold decE; rw [if_neg hb, if_pos h21], hb2, rfl, rfl, rfl, rfl, rfl⟩
    · exact .inr ⟨by omega, by unfold decE; rw [if_neg hb, if_neg h21], hb2, rfl, rfl, rfl, rfl, rfl⟩
theorem valid_nat (g s : Nat) (d : Bool) (a : Int) (h : validB g s d a = true) : ∃ n : Nat, a = (n : Int) ∧ n < 524288 := by
  rcases valid_cases g s d a with ⟨_, hr⟩ | ⟨_, hr⟩ | ⟨_, hr⟩ | ⟨⟨_, _, _, h0⟩, hr⟩ | ⟨_, hr⟩ | ⟨_, hr⟩ | ⟨⟨_, _, _, h1, h2⟩, hr⟩ | ⟨_, hr⟩
  all_goals first
    | (rw [hr] at h; cases h; done)
    | exact ⟨0, h0, by omega⟩
    | exact ⟨a.toNat, by omega, by omega⟩

set_option maxRecDepth 20000 in
set_option maxHeartbeats 2000000 in
theorem docCodes_walk (w : World) (g m s : Nat) (d : Bool) (a : Int) (hg : g < 4294967296) (hm : m < 4294967296) (hs : s < 18446744073709551616) (_ : (Lit.int .i64 a).wf = true) (A : Option Addr) (n c : Nat) (l : List UInt8) (h : Bytes w w.heap.size A n l) (hA : A = none → c = 0) (hn : n ≤ c) (hc : c ≤ maxLen) (htab : Tab w) :
    Calls Tryd.prog 6 #[.agg #[.int .u32 (g : Int), .int .u32 (m : Int), .int .u64 (s : Int), .bool d, .int .i64 a], .slice A n c] w fun e w' => e = .returned (.bool true) ∧ Below w.heap.size w w' := by

  have hin : Calls Tryd.prog 6 #[.agg #[.int .u32 (g : Int), .int .u32 (m : Int), .int .u64 (s : Int), .bool d, .int .i64 a], .slice A n c] w (fun e w' => e = .returned (.bool true) ∧ Below w.heap.size w w') := by
    go_enter Tryd.func6, Tryd.ntmps6
    go_wp2_with fail
    refine (wakes_any _ (htab.alloc _)).mono ?_
    rintro e w1 ⟨rfl, hb1⟩
    have o0 := new_later hb1 0 rfl
    have o1 := new_later hb1 1 rfl
    have o2 := new_later hb1 2 rfl
    have o3 := new_later hb1 3 rfl
    have o4 := new_later hb1 4 rfl
    have hb01 := ((Below.refl w.heap.size w).alloc (Nat.le_refl _) (.cells #[.int .u32 (g : Int), .int .u32 (m : Int), .int .u64 (s : Int), .bool d, .int .i64 a] 46)).trans (hb1.mono (by simp))
    have s1 := hb01.size
    clear hb1
    by_cases hv : validB g s d a = true
    · obtain ⟨n0, hn0, hn1⟩ := valid_nat g s d a hv
      subst hn0
      have Hv := Lib.hid hv
      clear hv
      go_wp2_with fail
      refine (Encode_yes g m s d n0 _ hg hm hn1 Hv.out).mono ?_
      rintro e w2 ⟨A1, n1, c1, rfl, hown1, hb2⟩
      have hl2 : Bytes w2 w2.heap.size A1 n1 (encL g m s d n0) := Bytes.own hown1
      have hn1' : n1 ≤ maxLen := by
        obtain ⟨A', c', e, h1, h2⟩ := own_form hown1
        omega
      have o0 := kept_later hb2 o0
      have o1 := kept_later hb2 o1
      have o2 := kept_later hb2 o2
      have o3 := kept_later hb2 o3
      have o4 := kept_later hb2 o4
      have hb02 := hb01.trans (hb2.mono s1)
      have s2 := hb02.size
      clear hb2 hb01 hown1
      go_wp2_with fail
      refine (may_any g m s d (n0 : Int) _).mono ?_
      rintro e w3 ⟨rfl, hb3⟩
      rw [Hv.out]
      have o0 := kept_later hb3 o0
      have o1 := kept_later hb3 o1
      have o2 := kept_later hb3 o2
      have o3 := kept_later hb3 o3
      have o4 := kept_later hb3 o4
      have hb03 := hb02.trans (hb3.mono s2)
      have s3 := hb03.size
      have hl3 := hl2.below hb3
      have s23 := hb3.size
      clear hb3 hb02 hl2
      go_wp2_with fail
      refine (refBytes_any g m s d n0 _ hg hm hs hn1).mono ?_
      rintro e w3' ⟨A3, n3, c3, rfl, hown3, hb3'⟩
      have hl3' : Bytes w3' w3'.heap.size A3 n3 (encL g m s d n0) := Bytes.own hown3
      have hn3' : n3 ≤ maxLen := by
        obtain ⟨A', c', e, h1, h2⟩ := own_form hown3
        omega
      have hb03' := hb03.trans (hb3'.mono s3)
      go_wp2_with fail
      refine (equal_any A1 A3 n1 c1 n3 c3 (encL g m s d n0) (encL g m s d n0) _ _ _ (hl3.below (hb3'.mono s23)) hl3' hn1' hn3').mono ?_
      rintro e w4' ⟨rfl, k6, rfl⟩
      rw [show sameB (encL g m s d n0) (encL g m s d n0) = true from decide_eq_true rfl]
      have hb04 := below_drewN hb03' k6
      generalize w3'.drewN k6 = w4 at *
      have s4 := hb04.size
      clear hl3 hl3' hb03 hb03' hb3' hown3 o0 o1 o2 o3 o4
      go_wp2_with fail
      refine (few_any A n c w.heap.size l _ (h.below hb04) hA s4 hn hc).mono ?_
      rintro e w5 ⟨A2, n2, c2, rfl, hown, hb5⟩
      have hl5 : Bytes w5 w5.heap.size A2 n2 (l.take 300) := Bytes.own hown
      obtain ⟨hc2, hc3⟩ : n2 ≤ c2 ∧ c2 ≤ maxLen := by
        obtain ⟨A', c', e, h1, h2⟩ := own_form hown
        injection e with _ _ e
        subst e
        exact ⟨h1, h2⟩
      have hb05 := hb04.trans (hb5.mono s4)
      have s5 := hb05.size
      have hlen := hl5.len
      have Hcase := dec_cases (l.take 300)
      rw [hlen] at Hcase
      clear hb5 hown hlen hb04
      go_wp2_with fail
      refine (decode_any A2 n2 c2 w5.heap.size (l.take 300) _ hl5 (Nat.le_refl _) hc2 hc3).mono ?_
      rintro e w6 ⟨rfl, hb6⟩
      have hl6 := hl5.below hb6
      have hb06 := hb05.trans (hb6.mono s5)
      have s6 := hb06.size
      have s56 := hb6.size
      clear hb6 hb05 hl5
      obtain ⟨x0, x1, x2, x3, x4, hV, hcs⟩ := Hcase
      rw [hV]
      have HV := Lib.hid hV
      obtain ⟨F, HE⟩ : ∃ F, Hid (decE (l.take 300) = F) := ⟨_, Lib.hid rfl⟩
      obtain ⟨G, HB⟩ : ∃ G, Hid (decB (l.take 300) = G) := ⟨_, Lib.hid rfl⟩
      rw [HE.out, HB.out] at hcs
      rw [HE.out]
      clear hV
      have hl7 := (hl6.alloc (by omega) (.cells #[.int .u32 (x0 : Int), .int .u32 (x1 : Int), .int .u64 (x2 : Int), .bool x3, .int .i64 x4] 46))
      have hw7 : (w6.alloc (.cells #[.int .u32 (x0 : Int), .int .u32 (x1 : Int), .int .u64 (x2 : Int), .bool x3, .int .i64 x4] 46)).heap.size = w6.heap.size + 1 := by simp
      go_wp2_with fail
      refine (read_any A2 n2 c2 w5.heap.size (l.take 300) _ hl7 (by omega) hc2 hc3).mono ?_
      rintro e w7 ⟨rfl, hb7⟩
      rw [HV.out, HB.out]
      have r0 := new_later hb7 0 rfl
      have r1 := new_later hb7 1 rfl
      have r2 := new_later hb7 2 rfl
      have r3 := new_later hb7 3 rfl
      have r4 := new_later hb7 4 rfl
      have z7 : w6.heap.size < w7.heap.size := World.block_lt_of_cell? w7 _ r0
      have r0 := cell_keep r0 (.cells #[.int .u32 (x0 : Int), .int .u32 (x1 : Int), .int .u64 (x2 : Int), .bool x3, .int .i64 x4] 46)
      have r1 := cell_keep r1 (.cells #[.int .u32 (x0 : Int), .int .u32 (x1 : Int), .int .u64 (x2 : Int), .bool x3, .int .i64 x4] 46)
      have r2 := cell_keep r2 (.cells #[.int .u32 (x0 : Int), .int .u32 (x1 : Int), .int .u64 (x2 : Int), .bool x3, .int .i64 x4] 46)
      have r3 := cell_keep r3 (.cells #[.int .u32 (x0 : Int), .int .u32 (x1 : Int), .int .u64 (x2 : Int), .bool x3, .int .i64 x4] 46)
      have r4 := cell_keep r4 (.cells #[.int .u32 (x0 : Int), .int .u32 (x1 : Int), .int .u64 (x2 : Int), .bool x3, .int .i64 x4] 46)
      have hb07 := below_new hb06 s6 hb7
      have s7 := hb07.size
      have hl8 := (hl7.below (hb7.mono (by omega))).alloc (by omega : w5.heap.size ≤ w7.heap.size) (.cells #[.int .u32 (x0 : Int), .int .u32 (x1 : Int), .int .u64 (x2 : Int), .bool x3, .int .i64 x4] 46)
      have hb08 := hb07.alloc s7 (.cells #[.int .u32 (x0 : Int), .int .u32 (x1 : Int), .int .u64 (x2 : Int), .bool x3, .int .i64 x4] 46)
      have s8 := hb08.size
      have s58 : w5.heap.size ≤ (w7.alloc (.cells #[.int .u32 (x0 : Int), .int .u32 (x1 : Int), .int .u64 (x2 : Int), .bool x3, .int .i64 x4] 46)).heap.size := by simp; omega
      clear hb7 hb06 hl6 hl7 hb07
      go_upto_region 10 with fail
      have q0 : (w7.alloc (.cells #[.int .u32 (x0 : Int), .int .u32 (x1 : Int), .int .u64 (x2 : Int), .bool x3, .int .i64 x4] 46)).cell? ⟨w7.heap.size, 0, none⟩ = some (.int .u32 (x0 : Int)) := World.cell?_alloc_new w7 #[.int .u32 (x0 : Int), .int .u32 (x1 : Int), .int .u64 (x2 : Int), .bool x3, .int .i64 x4] 46 0
      have q1 : (w7.alloc (.cells #[.int .u32 (x0 : Int), .int .u32 (x1 : Int), .int .u64 (x2 : Int), .bool x3, .int .i64 x4] 46)).cell? ⟨w7.heap.size, 1, none⟩ = some (.int .u32 (x1 : Int)) := World.cell?_alloc_new w7 #[.int .u32 (x0 : Int), .int .u32 (x1 : Int), .int .u64 (x2 : Int), .bool x3, .int .i64 x4] 46 1
      have q2 : (w7.alloc (.cells #[.int .u32 (x0 : Int), .int .u32 (x1 : Int), .int .u64 (x2 : Int), .bool x3, .int .i64 x4] 46)).cell? ⟨w7.heap.size, 2, none⟩ = some (.int .u64 (x2 : Int)) := World.cell?_alloc_new w7 #[.int .u32 (x0 : Int), .int .u32 (x1 : Int), .int .u64 (x2 : Int), .bool x3, .int .i64 x4] 46 2
      have q3 : (w7.alloc (.cells #[.int .u32 (x0 : Int), .int .u32 (x1 : Int), .int .u64 (x2 : Int), .bool x3, .int .i64 x4] 46)).cell? ⟨w7.heap.size, 3, none⟩ = some (.bool x3) := World.cell?_alloc_new w7 #[.int .u32 (x0 : Int), .int .u32 (x1 : Int), .int .u64 (x2 : Int), .bool x3, .int .i64 x4] 46 3
      have q4 : (w7.alloc (.cells #[.int .u32 (x0 : Int), .int .u32 (x1 : Int), .int .u64 (x2 : Int), .bool x3, .int .i64 x4] 46)).cell? ⟨w7.heap.size, 4, none⟩ = some (.int .i64 x4) := World.cell?_alloc_new w7 #[.int .u32 (x0 : Int), .int .u32 (x1 : Int), .int .u64 (x2 : Int), .bool x3, .int .i64 x4] 46 4
      have r0 : (w7.alloc (.cells #[.int .u32 (x0 : Int), .int .u32 (x1 : Int), .int .u64 (x2 : Int), .bool x3, .int .i64 x4] 46)).cell? ⟨w6.heap.size, 0, none⟩ = some (.int .u32 (x0 : Int)) := r0
      have r1 : (w7.alloc (.cells #[.int .u32 (x0 : Int), .int .u32 (x1 : Int), .int .u64 (x2 : Int), .bool x3, .int .i64 x4] 46)).cell? ⟨w6.heap.size, 1, none⟩ = some (.int .u32 (x1 : Int)) := r1
      have r2 : (w7.alloc (.cells #[.int .u32 (x0 : Int), .int .u32 (x1 : Int), .int .u64 (x2 : Int), .bool x3, .int .i64 x4] 46)).cell? ⟨w6.heap.size, 2, none⟩ = some (.int .u64 (x2 : Int)) := r2
      have r3 : (w7.alloc (.cells #[.int .u32 (x0 : Int), .int .u32 (x1 : Int), .int .u64 (x2 : Int), .bool x3, .int .i64 x4] 46)).cell? ⟨w6.heap.size, 3, none⟩ = some (.bool x3) := r3
      have r4 : (w7.alloc (.cells #[.int .u32 (x0 : Int), .int .u32 (x1 : Int), .int .u64 (x2 : Int), .bool x3, .int .i64 x4] 46)).cell? ⟨w6.heap.size, 4, none⟩ = some (.int .i64 x4) := r4
      generalize w7.alloc (.cells #[.int .u32 (x0 : Int), .int .u32 (x1 : Int), .int .u64 (x2 : Int), .bool x3, .int .i64 x4] 46) = w8 at *
      rcases hcs with ⟨hn21, rfl, rfl⟩ | ⟨hn21, rfl, rfl, rfl, rfl, rfl, rfl, rfl⟩ | ⟨hn21, rfl, rfl, rfl, rfl, rfl, rfl, rfl⟩
      · go_wp2_with fail
        refine (few_any A n c w.heap.size l _ (h.below hb08) hA s8 hn hc).mono ?_
        rintro e w9 ⟨A5, n5, c5, rfl, hown5, hb9⟩
        have s9 := hb9.size
        have hl9 : Bytes w9 w9.heap.size A5 n5 (l.take 300) := Bytes.own hown5
        have hn5 : n5 ≤ maxLen := by
          obtain ⟨A', c', e, h1, h2⟩ := own_form hown5
          omega
        go_wp2_with fail
        refine (equal_any A2 A5 n2 c2 n5 c5 (l.take 300) (l.take 300) _ _ _ (hl8.below (hb9.mono s58)) hl9 (by omega) hn5).mono ?_
        rintro e w10 ⟨rfl, k6, rfl⟩
        rw [show sameB (l.take 300) (l.take 300) = true from decide_eq_true rfl]
        go_wp2
        go_ret
        exact ⟨rfl, below_drewN (hb08.trans (hb9.mono s8)) _⟩
      · rw [show ((0 : Nat) : Int) = 0 from rfl] at *
        go_wp2
        go_ret
        exact ⟨rfl, hb08⟩
      · rw [show ((0 : Nat) : Int) = 0 from rfl] at *
        go_wp2
        go_ret
        exact ⟨rfl, hb08⟩
    · have hv2 : validB g s d a = false := by simpa using hv
      have Hv := Lib.hid hv2
      clear hv hv2
      go_wp2_with fail
      refine (Encode_no g m s d a _ Hv.out).mono ?_
      rintro e w2 ⟨rfl, hb2⟩
      have o0 := kept_later hb2 o0
      have o1 := kept_later hb2 o1
      have o2 := kept_later hb2 o2
      have o3 := kept_later hb2 o3
      have o4 := kept_later hb2 o4
      have hb02 := hb01.trans (hb2.mono s1)
      have s2 := hb02.size
      clear hb2 hb01
      go_wp2_with fail
      refine (may_any g m s d a _).mono ?_
      rintro e w4 ⟨rfl, hb3⟩
      rw [Hv.out]
      have hb04 := hb02.trans (hb3.mono s2)
      have s4 := hb04.size
      clear hb3 hb02 o0 o1 o2 o3 o4
      go_wp2_with fail
      refine (few_any A n c w.heap.size l _ (h.below hb04) hA s4 hn hc).mono ?_
      rintro e w5 ⟨A2, n2, c2, rfl, hown, hb5⟩
      have hl5 : Bytes w5 w5.heap.size A2 n2 (l.take 300) := Bytes.own hown
      obtain ⟨hc2, hc3⟩ : n2 ≤ c2 ∧ c2 ≤ maxLen := by
        obtain ⟨A', c', e, h1, h2⟩ := own_form hown
        injection e with _ _ e
        subst e
        exact ⟨h1, h2⟩
      have hb05 := hb04.trans (hb5.mono s4)
      have s5 := hb05.size
      have hlen := hl5.len
      have Hcase := dec_cases (l.take 300)
      rw [hlen] at Hcase
      clear hb5 hown hlen hb04
      go_wp2_with fail
      refine (decode_any A2 n2 c2 w5.heap.size (l.take 300) _ hl5 (Nat.le_refl _) hc2 hc3).mono ?_
      rintro e w6 ⟨rfl, hb6⟩
      have hl6 := hl5.below hb6
      have hb06 := hb05.trans (hb6.mono s5)
      have s6 := hb06.size
      have s56 := hb6.size
      clear hb6 hb05 hl5
      obtain ⟨x0, x1, x2, x3, x4, hV, hcs⟩ := Hcase
      rw [hV]
      have HV := Lib.hid hV
      obtain ⟨F, HE⟩ : ∃ F, Hid (decE (l.take 300) = F) := ⟨_, Lib.hid rfl⟩
      obtain ⟨G, HB⟩ : ∃ G, Hid (decB (l.take 300) = G) := ⟨_, Lib.hid rfl⟩
      rw [HE.out, HB.out] at hcs
      rw [HE.out]
      clear hV
      have hl7 := (hl6.alloc (by omega) (.cells #[.int .u32 (x0 : Int), .int .u32 (x1 : Int), .int .u64 (x2 : Int), .bool x3, .int .i64 x4] 46))
      have hw7 : (w6.alloc (.cells #[.int .u32 (x0 : Int), .int .u32 (x1 : Int), .int .u64 (x2 : Int), .bool x3, .int .i64 x4] 46)).heap.size = w6.heap.size + 1 := by simp
      go_wp2_with fail
      refine (read_any A2 n2 c2 w5.heap.size (l.take 300) _ hl7 (by omega) hc2 hc3).mono ?_
      rintro e w7 ⟨rfl, hb7⟩
      rw [HV.out, HB.out]
      have r0 := new_later hb7 0 rfl
      have r1 := new_later hb7 1 rfl
      have r2 := new_later hb7 2 rfl
      have r3 := new_later hb7 3 rfl
      have r4 := new_later hb7 4 rfl
      have z7 : w6.heap.size < w7.heap.size := World.block_lt_of_cell? w7 _ r0
      have r0 := cell_keep r0 (.cells #[.int .u32 (x0 : Int), .int .u32 (x1 : Int), .int .u64 (x2 : Int), .bool x3, .int .i64 x4] 46)
      have r1 := cell_keep r1 (.cells #[.int .u32 (x0 : Int), .int .u32 (x1 : Int), .int .u64 (x2 : Int), .bool x3, .int .i64 x4] 46)
      have r2 := cell_keep r2 (.cells #[.int .u32 (x0 : Int), .int .u32 (x1 : Int), .int .u64 (x2 : Int), .bool x3, .int .i64 x4] 46)
      have r3 := cell_keep r3 (.cells #[.int .u32 (x0 : Int), .int .u32 (x1 : Int), .int .u64 (x2 : Int), .bool x3, .int .i64 x4] 46)
      have r4 := cell_keep r4 (.cells #[.int .u32 (x0 : Int), .int .u32 (x1 : Int), .int .u64 (x2 : Int), .bool x3, .int .i64 x4] 46)
      have hb07 := below_new hb06 s6 hb7
      have s7 := hb07.size
      have hl8 := (hl7.below (hb7.mono (by omega))).alloc (by omega : w5.heap.size ≤ w7.heap.size) (.cells #[.int .u32 (x0 : Int), .int .u32 (x1 : Int), .int .u64 (x2 : Int), .bool x3, .int .i64 x4] 46)
      have hb08 := hb07.alloc s7 (.cells #[.int .u32 (x0 : Int), .int .u32 (x1 : Int), .int .u64 (x2 : Int), .bool x3, .int .i64 x4] 46)
      have s8 := hb08.size
      have s58 : w5.heap.size ≤ (w7.alloc (.cells #[.int .u32 (x0 : Int), .int .u32 (x1 : Int), .int .u64 (x2 : Int), .bool x3, .int .i64 x4] 46)).heap.size := by simp; omega
      clear hb7 hb06 hl6 hl7 hb07
      go_upto_region 10 with fail
      have q0 : (w7.alloc (.cells #[.int .u32 (x0 : Int), .int .u32 (x1 : Int), .int .u64 (x2 : Int), .bool x3, .int .i64 x4] 46)).cell? ⟨w7.heap.size, 0, none⟩ = some (.int .u32 (x0 : Int)) := World.cell?_alloc_new w7 #[.int .u32 (x0 : Int), .int .u32 (x1 : Int), .int .u64 (x2 : Int), .bool x3, .int .i64 x4] 46 0
      have q1 : (w7.alloc (.cells #[.int .u32 (x0 : Int), .int .u32 (x1 : Int), .int .u64 (x2 : Int), .bool x3, .int .i64 x4] 46)).cell? ⟨w7.heap.size, 1, none⟩ = some (.int .u32 (x1 : Int)) := World.cell?_alloc_new w7 #[.int .u32 (x0 : Int), .int .u32 (x1 : Int), .int .u64 (x2 : Int), .bool x3, .int .i64 x4] 46 1
      have q2 : (w7.alloc (.cells #[.int .u32 (x0 : Int), .int .u32 (x1 : Int), .int .u64 (x2 : Int), .bool x3, .int .i64 x4] 46)).cell? ⟨w7.heap.size, 2, none⟩ = some (.int .u64 (x2 : Int)) := World.cell?_alloc_new w7 #[.int .u32 (x0 : Int), .int .u32 (x1 : Int), .int .u64 (x2 : Int), .bool x3, .int .i64 x4] 46 2
      have q3 : (w7.alloc (.cells #[.int .u32 (x0 : Int), .int .u32 (x1 : Int), .int .u64 (x2 : Int), .bool x3, .int .i64 x4] 46)).cell? ⟨w7.heap.size, 3, none⟩ = some (.bool x3) := World.cell?_alloc_new w7 #[.int .u32 (x0 : Int), .int .u32 (x1 : Int), .int .u64 (x2 : Int), .bool x3, .int .i64 x4] 46 3
      have q4 : (w7.alloc (.cells #[.int .u32 (x0 : Int), .int .u32 (x1 : Int), .int .u64 (x2 : Int), .bool x3, .int .i64 x4] 46)).cell? ⟨w7.heap.size, 4, none⟩ = some (.int .i64 x4) := World.cell?_alloc_new w7 #[.int .u32 (x0 : Int), .int .u32 (x1 : Int), .int .u64 (x2 : Int), .bool x3, .int .i64 x4] 46 4
      have r0 : (w7.alloc (.cells #[.int .u32 (x0 : Int), .int .u32 (x1 : Int), .int .u64 (x2 : Int), .bool x3, .int .i64 x4] 46)).cell? ⟨w6.heap.size, 0, none⟩ = some (.int .u32 (x0 : Int)) := r0
      have r1 : (w7.alloc (.cells #[.int .u32 (x0 : Int), .int .u32 (x1 : Int), .int .u64 (x2 : Int), .bool x3, .int .i64 x4] 46)).cell? ⟨w6.heap.size, 1, none⟩ = some (.int .u32 (x1 : Int)) := r1
      have r2 : (w7.alloc (.cells #[.int .u32 (x0 : Int), .int .u32 (x1 : Int), .int .u64 (x2 : Int), .bool x3, .int .i64 x4] 46)).cell? ⟨w6.heap.size, 2, none⟩ = some (.int .u64 (x2 : Int)) := r2
      have r3 : (w7.alloc (.cells #[.int .u32 (x0 : Int), .int .u32 (x1 : Int), .int .u64 (x2 : Int), .bool x3, .int .i64 x4] 46)).cell? ⟨w6.heap.size, 3, none⟩ = some (.bool x3) := r3
      have r4 : (w7.alloc (.cells #[.int .u32 (x0 : Int), .int .u32 (x1 : Int), .int .u64 (x2 : Int), .bool x3, .int .i64 x4] 46)).cell? ⟨w6.heap.size, 4, none⟩ = some (.int .i64 x4) := r4
      generalize w7.alloc (.cells #[.int .u32 (x0 : Int), .int .u32 (x1 : Int), .int .u64 (x2 : Int), .bool x3, .int .i64 x4] 46) = w8 at *
      rcases hcs with ⟨hn21, rfl, rfl⟩ | ⟨hn21, rfl, rfl, rfl, rfl, rfl, rfl, rfl⟩ | ⟨hn21, rfl, rfl, rfl, rfl, rfl, rfl, rfl⟩
      · go_wp2_with fail
        refine (few_any A n c w.heap.size l _ (h.below hb08) hA s8 hn hc).mono ?_
        rintro e w9 ⟨A5, n5, c5, rfl, hown5, hb9⟩
        have s9 := hb9.size
        have hl9 : Bytes w9 w9.heap.size A5 n5 (l.take 300) := Bytes.own hown5
        have hn5 : n5 ≤ maxLen := by
          obtain ⟨A', c', e, h1, h2⟩ := own_form hown5
          omega
        go_wp2_with fail
        refine (equal_any A2 A5 n2 c2 n5 c5 (l.take 300) (l.take 300) _ _ _ (hl8.below (hb9.mono s58)) hl9 (by omega) hn5).mono ?_
        rintro e w10 ⟨rfl, k6, rfl⟩
        rw [show sameB (l.take 300) (l.take 300) = true from decide_eq_true rfl]
        go_wp2
        go_ret
        exact ⟨rfl, below_drewN (hb08.trans (hb9.mono s8)) _⟩
      · rw [show ((0 : Nat) : Int) = 0 from rfl] at *
        go_wp2
        go_ret
        exact ⟨rfl, hb08⟩
      · rw [show ((0 : Nat) : Int) = 0 from rfl] at *
        go_wp2
        go_ret
        exact ⟨rfl, hb08⟩
  exact hin
end Go.Proofs.YtedoajiapicpnaaDoor
