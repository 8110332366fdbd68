/-
  Layer 19: the walk of DocTexts.
-/
import Derived.Test.YtedoajiapicpnaaDoorDocNexts
import Derived.Test.YtedoajiapicpnaaDoorDocS
import Derived.Test.YtedoajiapicpnaaDoorDocY
namespace Go.Proofs.YtedoajiapicpnaaDoor
open Go.RowKit
attribute [local go_sem ↓] Go.wp_at_zero Go.wp_at_succ

set_option maxHeartbeats 1000000 in
theorem parseRev_full (s : ByteArray) (w : World) (hs : s.size ≤ 1000) :
    Calls Tryd.prog 21 #[.string s] w fun e w' => e = .returned (.tuple #[parV s.data.toList, .int .i64 (parE s.data.toList)]) ∧ Below w.heap.size w w' := by
  by_cases h0 : 0 < s.size
  · exact parseRev_any s w hs h0
  · have hz : s.data.toList = [] := List.eq_nil_of_length_eq_zero (by rw [str_len]; omega)
    have Hr := Lib.hid (show parV s.data.toList = revV 0 0 ∧ parE s.data.toList = 0 by rw [hz]; exact ⟨rfl, rfl⟩)
    have he : s.toList.isEmpty = true := by
      rw [ByteArray.toList_eq, List.isEmpty_iff]
      exact hz
    clear hz h0
    go_enter Tryd.func21, Tryd.ntmps21
    go_wp2
    go_step3
    go_wp2
    rw [Exit.noGoto_ret]
    refine bodyPost_ret (v := .tuple #[.agg #[.int .u32 0, .int .u32 0], .int .i64 0]) (by simp [results, Tryd.results21, go_sem]) rfl ⟨?_, (Below.refl _ _).alloc (Nat.le_refl _) _⟩
    rw [Hr.out.1, Hr.out.2]
    rfl

theorem par_form (l : List UInt8) : ∃ x y : Nat, parV l = .agg #[.int .u32 (x : Int), .int .u32 (y : Int)] := by
  unfold parV
  cases parseOk l with
  | none => exact ⟨0, 0, rfl⟩
  | some p => exact ⟨p.1, p.2, rfl⟩
theorem par_agree (l : List UInt8) : (parE l = 0 ∧ parB l = true) ∨ (parE l = 291 ∧ parB l = false) := by
  unfold parE parB
  cases parseOk l with
  | none => exact .inr ⟨rfl, rfl⟩
  | some p => exact .inl ⟨rfl, rfl⟩
theorem poss_cases (g m : Nat) : (possB g m = false ∧ ofL (revL g m) = ⟨#[]⟩ ∧ revE g m = 291) ∨ (possB g m = true ∧ ofL (revL g m) = ofL (refText g m) ∧ revE g m = 0) := by
  unfold possB revL revE refText
  by_cases hg : g = 0
  · by_cases hm : m = 0
    · refine .inr ⟨by rw [hm]; simp, by rw [if_pos hg, if_pos ⟨hg, hm⟩], by rw [if_neg (fun h => h.2 hm)]⟩
    · refine .inl ⟨by simp [hg, hm], by rw [if_pos hg]; rfl, by rw [if_pos ⟨hg, hm⟩]⟩
  · refine .inr ⟨by simp; omega, by rw [if_neg hg, if_neg (fun h => hg h.1)], by rw [if_neg (fun h => hg h.1)]⟩

set_option maxHeartbeats 1000000 in
theorem docTexts_walk (w : World) (g m : Nat) (hg : g < 4294967296) (hm : m < 4294967296) (s : ByteArray) (hs : s.size ≤ maxLen) (htab : Tab w) :
    Calls Tryd.prog 5 #[revV g m, .string s] w fun e w' => e = .returned (.bool true) ∧ Below w.heap.size w w' := by
  unfold maxLen at hs
  have hv : revV g m = .agg #[.int .u32 (g : Int), .int .u32 (m : Int)] := rfl
  obtain ⟨P, E, T, Hp, He, Ht, hcase⟩ : ∃ (P : Bool) (E : Int) (T : ByteArray), Hid (possB g m = P) ∧ Hid (revE g m = E) ∧ Hid (ofL (revL g m) = T) ∧ ((P = false ∧ E = 291 ∧ T = ⟨#[]⟩) ∨ (P = true ∧ E = 0 ∧ Hid (ofL (refText g m) = T))) := by
    rcases poss_cases g m with ⟨h1, h2, h3⟩ | ⟨h1, h2, h3⟩
    · exact ⟨_, _, _, Lib.hid h1, Lib.hid h3, Lib.hid h2, .inl ⟨rfl, rfl, rfl⟩⟩
    · exact ⟨_, _, _, Lib.hid h1, Lib.hid h3, Lib.hid h2, .inr ⟨rfl, rfl, Lib.hid rfl⟩⟩
  go_enter Tryd.func5, Tryd.ntmps5
  rw [hv]
  go_wp2_with fail
  refine (wakes_any _ (htab.alloc _)).mono ?_
  rintro e w1 ⟨rfl, hb1⟩
  have o0 := new_later hb1 0 rfl
  have o1 := new_later hb1 1 rfl
  have hb01 := ((Below.refl w.heap.size w).alloc (Nat.le_refl _) (.cells #[.int .u32 (g : Int), .int .u32 (m : Int)] 28)).trans (hb1.mono (by simp))
  have s1 := hb01.size
  clear hb1
  by_cases h : s.size ≤ 100
  · have hmn : min (s.size : Int) 100 = (s.size : Int) := by omega
    obtain ⟨x, y, hxy⟩ := par_form s.data.toList
    have hpe := par_agree s.data.toList
    have HV := Lib.hid hxy
    obtain ⟨F, HE⟩ : ∃ F, Hid (parE s.data.toList = F) := ⟨_, Lib.hid rfl⟩
    obtain ⟨G, HB⟩ : ∃ G, Hid (parB s.data.toList = G) := ⟨_, Lib.hid rfl⟩
    rw [HE.out, HB.out] at hpe
    clear hxy
    go_wp2_with fail
    refine (revText_any g m _ hg hm).mono ?_
    rintro e w2 ⟨rfl, hb2⟩
    rw [Ht.out, He.out]
    have o0 := kept_later hb2 o0
    have o1 := kept_later hb2 o1
    have hb02 := hb01.trans (hb2.mono s1)
    have s2 := hb02.size
    clear hb2 hb01
    go_wp2_with fail
    refine (is_any g m _).mono ?_
    rintro e w3 ⟨rfl, hb3⟩
    rw [Hp.out]
    have o0 := kept_later hb3 o0
    have o1 := kept_later hb3 o1
    have hb03 := hb02.trans (hb3.mono s2)
    have s3 := hb03.size
    clear hb3 hb02
    rcases hcase with ⟨rfl, rfl, rfl⟩ | ⟨rfl, rfl, Hq⟩
    · obtain ⟨w4, rfl⟩ : ∃ w4, w4 = w3 := ⟨_, rfl⟩
      have hb04 := hb03
      have s4 := s3
      go_wp2_with fail
      refine (parseRev_full s _ (by omega)).mono ?_
      rintro e w5 ⟨rfl, hb5⟩
      rw [HV.out, HE.out]
      have hb05 := hb04.trans (hb5.mono s4)
      have s5 := hb05.size
      go_wp2_with fail
      refine (refParse_any s _ (by omega)).mono ?_
      rintro e w6 ⟨rfl, hb6⟩
      rw [HV.out, HB.out]
      have r0 := new_later hb6 0 rfl
      have r1 := new_later hb6 1 rfl
      have hb06 := below_new hb05 s5 hb6
      have s6 := hb06.size
      have z6 : w5.heap.size < w6.heap.size := World.block_lt_of_cell? w6 _ r0
      have r0 := cell_keep r0 (.cells #[.int .u32 (x : Int), .int .u32 (y : Int)] 28)
      have r1 := cell_keep r1 (.cells #[.int .u32 (x : Int), .int .u32 (y : Int)] 28)
      clear hb6 hb05 hb5 hb04
      rcases hpe with ⟨rfl, rfl⟩ | ⟨rfl, rfl⟩
      · go_wp2
        go_ret
        exact ⟨rfl, hb06.alloc s6 _⟩
      · go_wp2
        go_ret
        exact ⟨rfl, hb06.alloc s6 _⟩
    · go_wp2_with fail
      refine (refText_any g m _ hg hm).mono ?_
      rintro e w4 ⟨rfl, hb4⟩
      rw [Hq.out]
      have hb04 := hb03.trans (hb4.mono s3)
      have s4 := hb04.size
      clear hb4
      have hself : (!(T.toList == T.toList)) = false := by simp
      go_wp2_with fail
      refine (parseRev_full s _ (by omega)).mono ?_
      rintro e w5 ⟨rfl, hb5⟩
      rw [HV.out, HE.out]
      have hb05 := hb04.trans (hb5.mono s4)
      have s5 := hb05.size
      go_wp2_with fail
      refine (refParse_any s _ (by omega)).mono ?_
      rintro e w6 ⟨rfl, hb6⟩
      rw [HV.out, HB.out]
      have r0 := new_later hb6 0 rfl
      have r1 := new_later hb6 1 rfl
      have hb06 := below_new hb05 s5 hb6
      have s6 := hb06.size
      have z6 : w5.heap.size < w6.heap.size := World.block_lt_of_cell? w6 _ r0
      have r0 := cell_keep r0 (.cells #[.int .u32 (x : Int), .int .u32 (y : Int)] 28)
      have r1 := cell_keep r1 (.cells #[.int .u32 (x : Int), .int .u32 (y : Int)] 28)
      clear hb6 hb05 hb5 hb04
      rcases hpe with ⟨rfl, rfl⟩ | ⟨rfl, rfl⟩
      · go_wp2
        go_ret
        exact ⟨rfl, hb06.alloc s6 _⟩
      · go_wp2
        go_ret
        exact ⟨rfl, hb06.alloc s6 _⟩
  · have hmn : min (s.size : Int) 100 = 100 := by omega
    have h2 : 100 < s.size := by omega
    have hS : (s.extract 0 100).size ≤ 100 := by rw [ByteArray.size_extract]; omega
    clear h
    go_upto_region 4 with fail
    generalize s.extract 0 100 = S at *
    obtain ⟨x, y, hxy⟩ := par_form S.data.toList
    have hpe := par_agree S.data.toList
    have HV := Lib.hid hxy
    obtain ⟨F, HE⟩ : ∃ F, Hid (parE S.data.toList = F) := ⟨_, Lib.hid rfl⟩
    obtain ⟨G, HB⟩ : ∃ G, Hid (parB S.data.toList = G) := ⟨_, Lib.hid rfl⟩
    rw [HE.out, HB.out] at hpe
    clear hxy
    go_wp2_with fail
    refine (revText_any g m _ hg hm).mono ?_
    rintro e w2 ⟨rfl, hb2⟩
    rw [Ht.out, He.out]
    have o0 := kept_later hb2 o0
    have o1 := kept_later hb2 o1
    have hb02 := hb01.trans (hb2.mono s1)
    have s2 := hb02.size
    clear hb2 hb01
    go_wp2_with fail
    refine (is_any g m _).mono ?_
    rintro e w3 ⟨rfl, hb3⟩
    rw [Hp.out]
    have o0 := kept_later hb3 o0
    have o1 := kept_later hb3 o1
    have hb03 := hb02.trans (hb3.mono s2)
    have s3 := hb03.size
    clear hb3 hb02
    rcases hcase with ⟨rfl, rfl, rfl⟩ | ⟨rfl, rfl, Hq⟩
    · obtain ⟨w4, rfl⟩ : ∃ w4, w4 = w3 := ⟨_, rfl⟩
      have hb04 := hb03
      have s4 := s3
      go_wp2_with fail
      refine (parseRev_full S _ (by omega)).mono ?_
      rintro e w5 ⟨rfl, hb5⟩
      rw [HV.out, HE.out]
      have hb05 := hb04.trans (hb5.mono s4)
      have s5 := hb05.size
      go_wp2_with fail
      refine (refParse_any S _ (by omega)).mono ?_
      rintro e w6 ⟨rfl, hb6⟩
      rw [HV.out, HB.out]
      have r0 := new_later hb6 0 rfl
      have r1 := new_later hb6 1 rfl
      have hb06 := below_new hb05 s5 hb6
      have s6 := hb06.size
      have z6 : w5.heap.size < w6.heap.size := World.block_lt_of_cell? w6 _ r0
      have r0 := cell_keep r0 (.cells #[.int .u32 (x : Int), .int .u32 (y : Int)] 28)
      have r1 := cell_keep r1 (.cells #[.int .u32 (x : Int), .int .u32 (y : Int)] 28)
      clear hb6 hb05 hb5 hb04
      rcases hpe with ⟨rfl, rfl⟩ | ⟨rfl, rfl⟩
      · go_wp2
        go_ret
        exact ⟨rfl, hb06.alloc s6 _⟩
      · go_wp2
        go_ret
        exact ⟨rfl, hb06.alloc s6 _⟩
    · go_wp2_with fail
      refine (refText_any g m _ hg hm).mono ?_
      rintro e w4 ⟨rfl, hb4⟩
      rw [Hq.out]
      have hb04 := hb03.trans (hb4.mono s3)
      have s4 := hb04.size
      clear hb4
      have hself : (!(T.toList == T.toList)) = false := by simp
      go_wp2_with fail
      refine (parseRev_full S _ (by omega)).mono ?_
      rintro e w5 ⟨rfl, hb5⟩
      rw [HV.out, HE.out]
      have hb05 := hb04.trans (hb5.mono s4)
      have s5 := hb05.size
      go_wp2_with fail
      refine (refParse_any S _ (by omega)).mono ?_
      rintro e w6 ⟨rfl, hb6⟩
      rw [HV.out, HB.out]
      have r0 := new_later hb6 0 rfl
      have r1 := new_later hb6 1 rfl
      have hb06 := below_new hb05 s5 hb6
      have s6 := hb06.size
      have z6 : w5.heap.size < w6.heap.size := World.block_lt_of_cell? w6 _ r0
      have r0 := cell_keep r0 (.cells #[.int .u32 (x : Int), .int .u32 (y : Int)] 28)
      have r1 := cell_keep r1 (.cells #[.int .u32 (x : Int), .int .u32 (y : Int)] 28)
      clear hb6 hb05 hb5 hb04
      rcases hpe with ⟨rfl, rfl⟩ | ⟨rfl, rfl⟩
      · go_wp2
        go_ret
        exact ⟨rfl, hb06.alloc s6 _⟩
      · go_wp2
        go_ret
        exact ⟨rfl, hb06.alloc s6 _⟩
end Go.Proofs.YtedoajiapicpnaaDoor
