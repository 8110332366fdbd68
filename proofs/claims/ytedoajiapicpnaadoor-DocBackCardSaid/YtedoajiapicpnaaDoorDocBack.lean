/-
  Layer 19: the walk of DocBack.
-/
import Derived.Test.YtedoajiapicpnaaDoorDocBb
namespace Go.Proofs.YtedoajiapicpnaaDoor
open Go.RowKit
attribute [local go_sem ↓] Go.wp_at_zero Go.wp_at_succ

set_option maxRecDepth 100000 in
set_option maxHeartbeats 2000000 in
theorem docBack_walk (w : World) (g m : Nat) (hg : g < 4294967296) (hm : m < 4294967296) (s : ByteArray) (hs : s.size ≤ maxLen) (htab : Tab w) :
    Calls Tryd.prog 7 #[revV g m, .string s] w fun e w' => e = .returned (.bool true) ∧ Below w.heap.size w w' := by
  unfold maxLen at hs
  have hv : revV g m = .agg #[.int .u32 (g : Int), .int .u32 (m : Int)] := rfl
  have hE : revE g m = 0 ∨ (revE g m = 291 ∧ g = 0 ∧ 0 < m) := by
    unfold revE
    by_cases h : g = 0 ∧ m ≠ 0
    · rw [if_pos h]; exact .inr ⟨rfl, h.1, by omega⟩
    · rw [if_neg h]; exact .inl rfl
  rcases hE with hE | ⟨hE, hg0, hm0⟩
  · obtain ⟨hlow, hlen⟩ := low_rev g m hg hm
    obtain ⟨hpv, hpe⟩ := par_rev g m hg hm hE
    obtain ⟨T, hT⟩ : ∃ T, ofL (revL g m) = T := ⟨_, rfl⟩
    have hTl : T.data.toList = revL g m := by rw [← hT]; exact ofL_toList _
    have hTs : T.size ≤ 19 := by rw [← str_len, hTl]; exact hlen
    have HT := Lib.hid hT
    have HTl := Lib.hid hTl
    have HR := Lib.hid hE
    have HL := Lib.hid (show ∀ c ∈ T.data.toList, lowP c by rw [hTl]; exact hlow)
    have HP := Lib.hid (show parV T.data.toList = .agg #[.int .u32 (g : Int), .int .u32 (m : Int)] by rw [hTl, hpv]; rfl)
    have HQ := Lib.hid (show parE T.data.toList = 0 by rw [hTl, hpe])
    have hself : (!(T.toList == T.toList)) = false := by simp
    have hTi : (T.size : Int) ≤ 19 := by omega
    clear hT hTl hE hlow hlen hpv hpe
    go_enter Tryd.func7, Tryd.ntmps7
    rw [hv]
    go_wp2_with fail
    refine (wakes_any _ (htab.alloc _)).mono ?_
    rintro e w1 ⟨rfl, hb1⟩
    have o0 := new_later hb1 0 rfl
    have o1 := new_later hb1 1 rfl
    have hb01 := ((Below.refl w.heap.size w).alloc (Nat.le_refl _) (.cells #[.int .u32 (g : Int), .int .u32 (m : Int)] 28)).trans (hb1.mono (by simp))
    clear hb1
    go_wp2_with fail
    refine (revText_any g m _ hg hm).mono ?_
    rintro e w2 ⟨rfl, hb2⟩
    rw [HT.out, HR.out]
    have o0 := kept_later hb2 o0
    have o1 := kept_later hb2 o1
    have hb02 := hb01.trans (hb2.mono hb01.size)
    clear hb2 hb01
    go_wp2_with fail
    refine (parseRev_full T _ (by omega)).mono ?_
    rintro e w3 ⟨rfl, hb3⟩
    rw [HP.out, HQ.out]
    have o0 := cell_keep (kept_later hb3 o0) (.cells #[.int .u32 (g : Int), .int .u32 (m : Int)] 28)
    have o1 := cell_keep (kept_later hb3 o1) (.cells #[.int .u32 (g : Int), .int .u32 (m : Int)] 28)
    have hb03 := hb02.trans (hb3.mono hb02.size)
    have hb05 := hb03.alloc hb03.size (.cells #[.int .u32 (g : Int), .int .u32 (m : Int)] 28)
    clear hb3 hb02 hb03
    go_wp2_with fail
    refine (low_any T _ (by omega) HL.out).mono ?_
    rintro e w4 ⟨rfl, rfl⟩
    by_cases h : s.size ≤ 100
    · have hmn : min (s.size : Int) 100 = (s.size : Int) := by omega
      go_wp2_with fail
      refine (parseRev_full s _ (by omega)).mono ?_
      rintro e w6 ⟨rfl, hb6⟩
      have o0 := kept_later hb6 o0
      have o1 := kept_later hb6 o1
      have hb06 := hb05.trans (hb6.mono hb05.size)
      clear hb6 hb05
      cases hp : parseOk s.data.toList with
      | none =>
        have HV := Lib.hid (show parV s.data.toList = .agg #[.int .u32 0, .int .u32 0] by unfold parV; rw [hp]; rfl)
        have HE := Lib.hid (show parE s.data.toList = 291 by unfold parE; rw [hp])
        have hne : (!(s.toList == T.toList)) = true := by
          rw [Bool.not_eq_true', beq_eq_false_iff_ne, ByteArray.toList_eq, ByteArray.toList_eq, HTl.out]
          exact rev_not g m _ hg hm HR.out hp
        clear hp
        rw [HV.out, HE.out]
        go_wp2
        go_ret
        exact ⟨rfl, hb06.alloc hb06.size _⟩
      | some xy =>
        obtain ⟨x, y⟩ := xy
        obtain ⟨hb1, hb2, hb3, hb4⟩ := parse_back _ x y hp
        have hif := rev_iff g m x y _ hg hm HR.out hp
        have HV := Lib.hid (show parV s.data.toList = .agg #[.int .u32 (x : Int), .int .u32 (y : Int)] by unfold parV; rw [hp]; rfl)
        have HE := Lib.hid (show parE s.data.toList = 0 by unfold parE; rw [hp])
        have HO := Lib.hid (show ofL (revL x y) = s by rw [hb1]; exact ofL_of s)
        have HR2 := Lib.hid hb2
        have hss : (s.toList == s.toList) = true := by simp
        have hcase : (((x : Int) == (g : Int)) = true ∧ ((y : Int) == (m : Int)) = true ∧ (s.toList == T.toList) = true) ∨ (((x : Int) == (g : Int)) = false ∧ (s.toList == T.toList) = false) ∨ (((x : Int) == (g : Int)) = true ∧ ((y : Int) == (m : Int)) = false ∧ (s.toList == T.toList) = false) := by
          have hst : (s.toList == T.toList) = true ↔ s.data.toList = revL g m := by rw [beq_iff_eq, ByteArray.toList_eq, ByteArray.toList_eq, HTl.out]
          by_cases h1 : x = g
          · by_cases h2 : y = m
            · exact .inl ⟨by simp [h1], by simp [h2], hst.2 (hif.1 ⟨h1, h2⟩)⟩
            · refine .inr (.inr ⟨by simp [h1], by rw [beq_eq_false_iff_ne]; omega, ?_⟩)
              rw [Bool.eq_false_iff]
              exact fun h => h2 (hif.2 (hst.1 h)).2
          · refine .inr (.inl ⟨by rw [beq_eq_false_iff_ne]; omega, ?_⟩)
            rw [Bool.eq_false_iff]
            exact fun h => h1 (hif.2 (hst.1 h)).1
        clear hp hb1 hb2 hif
        rw [HV.out, HE.out]
        go_wp2_with fail
        refine (revText_any x y _ hb3 hb4).mono ?_
        rintro e w7 ⟨rfl, hb7⟩
        rw [HO.out, HR2.out]
        have q0 := new_later hb7 0 rfl
        have q1 := new_later hb7 1 rfl
        have o0 := kept_later hb7 (cell_keep o0 _)
        have o1 := kept_later hb7 (cell_keep o1 _)
        have hb07 := (hb06.alloc hb06.size _).trans (hb7.mono (by have := hb06.size; simp; omega))
        clear hb7 hb06
        rcases hcase with ⟨e1, e2, e3⟩ | ⟨e1, e3⟩ | ⟨e1, e2, e3⟩
        all_goals
          go_wp2
          go_ret
          exact ⟨rfl, hb07⟩
    · have hmn : min (s.size : Int) 100 = 100 := by omega
      have h2 : 100 < s.size := by omega
      have hS : (s.extract 0 100).size ≤ 100 := by rw [ByteArray.size_extract]; omega
      clear h
      go_upto_region 10 with fail
      generalize s.extract 0 100 = S at *
      go_wp2_with fail
      refine (parseRev_full S _ (by omega)).mono ?_
      rintro e w6 ⟨rfl, hb6⟩
      have o0 := kept_later hb6 o0
      have o1 := kept_later hb6 o1
      have hb06 := hb05.trans (hb6.mono hb05.size)
      clear hb6 hb05
      cases hp : parseOk S.data.toList with
      | none =>
        have HV := Lib.hid (show parV S.data.toList = .agg #[.int .u32 0, .int .u32 0] by unfold parV; rw [hp]; rfl)
        have HE := Lib.hid (show parE S.data.toList = 291 by unfold parE; rw [hp])
        have hne : (!(S.toList == T.toList)) = true := by
          rw [Bool.not_eq_true', beq_eq_false_iff_ne, ByteArray.toList_eq, ByteArray.toList_eq, HTl.out]
          exact rev_not g m _ hg hm HR.out hp
        clear hp
        rw [HV.out, HE.out]
        go_wp2
        go_ret
        exact ⟨rfl, hb06.alloc hb06.size _⟩
      | some xy =>
        obtain ⟨x, y⟩ := xy
        obtain ⟨hb1, hb2, hb3, hb4⟩ := parse_back _ x y hp
        have hif := rev_iff g m x y _ hg hm HR.out hp
        have HV := Lib.hid (show parV S.data.toList = .agg #[.int .u32 (x : Int), .int .u32 (y : Int)] by unfold parV; rw [hp]; rfl)
        have HE := Lib.hid (show parE S.data.toList = 0 by unfold parE; rw [hp])
        have HO := Lib.hid (show ofL (revL x y) = S by rw [hb1]; exact ofL_of S)
        have HR2 := Lib.hid hb2
        have hss : (S.toList == S.toList) = true := by simp
        have hcase : (((x : Int) == (g : Int)) = true ∧ ((y : Int) == (m : Int)) = true ∧ (S.toList == T.toList) = true) ∨ (((x : Int) == (g : Int)) = false ∧ (S.toList == T.toList) = false) ∨ (((x : Int) == (g : Int)) = true ∧ ((y : Int) == (m : Int)) = false ∧ (S.toList == T.toList) = false) := by
          have hst : (S.toList == T.toList) = true ↔ S.data.toList = revL g m := by rw [beq_iff_eq, ByteArray.toList_eq, ByteArray.toList_eq, HTl.out]
          by_cases h1 : x = g
          · by_cases h2 : y = m
            · exact .inl ⟨by simp [h1], by simp [h2], hst.2 (hif.1 ⟨h1, h2⟩)⟩
            · refine .inr (.inr ⟨by simp [h1], by rw [beq_eq_false_iff_ne]; omega, ?_⟩)
              rw [Bool.eq_false_iff]
              exact fun h => h2 (hif.2 (hst.1 h)).2
          · refine .inr (.inl ⟨by rw [beq_eq_false_iff_ne]; omega, ?_⟩)
            rw [Bool.eq_false_iff]
            exact fun h => h1 (hif.2 (hst.1 h)).1
        clear hp hb1 hb2 hif
        rw [HV.out, HE.out]
        go_wp2_with fail
        refine (revText_any x y _ hb3 hb4).mono ?_
        rintro e w7 ⟨rfl, hb7⟩
        rw [HO.out, HR2.out]
        have q0 := new_later hb7 0 rfl
        have q1 := new_later hb7 1 rfl
        have o0 := kept_later hb7 (cell_keep o0 _)
        have o1 := kept_later hb7 (cell_keep o1 _)
        have hb07 := (hb06.alloc hb06.size _).trans (hb7.mono (by have := hb06.size; simp; omega))
        clear hb7 hb06
        rcases hcase with ⟨e1, e2, e3⟩ | ⟨e1, e3⟩ | ⟨e1, e2, e3⟩
        all_goals
          go_wp2
          go_ret
          exact ⟨rfl, hb07⟩
  · have hmp : decide (0 < m) = true := decide_eq_true hm0
    have HR := Lib.hid hE
    subst hg0
    clear hE hm0
    go_enter Tryd.func7, Tryd.ntmps7
    rw [hv]
    go_wp2_with fail
    refine (wakes_any _ (htab.alloc _)).mono ?_
    rintro e w1 ⟨rfl, hb1⟩
    have o0 := new_later hb1 0 rfl
    have o1 := new_later hb1 1 rfl
    have hb01 := ((Below.refl w.heap.size w).alloc (Nat.le_refl _) (.cells #[.int .u32 ((0 : Nat) : Int), .int .u32 (m : Int)] 28)).trans (hb1.mono (by simp))
    clear hb1
    go_wp2_with fail
    refine (revText_any 0 m _ hg hm).mono ?_
    rintro e w2 ⟨rfl, hb2⟩
    rw [HR.out]
    have o0 := kept_later hb2 o0
    have o1 := kept_later hb2 o1
    have hb02 := hb01.trans (hb2.mono hb01.size)
    clear hb2 hb01
    go_wp2
    go_ret
    exact ⟨rfl, hb02⟩
end Go.Proofs.YtedoajiapicpnaaDoor
