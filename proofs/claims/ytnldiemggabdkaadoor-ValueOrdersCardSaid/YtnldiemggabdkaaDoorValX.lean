/-
  Layer 4: Len; At.
-/
import Derived.Test.YtnldiemggabdkaaDoorValW
namespace Go.Proofs.YtnldiemggabdkaaDoor
open Go.RowKit
set_option linter.unusedVariables false

theorem ok_fit {k n : Int} {s : ByteArray} {cA : Option Addr} {cn cc : Nat} {kA : Option Addr} {kn kc : Nat} {keys : List ByteArray} {kids : List VT} (h : (VT.mk k n s cA cn cc kA kn kc keys kids).ok = true) : (VT.mk k n s cA cn cc kA kn kc keys kids).fit = true := by
  unfold VT.ok at h
  rw [all_mk] at h
  simp only [Bool.and_eq_true] at h
  exact h.2.2.1
theorem ok_text {n : Int} {s : ByteArray} {cA : Option Addr} {cn cc : Nat} {kA : Option Addr} {kn kc : Nat} {keys : List ByteArray} {kids : List VT} (h : (VT.mk 4 n s cA cn cc kA kn kc keys kids).ok = true) : (ptsL s.data.toList).2 = s.data.toList.length := by
  have := ok_fit h
  rw [fit_mk] at this
  simp only [Bool.and_eq_true] at this
  have hs := this.2.2.1
  unfold strB strQ at hs
  rw [Bool.or_eq_true, Bool.and_eq_true] at hs
  rcases hs with hs | ⟨_, hs⟩
  · have he : s.data.toList = [] := by rw [← ByteArray.toList_eq]; exact List.isEmpty_iff.1 hs
    rw [he, pts_zero (l := []) rfl]; rfl
  · unfold validS at hs
    exact of_decide_eq_true hs
set_option maxRecDepth 20000 in
set_option maxHeartbeats 1000000 in
theorem len_any (B : Nat) (w : World) (T : VT) (hL : Lie w B T) (hB : B ≤ w.heap.size) (hs : T.s.size ≤ 1000000) (htab : UTab w) (hst : STab w) :
    Calls Tryd.prog 25 #[T.agg] w fun e w' => e = .returned (lenR T) ∧ Below w.heap.size w w' := by
  obtain ⟨k, n, s, cA, cn, cc, kA, kn, kc, keys, kids⟩ := T
  have hb := bel_alloc (Below.refl w.heap.size w) (.cells #[.int .i64 k, .int .i64 n, .string s, .slice cA cn cc, .slice kA kn kc] 25)
  have Hv := Lib.hid (show VFive (w.alloc (.cells #[.int .i64 k, .int .i64 n, .string s, .slice cA cn cc, .slice kA kn kc] 25)) w.heap.size (.int .i64 k) (.int .i64 n) (.string s) (.slice cA cn cc) (.slice kA kn kc) from VFive.new _ _ _ _ _ _ _ _ rfl)
  have hvd := valid_any B _ (.mk k n s cA cn cc kA kn kc keys kids) (hL.later (hb.mono hB)) (Nat.le_trans hB hb.size) (htab.below hb htab.lt) (hst.below hb hst.lt)
  have hkl : kids.length = cn := by cases hL with | mk hc _ _ _ => exact kids_len hc
  have Hkl := Lib.hid hkl
  have hs : s.size ≤ 1000000 := hs
  by_cases hok : VT.ok (.mk k n s cA cn cc kA kn kc keys kids) = true
  · rw [hok] at hvd
    simp only [VT.agg] at hvd ⊢
    by_cases h4 : k = 4
    · subst h4
      have hR := Lib.hid (show lenR (.mk 4 n s cA cn cc kA kn kc keys kids) = .tuple #[.int .i64 ((nats (ptsL s.data.toList).1).length : Nat), .bool true] by unfold lenR; rw [if_pos hok]; rfl)
      have hp := fun W (h : Below w.heap.size w W) => points_yes s _ rfl W hs (htab.below h htab.lt) (ok_text hok)
      rw [hR.out]
      generalize (nats (ptsL s.data.toList).1) = X at *
      clear hok hL hkl
      go_enter Tryd.func25, Tryd.ntmps25
      go_wp2_with fail
      refine hvd.mono ?_
      rintro e w1 ⟨rfl, hb1⟩
      have hb2 := bel_next hb hb1
      obtain ⟨⟨e0, e1, e2, e3, e4⟩, -⟩ := Hv.out.later hb1
      go_wp2_with fail
      refine (hp _ hb2).mono ?_
      rintro e w2 ⟨A', n', c', rfl, hown, hb3⟩
      have hl := hown.1
      rw [List.length_map, Nat.mul_one] at hl
      go_wp2
      go_ret2
      exact ⟨by rw [hl]; rfl, bel_next hb2 hb3⟩
    · have h4' : (k == 4) = false := by rw [beq_eq_false_iff_ne]; exact h4
      have hho := vholder_any k (.int .i64 n) (.string s) (.slice cA cn cc) (.slice kA kn kc)
      cases hho2 : (k == 5 || k == 6)
      · have hR := Lib.hid (show lenR (.mk k n s cA cn cc kA kn kc keys kids) = .tuple #[.int .i64 0, .bool false] by unfold lenR; rw [if_pos hok, if_neg (show ¬ VT.k (.mk k n s cA cn cc kA kn kc keys kids) = 4 from h4)]; show (if (k == 5 || k == 6) = true then _ else _) = _; rw [hho2]; rfl)
        rw [hho2] at hho
        rw [hR.out]
        clear hok hL hkl hho2 h4
        go_enter Tryd.func25, Tryd.ntmps25
        go_wp2_with fail
        refine hvd.mono ?_
        rintro e w1 ⟨rfl, hb1⟩
        have hb2 := bel_next hb hb1
        obtain ⟨⟨e0, e1, e2, e3, e4⟩, -⟩ := Hv.out.later hb1
        go_wp2_with fail
        refine (hho _).mono ?_
        rintro e w2 ⟨rfl, hb3⟩
        go_wp2
        go_ret2
        exact ⟨rfl, bel_next hb2 hb3⟩
      · have hR := Lib.hid (show lenR (.mk k n s cA cn cc kA kn kc keys kids) = .tuple #[.int .i64 (cn : Nat), .bool true] by unfold lenR; rw [if_pos hok, if_neg (show ¬ VT.k (.mk k n s cA cn cc kA kn kc keys kids) = 4 from h4)]; show (if (k == 5 || k == 6) = true then _ else _) = _; rw [hho2, if_pos rfl]; show Value.tuple #[.int .i64 ((kids.length : Nat) : Int), _] = _; rw [Hkl.out])
        rw [hho2] at hho
        rw [hR.out]
        clear hok hL hkl hho2 h4
        go_enter Tryd.func25, Tryd.ntmps25
        go_wp2_with fail
        refine hvd.mono ?_
        rintro e w1 ⟨rfl, hb1⟩
        have hb2 := bel_next hb hb1
        obtain ⟨⟨e0, e1, e2, e3, e4⟩, -⟩ := Hv.out.later hb1
        go_wp2_with fail
        refine (hho _).mono ?_
        rintro e w2 ⟨rfl, hb3⟩
        obtain ⟨⟨k0, k1, k2, k3, k4⟩, -⟩ := (Hv.out.later hb1).later hb3
        clear e0 e1 e2 e3 e4
        go_wp2
        go_ret2
        exact ⟨rfl, bel_next hb2 hb3⟩
  · have hR := Lib.hid (show lenR (.mk k n s cA cn cc kA kn kc keys kids) = .tuple #[.int .i64 0, .bool false] by unfold lenR; rw [if_neg hok])
    rw [show VT.ok (.mk k n s cA cn cc kA kn kc keys kids) = false by simpa using hok] at hvd
    simp only [VT.agg] at hvd ⊢
    rw [hR.out]
    clear hok hL hkl
    go_enter Tryd.func25, Tryd.ntmps25
    go_wp2_with fail
    refine hvd.mono ?_
    rintro e w1 ⟨rfl, hb1⟩
    go_wp2
    go_ret2
    exact ⟨rfl, bel_next hb hb1⟩

/-- What At tells. -/
def atR (T : VT) (i : Int) : Option VT := if T.ok = true ∧ T.k = 5 ∧ 0 ≤ i then T.kids[i.toNat]? else none
set_option maxRecDepth 20000 in
set_option maxHeartbeats 1000000 in
theorem at_any (B : Nat) (w : World) (T : VT) (i : Int) (hL : Lie w B T) (hB : B ≤ w.heap.size) (htab : UTab w) (hst : STab w) :
    Calls Tryd.prog 22 #[T.agg, .int .i64 i] w fun e w' => e = .returned (memR (atR T i)) ∧ Below w.heap.size w w' := by
  obtain ⟨k, n, s, cA, cn, cc, kA, kn, kc, keys, kids⟩ := T
  obtain ⟨hb, hsz, hv, hz⟩ := vbox2 w k n s cA cn cc kA kn kc _ rfl
  have hL' := hL
  cases hL' with | mk hc hk hzz hkid =>
  have hlc := kids_len hc
  have hcm : cn ≤ maxLen := Nat.le_trans hzz.c1 hzz.c2
  have hvd := valid_any B _ (.mk k n s cA cn cc kA kn kc keys kids) (hL.later (hb.mono hB)) (Nat.le_trans hB hb.size) (htab.below hb htab.lt) (hst.below hb hst.lt)
  have hle1 : w.heap.size ≤ w.heap.size + 1 := Nat.le_succ _
  have Hv := Lib.hid hv
  have Hz := Lib.hid hz
  have HC := Lib.hid hc
  have HR := Lib.hid (show atR (.mk k n s cA cn cc kA kn kc keys kids) i = if VT.ok (.mk k n s cA cn cc kA kn kc keys kids) = true ∧ k = 5 ∧ 0 ≤ i then kids[i.toNat]? else none from rfl)
  have Hlc := Lib.hid hlc
  simp only [VT.agg] at hvd ⊢
  generalize VT.ok (.mk k n s cA cn cc kA kn kc keys kids) = ok at *
  have no : ∀ (h : atR (.mk k n s cA cn cc kA kn kc keys kids) i = none), memR (atR (.mk k n s cA cn cc kA kn kc keys kids) i) = .tuple #[.agg #[.int .i64 0, .int .i64 0, .string ⟨#[]⟩, .slice none 0 0, .slice none 0 0], .bool false] := fun h => by rw [h]; rfl
  have No := Lib.hid no
  clear hL hsz hv hz hk hc hkid hzz hlc no
  cases ok
  · have HN := Lib.hid (No.out (by rw [HR.out, if_neg (by simp)]))
    rw [HN.out]
    go_enter Tryd.func22, Tryd.ntmps22
    go_wp2_with fail
    refine hvd.mono ?_
    rintro e w1 ⟨rfl, hb1⟩
    obtain ⟨⟨e0, e1, e2, e3, e4⟩, f0, f1, f2, f3, f4⟩ := Hz.out.later hb1
    have hb2 := bel_next hb hb1
    go_wp2
    refine bodyPost_ret (v := .tuple #[.agg #[.int .i64 0, .int .i64 0, .string ⟨#[]⟩, .slice none 0 0, .slice none 0 0], .bool false]) ?_ rfl ⟨rfl, vbelow_set5 hb2 hle1⟩
    simp [results, Tryd.results22, go_sem, *]
  · by_cases h5 : k = 5
    · subst h5
      by_cases hi0 : 0 ≤ i
      · by_cases hin : i < cn
        · obtain ⟨m, rfl⟩ := Int.eq_ofNat_of_zero_le hi0
          have hmn : m < cn := by omega
          have hin' : ((m : Int) < (cn : Int)) := hin
          have hng : (((cn : Nat) : Int) ≤ (m : Int)) = False := by simp; omega
          have hlt0 : ((m : Int) < 0) = False := by simp
          obtain ⟨b, off, T', rfl, hbb, hT', h5⟩ := kids_at HC.out hmn
          have hcells := fun W (h : Below w.heap.size w W) => kids_at (HC.out.below (h.mono hB)) hmn
          obtain ⟨k', n', s', cA', cn', cc', kA', kn', kc', keys', kids'⟩ := T'
          have HT := Lib.hid (show memR (atR (.mk 5 n s (some ⟨b, off, none⟩) cn cc kA kn kc keys kids) (m : Int)) = .tuple #[.agg #[.int .i64 k', .int .i64 n', .string s', .slice cA' cn' cc', .slice kA' kn' kc'], .bool true] by
            rw [HR.out, if_pos ⟨rfl, rfl, by omega⟩, Int.toNat_natCast, hT']; rfl)
          have HT' := Lib.hid hT'
          rw [HT.out]
          clear h5 hT'
          go_enter Tryd.func22, Tryd.ntmps22
          go_wp2_with fail
          refine hvd.mono ?_
          rintro e w1 ⟨rfl, hb1⟩
          obtain ⟨⟨e0, e1, e2, e3, e4⟩, f0, f1, f2, f3, f4⟩ := Hz.out.later hb1
          obtain ⟨⟨d0, d1, d2, d3, d4⟩, -⟩ := Hv.out.later hb1
          have hb2 := bel_next hb hb1
          obtain ⟨b2, off2, T2, e, _, hT2, h52⟩ := hcells w1 hb2
          injection e with e
          injection e with e1' e2'
          subst e1'; subst e2'
          rw [HT'.out] at hT2
          injection hT2 with hT2
          subst hT2
          obtain ⟨g0, g1, g2, g3, g4⟩ := h52
          clear hcells
          go_wp2
          refine bodyPost_ret (v := .tuple #[.agg #[.int .i64 k', .int .i64 n', .string s', .slice cA' cn' cc', .slice kA' kn' kc'], .bool true]) ?_ rfl ⟨rfl, vbelow_set5 hb2 hle1⟩
          simp [results, Tryd.results22, go_sem, *]
        · have HN := Lib.hid (No.out (by rw [HR.out]; split; exact List.getElem?_eq_none (by rw [Hlc.out]; omega); rfl))
          have hge : ((cn : Nat) : Int) ≤ i := by omega
          have hlt0 : (i < 0) = False := by simp; omega
          rw [HN.out]
          go_enter Tryd.func22, Tryd.ntmps22
          go_wp2_with fail
          refine hvd.mono ?_
          rintro e w1 ⟨rfl, hb1⟩
          obtain ⟨⟨e0, e1, e2, e3, e4⟩, f0, f1, f2, f3, f4⟩ := Hz.out.later hb1
          obtain ⟨⟨d0, d1, d2, d3, d4⟩, -⟩ := Hv.out.later hb1
          have hb2 := bel_next hb hb1
          go_wp2
          refine bodyPost_ret (v := .tuple #[.agg #[.int .i64 0, .int .i64 0, .string ⟨#[]⟩, .slice none 0 0, .slice none 0 0], .bool false]) ?_ rfl ⟨rfl, vbelow_set5 hb2 hle1⟩
          simp [results, Tryd.results22, go_sem, *]
      · have HN := Lib.hid (No.out (by rw [HR.out, if_neg (fun h => hi0 h.2.2)]))
        have hlt0 : i < 0 := by omega
        rw [HN.out]
        go_enter Tryd.func22, Tryd.ntmps22
        go_wp2_with fail
        refine hvd.mono ?_
        rintro e w1 ⟨rfl, hb1⟩
        obtain ⟨⟨e0, e1, e2, e3, e4⟩, f0, f1, f2, f3, f4⟩ := Hz.out.later hb1
        obtain ⟨⟨d0, d1, d2, d3, d4⟩, -⟩ := Hv.out.later hb1
        have hb2 := bel_next hb hb1
        go_wp2
        refine bodyPost_ret (v := .tuple #[.agg #[.int .i64 0, .int .i64 0, .string ⟨#[]⟩, .slice none 0 0, .slice none 0 0], .bool false]) ?_ rfl ⟨rfl, vbelow_set5 hb2 hle1⟩
        simp [results, Tryd.results22, go_sem, *]
    · have HN := Lib.hid (No.out (by rw [HR.out, if_neg (fun h => h5 h.2.1)]))
      have h5' : (k != 5) = true := by rw [bne_iff_ne]; exact h5
      rw [HN.out]
      go_enter Tryd.func22, Tryd.ntmps22
      go_wp2_with fail
      refine hvd.mono ?_
      rintro e w1 ⟨rfl, hb1⟩
      obtain ⟨⟨e0, e1, e2, e3, e4⟩, f0, f1, f2, f3, f4⟩ := Hz.out.later hb1
      obtain ⟨⟨d0, d1, d2, d3, d4⟩, -⟩ := Hv.out.later hb1
      have hb2 := bel_next hb hb1
      go_wp2
      refine bodyPost_ret (v := .tuple #[.agg #[.int .i64 0, .int .i64 0, .string ⟨#[]⟩, .slice none 0 0, .slice none 0 0], .bool false]) ?_ rfl ⟨rfl, vbelow_set5 hb2 hle1⟩
      simp [results, Tryd.results22, go_sem, *]
end Go.Proofs.YtnldiemggabdkaaDoor
