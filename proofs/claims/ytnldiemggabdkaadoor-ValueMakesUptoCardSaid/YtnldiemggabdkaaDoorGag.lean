import Derived.Test.YtnldiemggabdkaaDoorGaf
import Derived.Test.YtnldiemggabdkaaDoorGaa
import Derived.Deep.Slices
import Derived.Deep.Fields
import Derived.ChangeSame
import Derived.Lib.SmallJoins
/-
  Layer 4: Null, Int, Bool, Text, Get, At, Len, List.
-/
namespace Go.Proofs.YtnldiemggabdkaaDoor
open Go.RowKit
set_option linter.unusedVariables false

def scV (k n : Int) (s : ByteArray) : VT := .mk k n s none 0 0 none 0 0 [] []
theorem lie_sc (k n : Int) (s : ByteArray) (w : World) (B : Nat) (hk : (Lit.int .i64 k).wf = true) (hn : (Lit.int .i64 n).wf = true) (hs : s.size ≤ maxLen) : Lie w B (scV k n s) :=
  .mk ⟨rfl, fun h => absurd h (by decide)⟩ ⟨rfl, fun h => absurd h (by decide)⟩ ⟨hk, hn, hs, Nat.le_refl _, Nat.zero_le _, fun _ => rfl, Nat.le_refl _, Nat.zero_le _, fun _ => rfl, fun x h => by cases h⟩ (fun x h => by cases h)
set_option maxRecDepth 20000 in
theorem null_any (w : World) : Calls Tryd.prog 34 #[] w fun e w' => e = .returned (scV 1 0 ⟨#[]⟩).agg ∧ Below w.heap.size w w' := by
  go_enter Tryd.func34, Tryd.ntmps34
  go_wp2
  refine bodyPost_ret (v := .agg #[.int .i64 1, .int .i64 0, .string ⟨#[]⟩, .slice none 0 0, .slice none 0 0]) ?_ rfl ⟨rfl, bel_alloc (Below.refl _ _) _⟩
  simp [results, Tryd.results34, go_sem, *]
set_option maxRecDepth 20000 in
theorem vint_any (n : Int) (w : World) : Calls Tryd.prog 35 #[.int .i64 n] w fun e w' => e = .returned (scV 3 n ⟨#[]⟩).agg ∧ Below w.heap.size w w' := by
  go_enter Tryd.func35, Tryd.ntmps35
  go_wp2
  refine bodyPost_ret (v := .agg #[.int .i64 3, .int .i64 n, .string ⟨#[]⟩, .slice none 0 0, .slice none 0 0]) ?_ rfl ⟨rfl, bel_alloc (Below.refl _ _) _⟩
  simp [results, Tryd.results35, go_sem, *]

/-- What checked tells. -/
def chkR (T : VT) : Value := if T.ok = true then .tuple #[T.agg, .int .i64 0] else .tuple #[zV, .int .i64 140]
theorem checked_R (B : Nat) (w : World) (T : VT) (hL : Lie w B T) (hB : B ≤ w.heap.size) (htab : UTab w) (hst : STab w) :
    Calls Tryd.prog 46 #[T.agg] w fun e w' => e = .returned (chkR T) ∧ Below w.heap.size w w' := by
  refine (checked_any B w T hL hB htab hst).mono ?_
  rintro e w' ⟨rfl, h⟩
  refine ⟨?_, h⟩
  unfold chkR
  cases T.ok <;> rfl
set_option maxRecDepth 20000 in
theorem text_any (s : ByteArray) (w : World) (hs : s.size ≤ maxLen) (htab : UTab w) (hst : STab w) :
    Calls Tryd.prog 27 #[.string s] w fun e w' => e = .returned (chkR (scV 4 0 s)) ∧ Below w.heap.size w w' := by
  have hb := bel_alloc (Below.refl w.heap.size w) (.cells #[.int .i64 0, .int .i64 0, .string ⟨#[]⟩, .slice none 0 0, .slice none 0 0] 25)
  have Hz := Lib.hid (show VFive (w.alloc (.cells #[.int .i64 0, .int .i64 0, .string ⟨#[]⟩, .slice none 0 0, .slice none 0 0] 25)) w.heap.size (.int .i64 0) (.int .i64 0) (.string ⟨#[]⟩) (.slice none 0 0) (.slice none 0 0) from VFive.new _ _ _ _ _ _ _ _ rfl)
  have hc := checked_R w.heap.size _ (scV 4 0 s) (lie_sc 4 0 s _ _ (by decide) (by decide) hs) hb.size (htab.below hb htab.lt) (hst.below hb hst.lt)
  have hle0 : w.heap.size ≤ w.heap.size := Nat.le_refl _
  by_cases hok : (scV 4 0 s).ok = true
  case neg =>
    have hR : chkR (scV 4 0 s) = .tuple #[zV, .int .i64 140] := by unfold chkR; rw [if_neg hok]
    rw [hR] at hc ⊢
    simp only [zV, scV, VT.agg] at hc ⊢
    clear hok hR
    go_enter Tryd.func27, Tryd.ntmps27
    go_wp2_with fail
    refine hc.mono ?_
    rintro e w1 ⟨rfl, hb1⟩
    obtain ⟨⟨e0, e1, e2, e3, e4⟩, f0, f1, f2, f3, f4⟩ := Hz.out.later hb1
    have hb2 := bel_next hb hb1
    go_wp2
    refine bodyPost_ret (v := .tuple #[.agg #[.int .i64 0, .int .i64 0, .string ⟨#[]⟩, .slice none 0 0, .slice none 0 0], .int .i64 140]) ?_ rfl ⟨rfl, vbelow_set5 hb2 hle0⟩
    simp [results, Tryd.results27, go_sem, *]
  case pos =>
    have hR : chkR (scV 4 0 s) = .tuple #[(scV 4 0 s).agg, .int .i64 0] := by unfold chkR; rw [if_pos hok]
    rw [hR] at hc ⊢
    simp only [scV, VT.agg] at hc ⊢
    clear hok hR
    go_enter Tryd.func27, Tryd.ntmps27
    go_wp2_with fail
    refine hc.mono ?_
    rintro e w1 ⟨rfl, hb1⟩
    obtain ⟨⟨e0, e1, e2, e3, e4⟩, f0, f1, f2, f3, f4⟩ := Hz.out.later hb1
    have hb2 := bel_next hb hb1
    go_wp2
    refine bodyPost_ret (v := .tuple #[.agg #[.int .i64 4, .int .i64 0, .string s, .slice none 0 0, .slice none 0 0], .int .i64 0]) ?_ rfl ⟨rfl, vbelow_set5 hb2 hle0⟩
    simp [results, Tryd.results27, go_sem, *]

theorem path_one (T : VT) (x : ByteArray) : pathR T [x] = T.get x := by
  rw [pathR]
  cases T.get x with
  | none => rfl
  | some T' => rfl
set_option maxRecDepth 20000 in
set_option maxHeartbeats 1000000 in
theorem get_any (B : Nat) (w : World) (T : VT) (x : ByteArray) (hL : Lie w B T) (hB : B ≤ w.heap.size) (htab : UTab w) (hst : STab w) :
    Calls Tryd.prog 20 #[T.agg, .string x] w fun e w' => e = .returned (memR (if T.ok = true then T.get x else none)) ∧ Below w.heap.size w w' := by
  obtain ⟨k, n, s, cA, cn, cc, kA, kn, kc, keys, kids⟩ := T
  obtain ⟨hb, hsz, hv, hz⟩ := vbox2 w k n s cA cn cc kA kn kc _ rfl
  have hb2 := bel_alloc hb (.cells #[.string x] 9)
  have hnew : Shows (((w.alloc (.cells #[.int .i64 k, .int .i64 n, .string s, .slice cA cn cc, .slice kA kn kc] 25)).alloc (.cells #[.int .i64 0, .int .i64 0, .string ⟨#[]⟩, .slice none 0 0, .slice none 0 0] 25)).alloc (.cells #[.string x] 9)) (w.heap.size + 3) 1 (some ⟨w.heap.size + 2, 0, none⟩) 1 ([x].map Value.string) := ⟨rfl, fun _ => ⟨w.heap.size + 2, 0, rfl, Nat.lt_succ_self _, fun i v hv => by
    have hi : i < 1 := (List.getElem?_eq_some_iff.1 hv).1
    obtain rfl : i = 0 := by omega
    simp at hv; subst hv
    have := (Box.new ((w.alloc (.cells #[.int .i64 k, .int .i64 n, .string s, .slice cA cn cc, .slice kA kn kc] 25)).alloc (.cells #[.int .i64 0, .int .i64 0, .string ⟨#[]⟩, .slice none 0 0, .slice none 0 0] 25)) #[.string x] 9 0 (.string x) (by simp)).1
    rw [hsz] at this
    exact this⟩⟩
  have hp := path_any B _ (.mk k n s cA cn cc kA kn kc keys kids) (some ⟨w.heap.size + 2, 0, none⟩) 1 1 [x] (w.heap.size + 3) (hL.later (hb2.mono hB)) (Nat.le_trans hB hb2.size) hnew (by simp) (by decide) (htab.below hb2 htab.lt) (hst.below hb2 hst.lt)
  rw [path_one] at hp
  simp only [VT.agg] at hp ⊢
  have hle1 : w.heap.size ≤ w.heap.size + 1 := Nat.le_succ _
  have Hz := Lib.hid (hz.alloc (.cells #[.string x] 9))
  clear hL hv hz hnew hsz
  generalize (if VT.ok (.mk k n s cA cn cc kA kn kc keys kids) = true then VT.get (.mk k n s cA cn cc kA kn kc keys kids) x else none) = R at *
  cases R with
  | none =>
    simp only [memR, zV] at hp
    go_enter Tryd.func20, Tryd.ntmps20
    go_wp2_with fail
    refine hp.mono ?_
    rintro e w1 ⟨rfl, hb3⟩
    obtain ⟨⟨e0, e1, e2, e3, e4⟩, f0, f1, f2, f3, f4⟩ := Hz.out.later hb3
    have hb4 := bel_next hb2 hb3
    go_wp2
    refine bodyPost_ret (v := .tuple #[.agg #[.int .i64 0, .int .i64 0, .string ⟨#[]⟩, .slice none 0 0, .slice none 0 0], .bool false]) ?_ rfl ⟨rfl, vbelow_set5 hb4 hle1⟩
    simp [results, Tryd.results20, go_sem, *]
  | some T' =>
    obtain ⟨k', n', s', cA', cn', cc', kA', kn', kc', keys', kids'⟩ := T'
    simp only [memR, VT.agg] at hp
    go_enter Tryd.func20, Tryd.ntmps20
    go_wp2_with fail
    refine hp.mono ?_
    rintro e w1 ⟨rfl, hb3⟩
    obtain ⟨⟨e0, e1, e2, e3, e4⟩, f0, f1, f2, f3, f4⟩ := Hz.out.later hb3
    have hb4 := bel_next hb2 hb3
    go_wp2
    refine bodyPost_ret (v := .tuple #[.agg #[.int .i64 k', .int .i64 n', .string s', .slice cA' cn' cc', .slice kA' kn' kc'], .bool true]) ?_ rfl ⟨rfl, vbelow_set5 hb4 hle1⟩
    simp [results, Tryd.results20, go_sem, *]

/-- What Len tells. -/
def lenR (T : VT) : Value := if T.ok = true then (if T.k = 4 then .tuple #[.int .i64 ((nats (ptsL T.s.data.toList).1).length : Nat), .bool true] else if (T.k == 5 || T.k == 6) = true then .tuple #[.int .i64 (T.kids.length : Nat), .bool true] else .tuple #[.int .i64 0, .bool false]) else .tuple #[.int .i64 0, .bool false]
end Go.Proofs.YtnldiemggabdkaaDoor
/-
  Layer 4: Len; At.
-/
namespace Go.Proofs.YtnldiemggabdkaaDoor
open Go.RowKit
set_option linter.unusedVariables false

theorem ok_fit {k n : Int} {s : ByteArray} {cA : Option Addr} {cn cc : Nat} {kA : Option Addr} {kn kc : Nat} {keys : List ByteArray} {kids : List VT} (h : (VT.mk k n s cA cn cc kA kn kc keys kids).ok = true) : (VT.mk k n s cA cn cc kA kn kc keys kids).fit = true := by
  unfold VT.ok at h
  rw [all_mk] at h
  simp only [Bool.and_eq_true] at h
  exact h.2.2.1
theorem ok_text {n : Int} {s : ByteArray} {cA : Option Addr} {cn cc : Nat} {kA : Option Addr} {kn kc : Nat} {keys : List ByteArray} {kids : List VT} (h : (VT.mk 4 n s cA cn cc kA kn kc keys kids).ok = true) : (ptsL s.data.toList).2 = s.data.toList.length := by
  have := ok_fit h
  rw [fit_mk] at this
  simp only [Bool.and_eq_true] at this
  have hs := this.2.2.1
  unfold strB strQ at hs
  rw [Bool.or_eq_true, Bool.and_eq_true] at hs
  rcases hs with hs | ⟨_, hs⟩
  · have he : s.data.toList = [] := by rw [← ByteArray.toList_eq]; exact List.isEmpty_iff.1 hs
    rw [he, pts_zero (l := []) rfl]; rfl
  · unfold validS at hs
    exact of_decide_eq_true hs
set_option maxRecDepth 20000 in
set_option maxHeartbeats 1000000 in
theorem len_any (B : Nat) (w : World) (T : VT) (hL : Lie w B T) (hB : B ≤ w.heap.size) (hs : T.s.size ≤ 1048576) (htab : UTab w) (hst : STab w) :
    Calls Tryd.prog 25 #[T.agg] w fun e w' => e = .returned (lenR T) ∧ Below w.heap.size w w' := by
  obtain ⟨k, n, s, cA, cn, cc, kA, kn, kc, keys, kids⟩ := T
  have hb := bel_alloc (Below.refl w.heap.size w) (.cells #[.int .i64 k, .int .i64 n, .string s, .slice cA cn cc, .slice kA kn kc] 25)
  have Hv := Lib.hid (show VFive (w.alloc (.cells #[.int .i64 k, .int .i64 n, .string s, .slice cA cn cc, .slice kA kn kc] 25)) w.heap.size (.int .i64 k) (.int .i64 n) (.string s) (.slice cA cn cc) (.slice kA kn kc) from VFive.new _ _ _ _ _ _ _ _ rfl)
  have hvd := valid_any B _ (.mk k n s cA cn cc kA kn kc keys kids) (hL.later (hb.mono hB)) (Nat.le_trans hB hb.size) (htab.below hb htab.lt) (hst.below hb hst.lt)
  have hkl : kids.length = cn := by cases hL with | mk hc _ _ _ => exact kids_len hc
  have Hkl := Lib.hid hkl
  have hs : s.size ≤ 1048576 := hs
  by_cases hok : VT.ok (.mk k n s cA cn cc kA kn kc keys kids) = true
  · rw [hok] at hvd
    simp only [VT.agg] at hvd ⊢
    by_cases h4 : k = 4
    · subst h4
      have hR := Lib.hid (show lenR (.mk 4 n s cA cn cc kA kn kc keys kids) = .tuple #[.int .i64 ((nats (ptsL s.data.toList).1).length : Nat), .bool true] by unfold lenR; rw [if_pos hok]; rfl)
      have hp := fun W (h : Below w.heap.size w W) => points_yes s _ rfl W hs (htab.below h htab.lt) (ok_text hok)
      rw [hR.out]
      generalize (nats (ptsL s.data.toList).1) = X at *
      clear hok hL hkl
      go_enter Tryd.func25, Tryd.ntmps25
      go_wp2_with fail
      refine hvd.mono ?_
      rintro e w1 ⟨rfl, hb1⟩
      have hb2 := bel_next hb hb1
      obtain ⟨⟨e0, e1, e2, e3, e4⟩, -⟩ := Hv.out.later hb1
      go_wp2_with fail
      refine (hp _ hb2).mono ?_
      rintro e w2 ⟨A', n', c', rfl, hown, hb3⟩
      have hl := hown.1
      rw [List.length_map, Nat.mul_one] at hl
      go_wp2
      go_ret2
      exact ⟨by rw [hl]; rfl, bel_next hb2 hb3⟩
    · have h4' : (k == 4) = false := by rw [beq_eq_false_iff_ne]; exact h4
      have hho := vholder_any k (.int .i64 n) (.string s) (.slice cA cn cc) (.slice kA kn kc)
      cases hho2 : (k == 5 || k == 6)
      · have hR := Lib.hid (show lenR (.mk k n s cA cn cc kA kn kc keys kids) = .tuple #[.int .i64 0, .bool false] by unfold lenR; rw [if_pos hok, if_neg (show ¬ VT.k (.mk k n s cA cn cc kA kn kc keys kids) = 4 from h4)]; show (if (k == 5 || k == 6) = true then _ else _) = _; rw [hho2]; rfl)
        rw [hho2] at hho
        rw [hR.out]
        clear hok hL hkl hho2 h4
        go_enter Tryd.func25, Tryd.ntmps25
        go_wp2_with fail
        refine hvd.mono ?_
        rintro e w1 ⟨rfl, hb1⟩
        have hb2 := bel_next hb hb1
        obtain ⟨⟨e0, e1, e2, e3, e4⟩, -⟩ := Hv.out.later hb1
        go_wp2_with fail
        refine (hho _).mono ?_
        rintro e w2 ⟨rfl, hb3⟩
        go_wp2
        go_ret2
        exact ⟨rfl, bel_next hb2 hb3⟩
      · have hR := Lib.hid (show lenR (.mk k n s cA cn cc kA kn kc keys kids) = .tuple #[.int .i64 (cn : Nat), .bool true] by unfold lenR; rw [if_pos hok, if_neg (show ¬ VT.k (.mk k n s cA cn cc kA kn kc keys kids) = 4 from h4)]; show (if (k == 5 || k == 6) = true then _ else _) = _; rw [hho2, if_pos rfl]; show Value.tuple #[.int .i64 ((kids.length : Nat) : Int), _] = _; rw [Hkl.out])
        rw [hho2] at hho
        rw [hR.out]
        clear hok hL hkl hho2 h4
        go_enter Tryd.func25, Tryd.ntmps25
        go_wp2_with fail
        refine hvd.mono ?_
        rintro e w1 ⟨rfl, hb1⟩
        have hb2 := bel_next hb hb1
        obtain ⟨⟨e0, e1, e2, e3, e4⟩, -⟩ := Hv.out.later hb1
        go_wp2_with fail
        refine (hho _).mono ?_
        rintro e w2 ⟨rfl, hb3⟩
        obtain ⟨⟨k0, k1, k2, k3, k4⟩, -⟩ := (Hv.out.later hb1).later hb3
        clear e0 e1 e2 e3 e4
        go_wp2
        go_ret2
        exact ⟨rfl, bel_next hb2 hb3⟩
  · have hR := Lib.hid (show lenR (.mk k n s cA cn cc kA kn kc keys kids) = .tuple #[.int .i64 0, .bool false] by unfold lenR; rw [if_neg hok])
    rw [show VT.ok (.mk k n s cA cn cc kA kn kc keys kids) = false by simpa using hok] at hvd
    simp only [VT.agg] at hvd ⊢
    rw [hR.out]
    clear hok hL hkl
    go_enter Tryd.func25, Tryd.ntmps25
    go_wp2_with fail
    refine hvd.mono ?_
    rintro e w1 ⟨rfl, hb1⟩
    go_wp2
    go_ret2
    exact ⟨rfl, bel_next hb hb1⟩

/-- What At tells. -/
def atR (T : VT) (i : Int) : Option VT := if T.ok = true ∧ T.k = 5 ∧ 0 ≤ i then T.kids[i.toNat]? else none
set_option maxRecDepth 20000 in
set_option maxHeartbeats 1000000 in
theorem at_any (B : Nat) (w : World) (T : VT) (i : Int) (hL : Lie w B T) (hB : B ≤ w.heap.size) (htab : UTab w) (hst : STab w) :
    Calls Tryd.prog 22 #[T.agg, .int .i64 i] w fun e w' => e = .returned (memR (atR T i)) ∧ Below w.heap.size w w' := by
  obtain ⟨k, n, s, cA, cn, cc, kA, kn, kc, keys, kids⟩ := T
  obtain ⟨hb, hsz, hv, hz⟩ := vbox2 w k n s cA cn cc kA kn kc _ rfl
  have hL' := hL
  cases hL' with | mk hc hk hzz hkid =>
  have hlc := kids_len hc
  have hcm : cn ≤ maxLen := Nat.le_trans hzz.c1 hzz.c2
  have hvd := valid_any B _ (.mk k n s cA cn cc kA kn kc keys kids) (hL.later (hb.mono hB)) (Nat.le_trans hB hb.size) (htab.below hb htab.lt) (hst.below hb hst.lt)
  have hle1 : w.heap.size ≤ w.heap.size + 1 := Nat.le_succ _
  have Hv := Lib.hid hv
  have Hz := Lib.hid hz
  have HC := Lib.hid hc
  have HR := Lib.hid (show atR (.mk k n s cA cn cc kA kn kc keys kids) i = if VT.ok (.mk k n s cA cn cc kA kn kc keys kids) = true ∧ k = 5 ∧ 0 ≤ i then kids[i.toNat]? else none from rfl)
  have Hlc := Lib.hid hlc
  simp only [VT.agg] at hvd ⊢
  generalize VT.ok (.mk k n s cA cn cc kA kn kc keys kids) = ok at *
  have no : ∀ (h : atR (.mk k n s cA cn cc kA kn kc keys kids) i = none), memR (atR (.mk k n s cA cn cc kA kn kc keys kids) i) = .tuple #[.agg #[.int .i64 0, .int .i64 0, .string ⟨#[]⟩, .slice none 0 0, .slice none 0 0], .bool false] := fun h => by rw [h]; rfl
  have No := Lib.hid no
  clear hL hsz hv hz hk hc hkid hzz hlc no
  cases ok
  · have HN := Lib.hid (No.out (by rw [HR.out, if_neg (by simp)]))
    rw [HN.out]
    go_enter Tryd.func22, Tryd.ntmps22
    go_wp2_with fail
    refine hvd.mono ?_
    rintro e w1 ⟨rfl, hb1⟩
    obtain ⟨⟨e0, e1, e2, e3, e4⟩, f0, f1, f2, f3, f4⟩ := Hz.out.later hb1
    have hb2 := bel_next hb hb1
    go_wp2
    refine bodyPost_ret (v := .tuple #[.agg #[.int .i64 0, .int .i64 0, .string ⟨#[]⟩, .slice none 0 0, .slice none 0 0], .bool false]) ?_ rfl ⟨rfl, vbelow_set5 hb2 hle1⟩
    simp [results, Tryd.results22, go_sem, *]
  · by_cases h5 : k = 5
    · subst h5
      by_cases hi0 : 0 ≤ i
      · by_cases hin : i < cn
        · obtain ⟨m, rfl⟩ := Int.eq_ofNat_of_zero_le hi0
          have hmn : m < cn := by omega
          have hin' : ((m : Int) < (cn : Int)) := hin
          have hng : (((cn : Nat) : Int) ≤ (m : Int)) = False := by simp; omega
          have hlt0 : ((m : Int) < 0) = False := by simp
          obtain ⟨b, off, T', rfl, hbb, hT', h5⟩ := kids_at HC.out hmn
          have hcells := fun W (h : Below w.heap.size w W) => kids_at (HC.out.below (h.mono hB)) hmn
          obtain ⟨k', n', s', cA', cn', cc', kA', kn', kc', keys', kids'⟩ := T'
          have HT := Lib.hid (show memR (atR (.mk 5 n s (some ⟨b, off, none⟩) cn cc kA kn kc keys kids) (m : Int)) = .tuple #[.agg #[.int .i64 k', .int .i64 n', .string s', .slice cA' cn' cc', .slice kA' kn' kc'], .bool true] by
            rw [HR.out, if_pos ⟨rfl, rfl, by omega⟩, Int.toNat_natCast, hT']; rfl)
          have HT' := Lib.hid hT'
          rw [HT.out]
          clear h5 hT'
          go_enter Tryd.func22, Tryd.ntmps22
          go_wp2_with fail
          refine hvd.mono ?_
          rintro e w1 ⟨rfl, hb1⟩
          obtain ⟨⟨e0, e1, e2, e3, e4⟩, f0, f1, f2, f3, f4⟩ := Hz.out.later hb1
          obtain ⟨⟨d0, d1, d2, d3, d4⟩, -⟩ := Hv.out.later hb1
          have hb2 := bel_next hb hb1
          obtain ⟨b2, off2, T2, e, _, hT2, h52⟩ := hcells w1 hb2
          injection e with e
          injection e with e1' e2'
          subst e1'; subst e2'
          rw [HT'.out] at hT2
          injection hT2 with hT2
          subst hT2
          obtain ⟨g0, g1, g2, g3, g4⟩ := h52
          clear hcells
          go_wp2
          refine bodyPost_ret (v := .tuple #[.agg #[.int .i64 k', .int .i64 n', .string s', .slice cA' cn' cc', .slice kA' kn' kc'], .bool true]) ?_ rfl ⟨rfl, vbelow_set5 hb2 hle1⟩
          simp [results, Tryd.results22, go_sem, *]
        · have HN := Lib.hid (No.out (by rw [HR.out]; split; exact List.getElem?_eq_none (by rw [Hlc.out]; omega); rfl))
          have hge : ((cn : Nat) : Int) ≤ i := by omega
          have hlt0 : (i < 0) = False := by simp; omega
          rw [HN.out]
          go_enter Tryd.func22, Tryd.ntmps22
          go_wp2_with fail
          refine hvd.mono ?_
          rintro e w1 ⟨rfl, hb1⟩
          obtain ⟨⟨e0, e1, e2, e3, e4⟩, f0, f1, f2, f3, f4⟩ := Hz.out.later hb1
          obtain ⟨⟨d0, d1, d2, d3, d4⟩, -⟩ := Hv.out.later hb1
          have hb2 := bel_next hb hb1
          go_wp2
          refine bodyPost_ret (v := .tuple #[.agg #[.int .i64 0, .int .i64 0, .string ⟨#[]⟩, .slice none 0 0, .slice none 0 0], .bool false]) ?_ rfl ⟨rfl, vbelow_set5 hb2 hle1⟩
          simp [results, Tryd.results22, go_sem, *]
      · have HN := Lib.hid (No.out (by rw [HR.out, if_neg (fun h => hi0 h.2.2)]))
        have hlt0 : i < 0 := by omega
        rw [HN.out]
        go_enter Tryd.func22, Tryd.ntmps22
        go_wp2_with fail
        refine hvd.mono ?_
        rintro e w1 ⟨rfl, hb1⟩
        obtain ⟨⟨e0, e1, e2, e3, e4⟩, f0, f1, f2, f3, f4⟩ := Hz.out.later hb1
        obtain ⟨⟨d0, d1, d2, d3, d4⟩, -⟩ := Hv.out.later hb1
        have hb2 := bel_next hb hb1
        go_wp2
        refine bodyPost_ret (v := .tuple #[.agg #[.int .i64 0, .int .i64 0, .string ⟨#[]⟩, .slice none 0 0, .slice none 0 0], .bool false]) ?_ rfl ⟨rfl, vbelow_set5 hb2 hle1⟩
        simp [results, Tryd.results22, go_sem, *]
    · have HN := Lib.hid (No.out (by rw [HR.out, if_neg (fun h => h5 h.2.1)]))
      have h5' : (k != 5) = true := by rw [bne_iff_ne]; exact h5
      rw [HN.out]
      go_enter Tryd.func22, Tryd.ntmps22
      go_wp2_with fail
      refine hvd.mono ?_
      rintro e w1 ⟨rfl, hb1⟩
      obtain ⟨⟨e0, e1, e2, e3, e4⟩, f0, f1, f2, f3, f4⟩ := Hz.out.later hb1
      obtain ⟨⟨d0, d1, d2, d3, d4⟩, -⟩ := Hv.out.later hb1
      have hb2 := bel_next hb hb1
      go_wp2
      refine bodyPost_ret (v := .tuple #[.agg #[.int .i64 0, .int .i64 0, .string ⟨#[]⟩, .slice none 0 0, .slice none 0 0], .bool false]) ?_ rfl ⟨rfl, vbelow_set5 hb2 hle1⟩
      simp [results, Tryd.results22, go_sem, *]
end Go.Proofs.YtnldiemggabdkaaDoor
/-
  Layer 4: Object of two pairs.
-/
namespace Go.Proofs.YtnldiemggabdkaaDoor
open Go.RowKit
set_option linter.unusedVariables false

def sort2 (p q : PT) : List PT := if vless q.1 p.1 = true then [q, p] else [p, q]
theorem list12 {α : Type} {a0 a1 a2 a3 a4 a5 a6 a7 a8 a9 a10 a11 : α} {i : Nat} {v : α} (h : [a0, a1, a2, a3, a4, a5, a6, a7, a8, a9, a10, a11][i]? = some v) (P : Nat → α → Prop) (h0 : P 0 a0) (h1 : P 1 a1) (h2 : P 2 a2) (h3 : P 3 a3) (h4 : P 4 a4) (h5 : P 5 a5) (h6 : P 6 a6) (h7 : P 7 a7) (h8 : P 8 a8) (h9 : P 9 a9) (h10 : P 10 a10) (h11 : P 11 a11) : P i v := by
  match i, h with
  | 0, h => injection h with h; subst h; exact h0
  | 1, h => injection h with h; subst h; exact h1
  | 2, h => injection h with h; subst h; exact h2
  | 3, h => injection h with h; subst h; exact h3
  | 4, h => injection h with h; subst h; exact h4
  | 5, h => injection h with h; subst h; exact h5
  | 6, h => injection h with h; subst h; exact h6
  | 7, h => injection h with h; subst h; exact h7
  | 8, h => injection h with h; subst h; exact h8
  | 9, h => injection h with h; subst h; exact h9
  | 10, h => injection h with h; subst h; exact h10
  | 11, h => injection h with h; subst h; exact h11
  | i + 12, h => cases h
theorem VTwelve.shows {w : World} {g c : Nat} {x y : ByteArray} {ak an : Int} {a3 : ByteArray} {acA : Option Addr} {acn acc : Nat} {akA : Option Addr} {akn akc : Nat} {ka : List ByteArray} {da : List VT} {bk bn : Int} {b3 : ByteArray} {bcA : Option Addr} {bcn bcc : Nat} {bkA : Option Addr} {bkn bkc : Nat} {kb : List ByteArray} {db : List VT}
    (h : VTwelve w g (.string x) (.int .i64 ak) (.int .i64 an) (.string a3) (.slice acA acn acc) (.slice akA akn akc) (.string y) (.int .i64 bk) (.int .i64 bn) (.string b3) (.slice bcA bcn bcc) (.slice bkA bkn bkc)) :
    Shows w w.heap.size 6 (some ⟨g, 0, none⟩) 2 ([(x, VT.mk ak an a3 acA acn acc akA akn akc ka da), (y, VT.mk bk bn b3 bcA bcn bcc bkA bkn bkc kb db)].flatMap pCells) := by
  obtain ⟨⟨r0, r1, r2, r3, r4, r5, r6, r7, r8, r9, r10, r11⟩, -⟩ := h
  refine ⟨rfl, fun _ => ⟨g, 0, rfl, World.block_lt_of_cell? w _ r0, fun i v hv => ?_⟩⟩
  rw [Nat.zero_add]
  exact list12 (P := fun i v => w.cell? ⟨g, i, none⟩ = some v) hv r0 r1 r2 r3 r4 r5 r6 r7 r8 r9 r10 r11
theorem sorts_two (p q : PT) : ∀ A c W base, World.ownsRow W base 48 6 (.slice A 2 c) 2 ([p, q].flatMap pCells) → base ≤ W.heap.size → Calls Tryd.prog 48 #[.slice A 2 c, .func (.func 49) #[] #[]] W fun e w' => e = .returned (.tuple #[]) ∧ Below base W w' ∧ Hid (Shows w' w'.heap.size 6 A 2 ((sort2 p q).flatMap pCells)) := by
  intro A c W base hown hbase
  obtain ⟨x, T⟩ := p
  obtain ⟨y, U⟩ := q
  obtain ⟨ak, an, a3, acA, acn, acc, akA, akn, akc, ka, da⟩ := T
  obtain ⟨bk, bn, b3, bcA, bcn, bcc, bkA, bkn, bkc, kb, db⟩ := U
  obtain ⟨g, cap, e, -, -⟩ := hown.form (by decide)
  injection e with e1 _ e3
  subst e1 e3
  have hg := (hown.lt g rfl).1
  have hc := fun j hj => hown.cellAt j hj
  have h12 : VTwelve W g (.string x) (.int .i64 ak) (.int .i64 an) (.string a3) (.slice acA acn acc) (.slice akA akn akc) (.string y) (.int .i64 bk) (.int .i64 bn) (.string b3) (.slice bcA bcn bcc) (.slice bkA bkn bkc) :=
    ⟨⟨hc 0 (by decide), hc 1 (by decide), hc 2 (by decide), hc 3 (by decide), hc 4 (by decide), hc 5 (by decide), hc 6 (by decide), hc 7 (by decide), hc 8 (by decide), hc 9 (by decide), hc 10 (by decide), hc 11 (by decide)⟩, fun i => hown.frozenAt i⟩
  refine (sortFunc2 g c x ak an a3 acA acn acc akA akn akc y bk bn b3 bcA bcn bcc bkA bkn bkc W h12).mono ?_
  rintro e w' ⟨rfl, hb, h⟩
  refine ⟨rfl, hb.mono (by omega), Lib.hid ?_⟩
  unfold sort2
  by_cases hv : vless y x = true
  · rw [if_pos hv]; exact (h.out.1 hv).shows (c := c)
  · rw [if_neg hv]; exact (h.out.2 (by simpa using hv)).shows (c := c)
/-- What Object tells of n pairs, in the order that sorting leaves. -/
def ObjR (n : Nat) (L' : List PT) (w w' : World) (e : Ending) : Prop := Below w.heap.size w w' ∧
      (((∃ j, j < n ∧ dupJ L' j = true) ∧ e = .returned (.tuple #[zV, .int .i64 141])) ∨
       ((∀ j, j < n → dupJ L' j = false) ∧ ∃ kA kc cA cc, Lie w' w'.heap.size (.mk 6 0 ⟨#[]⟩ cA n cc kA n kc (L'.map Prod.fst) (L'.map Prod.snd)) ∧
        e = .returned (.tuple #[if VT.ok (.mk 6 0 ⟨#[]⟩ cA n cc kA n kc (L'.map Prod.fst) (L'.map Prod.snd)) = true then VT.agg (.mk 6 0 ⟨#[]⟩ cA n cc kA n kc (L'.map Prod.fst) (L'.map Prod.snd)) else zV, .int .i64 (if VT.ok (.mk 6 0 ⟨#[]⟩ cA n cc kA n kc (L'.map Prod.fst) (L'.map Prod.snd)) = true then 0 else 140)])))
theorem object_two (p q : PT) (g B : Nat) (w : World) (h : Shows w B 6 (some ⟨g, 0, none⟩) 2 ([p, q].flatMap pCells)) (hB : B ≤ w.heap.size) (hp : Lie w B p.2 ∧ p.1.size ≤ maxLen) (hq : Lie w B q.2 ∧ q.1.size ≤ maxLen) (htab : UTab w) (hst : STab w) :
    Calls Tryd.prog 30 #[.slice (some ⟨g, 0, none⟩) 2 2] w fun e w' => ObjR 2 (sort2 p q) w w' e :=
  object_any _ 2 2 [p, q] (sort2 p q) B w h (fun h => by cases h) hB (by decide) (by unfold sort2; split <;> rfl) (by unfold sort2; intro x hx; split at hx <;> simp at hx <;> rcases hx with rfl | rfl <;> assumption) htab hst (sorts_two p q)
theorem strB_nil (k : Int) : strB k ⟨#[]⟩ = true := by unfold strB strQ; rw [ByteArray.toList_eq]; rfl
theorem pts_cps (cps : List Nat) (l : List UInt8) (h : allCp cps) (hl : l = textL cps) : ptsL l = (cps, l.length) := by
  have := pts_text cps [] h
  rw [pts_zero (l := []) rfl, List.append_nil, List.append_nil, Nat.add_zero] at this
  rw [hl, this]
theorem validS_of (cps : List Nat) (s : ByteArray) (h : allCp cps) (hl : s.data.toList = textL cps) : validS s = true := by
  unfold validS
  rw [pts_cps cps _ h hl]
  exact decide_eq_true rfl
theorem valid_a : validS ⟨#[97]⟩ = true := validS_of [97] _ (by intro c hc; simp at hc; subst hc; decide) (by decide)
theorem valid_b : validS ⟨#[98]⟩ = true := validS_of [98] _ (by intro c hc; simp at hc; subst hc; decide) (by decide)
theorem valid_e : validS ⟨#[195, 169]⟩ = true := validS_of [233] _ (by intro c hc; simp at hc; subst hc; decide) (by decide)
/-- The two objects of wakes. -/
theorem object_ab (g B : Nat) (w : World) (h : Shows w B 6 (some ⟨g, 0, none⟩) 2 ([((⟨#[98]⟩ : ByteArray), scV 3 1 ⟨#[]⟩), ((⟨#[97]⟩ : ByteArray), scV 1 0 ⟨#[]⟩)].flatMap pCells)) (hB : B ≤ w.heap.size) (htab : UTab w) (hst : STab w) :
    Calls Tryd.prog 30 #[.slice (some ⟨g, 0, none⟩) 2 2] w fun e w' => Below w.heap.size w w' ∧ ∃ kA kc cA cc, Lie w' w'.heap.size (.mk 6 0 ⟨#[]⟩ cA 2 cc kA 2 kc [⟨#[97]⟩, ⟨#[98]⟩] [scV 1 0 ⟨#[]⟩, scV 3 1 ⟨#[]⟩]) ∧ (VT.mk 6 0 ⟨#[]⟩ cA 2 cc kA 2 kc [⟨#[97]⟩, ⟨#[98]⟩] [scV 1 0 ⟨#[]⟩, scV 3 1 ⟨#[]⟩]).ok = true ∧ e = .returned (.tuple #[.agg #[.int .i64 6, .int .i64 0, .string ⟨#[]⟩, .slice cA 2 cc, .slice kA 2 kc], .int .i64 0]) := by
  refine (object_two _ _ g B w h hB ⟨lie_sc 3 1 _ _ _ (by decide) (by decide) (by decide), by decide⟩ ⟨lie_sc 1 0 _ _ _ (by decide) (by decide) (by decide), by decide⟩ htab hst).mono ?_
  rintro e w' ⟨hb, h⟩
  refine ⟨hb, ?_⟩
  have hs : sort2 ((⟨#[98]⟩ : ByteArray), scV 3 1 ⟨#[]⟩) ((⟨#[97]⟩ : ByteArray), scV 1 0 ⟨#[]⟩) = [((⟨#[97]⟩ : ByteArray), scV 1 0 ⟨#[]⟩), ((⟨#[98]⟩ : ByteArray), scV 3 1 ⟨#[]⟩)] := by unfold sort2; rw [if_pos (by show vless ⟨#[97]⟩ ⟨#[98]⟩ = true; unfold vless; rw [ByteArray.toList_eq, ByteArray.toList_eq]; decide)]
  rw [hs] at h
  rcases h with ⟨⟨j, hj, hd⟩, -⟩ | ⟨-, kA, kc, cA, cc, hL, rfl⟩
  · exfalso
    rcases (show j = 0 ∨ j = 1 by omega) with rfl | rfl
    · cases hd
    · revert hd; show dupJ _ 1 = true → False; unfold dupJ; rw [ByteArray.toList_eq, ByteArray.toList_eq]; decide
  · have hok : (VT.mk 6 0 ⟨#[]⟩ cA 2 cc kA 2 kc [⟨#[97]⟩, ⟨#[98]⟩] [scV 1 0 ⟨#[]⟩, scV 3 1 ⟨#[]⟩]).ok = true := by
      have e0 : ∀ k n : Int, (scV k n ⟨#[]⟩).cnt = 1 := fun k n => by unfold scV; rw [cnt_mk]; rfl
      have d0 : ∀ k n : Int, (scV k n ⟨#[]⟩).dep = hN (k == 5 || k == 6) := fun k n => by unfold scV; rw [dep_mk]; rfl
      have a0 : ∀ k n : Int, (scV k n ⟨#[]⟩).all = (scV k n ⟨#[]⟩).fit := fun k n => by unfold scV; rw [all_mk]; simp
      have f1 : (scV 1 0 ⟨#[]⟩).fit = true := by unfold scV; rw [fit_mk, strB_nil]; decide
      have f3 : (scV 3 1 ⟨#[]⟩).fit = true := by unfold scV; rw [fit_mk, strB_nil]; decide
      have f6 : (VT.mk 6 0 ⟨#[]⟩ cA 2 cc kA 2 kc [⟨#[97]⟩, ⟨#[98]⟩] [scV 1 0 ⟨#[]⟩, scV 3 1 ⟨#[]⟩]).fit = true := by
        rw [fit_mk]
        simp only [Bool.and_eq_true]
        refine ⟨by decide, by decide, strB_nil _, by decide, ?_⟩
        unfold memB memQ
        rw [if_pos (by decide), Bool.and_eq_true]
        refine ⟨by decide, (keysB_iff _).2 fun i hi => ?_⟩
        have va : validS ⟨#[97]⟩ = true := valid_a
        have vb : validS ⟨#[98]⟩ = true := valid_b
        rcases (show i = 0 ∨ i = 1 by simp at hi; omega) with rfl | rfl
        · unfold keyOK; simp [va]
        · unfold keyOK; simp [vb]; decide
      unfold VT.ok
      rw [dep_mk, cnt_mk, all_mk, f6]
      simp [e0, d0, a0, f1, f3, maxL, hN]
    exact ⟨kA, kc, cA, cc, hL, hok, by
      have hok' : VT.ok (.mk 6 0 ⟨#[]⟩ cA 2 cc kA 2 kc ([((⟨#[97]⟩ : ByteArray), scV 1 0 ⟨#[]⟩), ((⟨#[98]⟩ : ByteArray), scV 3 1 ⟨#[]⟩)].map Prod.fst) ([((⟨#[97]⟩ : ByteArray), scV 1 0 ⟨#[]⟩), ((⟨#[98]⟩ : ByteArray), scV 3 1 ⟨#[]⟩)].map Prod.snd)) = true := hok
      rw [if_pos hok', if_pos hok']; rfl⟩
theorem object_aa (g B : Nat) (w : World) (h : Shows w B 6 (some ⟨g, 0, none⟩) 2 ([((⟨#[97]⟩ : ByteArray), scV 3 1 ⟨#[]⟩), ((⟨#[97]⟩ : ByteArray), scV 3 2 ⟨#[]⟩)].flatMap pCells)) (hB : B ≤ w.heap.size) (htab : UTab w) (hst : STab w) :
    Calls Tryd.prog 30 #[.slice (some ⟨g, 0, none⟩) 2 2] w fun e w' => Below w.heap.size w w' ∧ e = .returned (.tuple #[.agg #[.int .i64 0, .int .i64 0, .string ⟨#[]⟩, .slice none 0 0, .slice none 0 0], .int .i64 141]) := by
  refine (object_two _ _ g B w h hB ⟨lie_sc 3 1 _ _ _ (by decide) (by decide) (by decide), by decide⟩ ⟨lie_sc 3 2 _ _ _ (by decide) (by decide) (by decide), by decide⟩ htab hst).mono ?_
  rintro e w' ⟨hb, h⟩
  refine ⟨hb, ?_⟩
  have hs : sort2 ((⟨#[97]⟩ : ByteArray), scV 3 1 ⟨#[]⟩) ((⟨#[97]⟩ : ByteArray), scV 3 2 ⟨#[]⟩) = [((⟨#[97]⟩ : ByteArray), scV 3 1 ⟨#[]⟩), ((⟨#[97]⟩ : ByteArray), scV 3 2 ⟨#[]⟩)] := by unfold sort2; rw [if_neg (by rw [vless_irr]; decide)]
  rw [hs] at h
  rcases h with ⟨-, rfl⟩ | ⟨hd, -⟩
  · rfl
  · exfalso
    have := hd 1 (by decide)
    revert this; unfold dupJ; rw [ByteArray.toList_eq, ByteArray.toList_eq]; decide
end Go.Proofs.YtnldiemggabdkaaDoor
/-
  Layer 4: wakes.
-/
namespace Go.Proofs.YtnldiemggabdkaaDoor
open Go.RowKit
set_option linter.unusedVariables false

theorem shows_new (W : World) (cs : Array Value) (t : TypeId) (g n size : Nat) (hg : W.heap.size = g) (hl : cs.toList.length = n * size) : Shows (W.alloc (.cells cs t)) (g + 1) size (some ⟨g, 0, none⟩) n cs.toList := by
  subst hg
  refine ⟨hl, fun _ => ⟨W.heap.size, 0, rfl, Nat.lt_succ_self _, fun i v hv => ?_⟩⟩
  rw [Nat.zero_add]
  exact (Box.new W cs t i v (by simpa using hv)).1
abbrev tAB (cA : Option Addr) (cc : Nat) (kA : Option Addr) (kc : Nat) : VT := .mk 6 0 ⟨#[]⟩ cA 2 cc kA 2 kc [⟨#[97]⟩, ⟨#[98]⟩] [scV 1 0 ⟨#[]⟩, scV 3 1 ⟨#[]⟩]
section
variable {cA : Option Addr} {cc : Nat} {kA : Option Addr} {kc : Nat}
theorem sc_cnt (k n : Int) (s : ByteArray) : (scV k n s).cnt = 1 := by unfold scV; rw [cnt_mk]; rfl
theorem sc_dep (k n : Int) (s : ByteArray) : (scV k n s).dep = hN (k == 5 || k == 6) := by unfold scV; rw [dep_mk]; rfl
theorem sc_all (k n : Int) (s : ByteArray) : (scV k n s).all = (scV k n s).fit := by unfold scV; rw [all_mk]; simp
theorem ab_dep : (tAB cA cc kA kc).dep = 1 := by rw [dep_mk]; simp [sc_dep, maxL, hN]
theorem ab_cnt : (tAB cA cc kA kc).cnt = 3 := by rw [cnt_mk]; simp [sc_cnt]
theorem ab_b : (tAB cA cc kA kc).get ⟨#[98]⟩ = some (scV 3 1 ⟨#[]⟩) := by
  show (if (6 : Int) = 6 then getK _ _ _ else none) = _
  rw [if_pos rfl]
  show getK [⟨#[97]⟩, ⟨#[98]⟩] [scV 1 0 ⟨#[]⟩, scV 3 1 ⟨#[]⟩] ⟨#[98]⟩ = _
  rw [getK, if_neg (by decide), getK, if_pos rfl]
theorem ab_c : (tAB cA cc kA kc).get ⟨#[99]⟩ = none := by
  show (if (6 : Int) = 6 then getK _ _ _ else none) = _
  rw [if_pos rfl]
  show getK [⟨#[97]⟩, ⟨#[98]⟩] [scV 1 0 ⟨#[]⟩, scV 3 1 ⟨#[]⟩] ⟨#[99]⟩ = _
  rw [getK, if_neg (by decide), getK, if_neg (by decide), getK]
  intro _ _ _ _ h; cases h
end
theorem sc_ok (k n : Int) (s : ByteArray) (hk : (k == 5 || k == 6) = false) (hf : (scV k n s).fit = true) : (scV k n s).ok = true := by
  unfold VT.ok
  rw [sc_dep, sc_cnt, sc_all, hf, hk]
  rfl
theorem e_ok : (scV 4 0 ⟨#[195, 169]⟩).ok = true := by
  refine sc_ok _ _ _ (by decide) ?_
  unfold scV
  rw [fit_mk]
  simp only [Bool.and_eq_true]
  refine ⟨by decide, by decide, ?_, by decide, by decide⟩
  unfold strB strQ
  rw [valid_e]
  simp [shText]
theorem z_ok : (scV 0 0 ⟨#[]⟩).ok = false := by
  unfold VT.ok
  rw [sc_all]
  have : (scV 0 0 ⟨#[]⟩).fit = false := by unfold scV; rw [fit_mk]; rfl
  rw [this]; simp
theorem e_len : lenR (scV 4 0 ⟨#[195, 169]⟩) = .tuple #[.int .i64 1, .bool true] := by
  unfold lenR
  rw [if_pos e_ok, if_pos (show (scV 4 0 ⟨#[195, 169]⟩).k = 4 from rfl)]
  show Value.tuple #[.int .i64 ((nats (ptsL [195, 169]).1).length : Nat), .bool true] = _
  rw [pts_cps [233] [195, 169] (by intro c hc; simp at hc; subst hc; decide) (by decide)]
  rfl
set_option maxRecDepth 20000 in
set_option maxHeartbeats 4000000 in
theorem vwakes_any (w : World) (htab : UTab w) (hst : STab w) : Calls Tryd.prog 10 #[] w fun e w' => e = .returned (.bool true) ∧ Below w.heap.size w w' := by
  have hi1 := fun n W => vint_any n W
  have hn1 := fun W => null_any W
  simp only [scV, VT.agg] at hi1 hn1
  go_enter Tryd.func10, Tryd.ntmps10
  go_wp2_with fail
  refine (hi1 _ _).mono ?_
  rintro e w1 ⟨rfl, hb1⟩
  go_wp2_with fail
  refine (hn1 _).mono ?_
  rintro e w2 ⟨rfl, hb2⟩
  have hb02 := bel_next hb1 hb2
  have hb02' := bel_alloc hb02 (.cells #[.string ⟨#[98]⟩, .int .i64 3, .int .i64 1, .string ⟨#[]⟩, .slice none 0 0, .slice none 0 0, .string ⟨#[97]⟩, .int .i64 1, .int .i64 0, .string ⟨#[]⟩, .slice none 0 0, .slice none 0 0] 48)
  have hs2 := shows_new w2 #[.string ⟨#[98]⟩, .int .i64 3, .int .i64 1, .string ⟨#[]⟩, .slice none 0 0, .slice none 0 0, .string ⟨#[97]⟩, .int .i64 1, .int .i64 0, .string ⟨#[]⟩, .slice none 0 0, .slice none 0 0] 48 _ 2 6 rfl rfl
  have ho := object_ab w2.heap.size (w2.heap.size + 1) _ hs2 (by simp) (htab.below hb02' htab.lt) (hst.below hb02' hst.lt)
  clear hb1 hb2 hs2
  go_wp2_with fail
  refine ho.mono ?_
  rintro e w3 ⟨hb3, kA, kc, cA, cc, hL, hok, rfl⟩
  have hb03 := bel_next hb02' hb3
  have hk : Shows w3 w3.heap.size 1 kA 2 ([(⟨#[97]⟩ : ByteArray), ⟨#[98]⟩].map Value.string) := by cases hL with | mk _ hk _ _ => exact hk
  obtain ⟨kb, koff, rfl, _, hkc⟩ := key_at hk (i := 0) (by decide)
  have hkc : w3.cell? ⟨kb, koff + 0, none⟩ = some (.string ⟨#[97]⟩) := hkc
  rw [Nat.add_zero] at hkc
  have hkc2 := cell_keep hkc (.cells #[.int .i64 6, .int .i64 0, .string ⟨#[]⟩, .slice cA 2 cc, .slice (some ⟨kb, koff, none⟩) 2 kc] 25)
  have hb4 := bel_alloc hb03 (.cells #[.int .i64 6, .int .i64 0, .string ⟨#[]⟩, .slice cA 2 cc, .slice (some ⟨kb, koff, none⟩) 2 kc] 25)
  have hb34 := bel_alloc (Below.refl w3.heap.size w3) (.cells #[.int .i64 6, .int .i64 0, .string ⟨#[]⟩, .slice cA 2 cc, .slice (some ⟨kb, koff, none⟩) 2 kc] 25)
  have HV := Lib.hid (show VFive (w3.alloc (.cells #[.int .i64 6, .int .i64 0, .string ⟨#[]⟩, .slice cA 2 cc, .slice (some ⟨kb, koff, none⟩) 2 kc] 25)) w3.heap.size (.int .i64 6) (.int .i64 0) (.string ⟨#[]⟩) (.slice cA 2 cc) (.slice (some ⟨kb, koff, none⟩) 2 kc) from VFive.new _ _ _ _ _ _ _ _ rfl)
  have HT := fun W (h : Below w.heap.size w W) => And.intro (htab.below h htab.lt) (hst.below h hst.lt)
  have HD := Lib.hid (fun W (h : Below w.heap.size w W) (h3 : Below w3.heap.size w3 W) => depth_any w3.heap.size W (tAB cA cc (some ⟨kb, koff, none⟩) kc) (hL.later h3) h3.size (HT W h).1 (HT W h).2)
  have HN := Lib.hid (fun W (h : Below w.heap.size w W) (h3 : Below w3.heap.size w3 W) => vcount_any w3.heap.size W (tAB cA cc (some ⟨kb, koff, none⟩) kc) (hL.later h3) h3.size (HT W h).1 (HT W h).2)
  have HG := Lib.hid (fun x W (h : Below w.heap.size w W) (h3 : Below w3.heap.size w3 W) => get_any w3.heap.size W (tAB cA cc (some ⟨kb, koff, none⟩) kc) x (hL.later h3) h3.size (HT W h).1 (HT W h).2)
  have hd1 : (tAB cA cc (some ⟨kb, koff, none⟩) kc).depR = 1 := by unfold VT.depR; rw [if_pos hok, ab_dep]
  have hn3 : (tAB cA cc (some ⟨kb, koff, none⟩) kc).cntR = 3 := by unfold VT.cntR; rw [if_pos hok, ab_cnt]
  rw [hd1] at HD
  rw [hn3] at HN
  simp only [if_pos hok] at HG
  have HGb := Lib.hid (fun W h h3 => HG.out ⟨#[98]⟩ W h h3)
  have HGc := Lib.hid (fun W h h3 => HG.out ⟨#[99]⟩ W h h3)
  simp only [ab_b] at HGb
  simp only [ab_c] at HGc
  simp only [memR, scV, VT.agg] at HGb
  simp only [memR, zV, VT.agg] at HGc
  simp only [VT.agg] at HD HN
  have HTx := Lib.hid HT
  have hll : ((⟨#[97]⟩ : ByteArray).toList != (⟨#[97]⟩ : ByteArray).toList) = false := by simp
  clear HG hL hok hd1 hn3 hb3 hb02 hb02' ho hb03 hk hkc HT
  have hra := Below.refl (w3.alloc (.cells #[.int .i64 6, .int .i64 0, .string ⟨#[]⟩, .slice cA 2 cc, .slice (some ⟨kb, koff, none⟩) 2 kc] 25)).heap.size (w3.alloc (.cells #[.int .i64 6, .int .i64 0, .string ⟨#[]⟩, .slice cA 2 cc, .slice (some ⟨kb, koff, none⟩) 2 kc] 25))
  go_wp2_with fail
  refine (HD.out _ hb4 hb34).mono ?_
  rintro e w5 ⟨rfl, hb5⟩
  have hb05 := bel_next hb4 hb5
  have hb35 := bel_next hb34 hb5
  obtain ⟨⟨v0, v1, v2, v3, v4⟩, -⟩ := HV.out.later hb5
  go_wp2_with fail
  refine (HN.out _ hb05 hb35).mono ?_
  rintro e w6 ⟨rfl, hb6⟩
  have hb06 := bel_next hb05 hb6
  have hb36 := bel_next hb35 hb6
  have HV6 := Lib.hid ((HV.out.later hb5).later hb6)
  clear v0 v1 v2 v3 v4 HV hra hb4 hb34 hb5 hkc2
  obtain ⟨⟨v0, v1, v2, v3, v4⟩, -⟩ := HV6.out
  go_wp2_with fail
  refine (HGb.out _ hb06 hb36).mono ?_
  rintro e w7 ⟨rfl, hb7⟩
  have hb07 := bel_next hb06 hb7
  have hb37 := bel_next hb36 hb7
  have hb07' := bel_alloc hb07 (.cells #[.int .i64 3, .int .i64 1, .string ⟨#[]⟩, .slice none 0 0, .slice none 0 0] 25)
  have hb37' := bel_alloc hb37 (.cells #[.int .i64 3, .int .i64 1, .string ⟨#[]⟩, .slice none 0 0, .slice none 0 0] 25)
  have HO := Lib.hid (show VFive (w7.alloc (.cells #[.int .i64 3, .int .i64 1, .string ⟨#[]⟩, .slice none 0 0, .slice none 0 0] 25)) w7.heap.size (.int .i64 3) (.int .i64 1) (.string ⟨#[]⟩) (.slice none 0 0) (.slice none 0 0) from VFive.new _ _ _ _ _ _ _ _ rfl)
  have HV7 := Lib.hid ((HV6.out.later hb7).alloc (.cells #[.int .i64 3, .int .i64 1, .string ⟨#[]⟩, .slice none 0 0, .slice none 0 0] 25))
  clear v0 v1 v2 v3 v4 hb6 hb05 hb35
  obtain ⟨⟨v0, v1, v2, v3, v4⟩, -⟩ := HV7.out
  go_wp2_with fail
  refine (HGc.out _ hb07' hb37').mono ?_
  rintro e w8 ⟨rfl, hb8⟩
  have hb08 := bel_alloc (bel_next hb07' hb8) (.cells #[.int .i64 0, .int .i64 0, .string ⟨#[]⟩, .slice none 0 0, .slice none 0 0] 25)
  have HO8 := Lib.hid ((HO.out.later hb8).alloc (.cells #[.int .i64 0, .int .i64 0, .string ⟨#[]⟩, .slice none 0 0, .slice none 0 0] 25))
  clear v0 v1 v2 v3 v4 HV7 HV6 HO hb7 hb8 hb06 hb36 hb07 hb37 hb37' HD HN HGb HGc hb07'
  go_wp2_with fail
  refine (hi1 _ _).mono ?_
  rintro e w10 ⟨rfl, hb10⟩
  go_wp2_with fail
  refine (hi1 _ _).mono ?_
  rintro e w11 ⟨rfl, hb11⟩
  have hb011 := bel_next (bel_next hb08 hb10) hb11
  have hb011' := bel_alloc hb011 (.cells #[.string ⟨#[97]⟩, .int .i64 3, .int .i64 1, .string ⟨#[]⟩, .slice none 0 0, .slice none 0 0, .string ⟨#[97]⟩, .int .i64 3, .int .i64 2, .string ⟨#[]⟩, .slice none 0 0, .slice none 0 0] 48)
  have hs11 := shows_new w11 #[.string ⟨#[97]⟩, .int .i64 3, .int .i64 1, .string ⟨#[]⟩, .slice none 0 0, .slice none 0 0, .string ⟨#[97]⟩, .int .i64 3, .int .i64 2, .string ⟨#[]⟩, .slice none 0 0, .slice none 0 0] 48 _ 2 6 rfl rfl
  have ho := object_aa w11.heap.size (w11.heap.size + 1) _ hs11 (by simp) (HTx.out _ hb011').1 (HTx.out _ hb011').2
  have HO11 := Lib.hid (((HO8.out.later hb10).later hb11).alloc (.cells #[.string ⟨#[97]⟩, .int .i64 3, .int .i64 1, .string ⟨#[]⟩, .slice none 0 0, .slice none 0 0, .string ⟨#[97]⟩, .int .i64 3, .int .i64 2, .string ⟨#[]⟩, .slice none 0 0, .slice none 0 0] 48))
  clear hs11 hb10 hb11 HO8 hb011 hb08
  go_wp2_with fail
  refine ho.mono ?_
  rintro e w12 ⟨hb12, rfl⟩
  have hb012 := bel_alloc (bel_next hb011' hb12) (.cells #[.int .i64 0, .int .i64 0, .string ⟨#[]⟩, .slice none 0 0, .slice none 0 0] 25)
  have HO12 := Lib.hid ((HO11.out.later hb12).alloc (.cells #[.int .i64 0, .int .i64 0, .string ⟨#[]⟩, .slice none 0 0, .slice none 0 0] 25))
  have htx := text_any ⟨#[195, 169]⟩ _ (by decide) (HTx.out _ hb012).1 (HTx.out _ hb012).2
  have hch : chkR (scV 4 0 ⟨#[195, 169]⟩) = .tuple #[.agg #[.int .i64 4, .int .i64 0, .string ⟨#[195, 169]⟩, .slice none 0 0, .slice none 0 0], .int .i64 0] := by unfold chkR; rw [if_pos e_ok]; rfl
  rw [hch] at htx
  clear ho hb12 HO11 hb011' hch
  go_wp2_with fail
  refine htx.mono ?_
  rintro e w14 ⟨rfl, hb14⟩
  have hb014 := bel_alloc (bel_next hb012 hb14) (.cells #[.int .i64 4, .int .i64 0, .string ⟨#[195, 169]⟩, .slice none 0 0, .slice none 0 0] 25)
  have HO14 := Lib.hid ((HO12.out.later hb14).alloc (.cells #[.int .i64 4, .int .i64 0, .string ⟨#[195, 169]⟩, .slice none 0 0, .slice none 0 0] 25))
  have hln := len_any 0 _ (scV 4 0 ⟨#[195, 169]⟩) (lie_sc 4 0 ⟨#[195, 169]⟩ _ _ (by decide) (by decide) (by decide)) (Nat.zero_le _) (by decide) (HTx.out _ hb014).1 (HTx.out _ hb014).2
  rw [e_len] at hln
  simp only [scV, VT.agg] at hln
  clear htx hb14 HO12 hb012
  go_wp2_with fail
  refine hln.mono ?_
  rintro e w15 ⟨rfl, hb15⟩
  have hb015 := bel_next hb014 hb15
  obtain ⟨⟨v0, v1, v2, v3, v4⟩, -⟩ := HO14.out.later hb15
  have hck := vcheck_any 0 w15 (scV 0 0 ⟨#[]⟩) (lie_sc 0 0 _ _ _ (by decide) (by decide) (by decide)) (Nat.zero_le _) (HTx.out _ hb015).1 (HTx.out _ hb015).2
  rw [z_ok] at hck
  simp only [scV, VT.agg, Bool.false_eq_true, if_false] at hck
  clear hln HO14
  go_wp2_with fail
  refine hck.mono ?_
  rintro e w16 ⟨rfl, hb16⟩
  go_wp2
  go_ret
  exact ⟨rfl, bel_next hb015 hb16⟩
end Go.Proofs.YtnldiemggabdkaaDoor
/-
  Rows of an argument, cell by cell: flat_len, flat_get, shows_rows.
-/
namespace Go.Proofs.YtnldiemggabdkaaDoor
open Go.ChangeShapes Go.WideShapes Go.ChangeAt Go.RowKit Go.Deep
set_option linter.unusedVariables false

theorem flat_len {α : Type} (f : α → List Value) (k : Nat) (hf : ∀ x, (f x).length = k) : ∀ l : List α, (l.flatMap f).length = l.length * k
  | [] => by simp
  | x :: l => by rw [List.flatMap_cons, List.length_append, flat_len f k hf l, hf, List.length_cons, Nat.add_mul]; omega
theorem flat_get {α : Type} (f : α → List Value) (k : Nat) (hf : ∀ x, (f x).length = k) : ∀ (l : List α) (i j : Nat) (hi : i < l.length) (_ : j < k), (l.flatMap f)[i * k + j]? = (f (l[i]'hi))[j]?
  | x :: l, 0, j, _, hj => by
    rw [List.flatMap_cons, List.getElem?_append_left (by rw [hf]; omega)]
    simp
  | x :: l, i + 1, j, hi, hj => by
    have e : (i + 1) * k + j = (f x).length + (i * k + j) := by rw [hf, Nat.add_mul]; omega
    rw [List.flatMap_cons, e, List.getElem?_append_right (by omega), Nat.add_sub_cancel_left, flat_get f k hf l i j (by simpa using hi) hj]
    simp
/-- Rows of cells that are known one by one. -/
theorem shows_rows {α : Type} (f : α → List Value) (k : Nat) (hk : 0 < k) (hf : ∀ x, (f x).length = k) {w : World} {a : Addr} {n : Nat} (F : Nat → α) (h : ∀ i, i < n → ∀ j u, (f (F i))[j]? = some u → w.cell? (a.add (i * k + j)) = some u) :
    Shows w w.heap.size k (some a) n (((List.range n).map F).flatMap f) := by
  have hl : ((List.range n).map F).length = n := by simp
  refine ⟨by rw [flat_len f k hf, hl], fun hn => ?_⟩
  obtain ⟨b, off, spot⟩ := a
  have h00 : 0 < (f (F 0)).length := by rw [hf]; exact hk
  have hc0 := h 0 hn 0 _ (List.getElem?_eq_getElem h00)
  have hspot : spot = none := by simpa [Addr.add] using World.cell?_spot hc0
  subst hspot
  have hlt : b < w.heap.size := World.block_lt_of_cell? w _ (by simpa [Addr.add] using hc0)
  refine ⟨b, off, rfl, hlt, fun j u hu => ?_⟩
  have hj : j < (((List.range n).map F).flatMap f).length := (List.getElem?_eq_some_iff.1 hu).1
  rw [flat_len f k hf, hl] at hj
  have hd : j / k < n := Nat.div_lt_of_lt_mul (by rw [Nat.mul_comm]; exact hj)
  have hm : j % k < k := Nat.mod_lt _ hk
  have he : j = j / k * k + j % k := by rw [Nat.mul_comm]; exact (Nat.div_add_mod j k).symm
  rw [he, flat_get f k hf _ _ _ (by rw [hl]; exact hd) hm] at hu
  simp only [List.getElem_map, List.getElem_range] at hu
  have := h (j / k) hd (j % k) u hu
  rw [addr_add, ← he] at this
  exact this

end Go.Proofs.YtnldiemggabdkaaDoor
/-
  Layer 4: arguments: a value, a list of values, pairs, keys.
-/
namespace Go.Proofs.YtnldiemggabdkaaDoor
open Go.ChangeShapes Go.WideShapes Go.ChangeAt Go.RowKit Go.Deep
set_option linter.unusedVariables false

section
variable {H : Type} {enc : TypeId × Value → H} {P : Program} {w W : World} {base b0 : Nat} {spare : Nat → Bool} {held : Bool} {r : Reach} {t e : TypeId} {v : Value} {d : DataW H} {p : List MemPlace}
/-- A row of things that came in, one by one. -/
theorem open_rows {α : Type} (f : α → List Value) (z : α) (k : Nat) (hk : 0 < k) (hf : ∀ x, (f x).length = k) (Q : α → Prop) {fuel : Nat} {cs : List Value} {x : DataW H × List MemPlace} (ht : P.underlying t = some (.slice e)) (hC : P.cellsOf e = k)
    (hQ : ∀ n cs y, n < fuel → cs.length = k → DataW.trod enc P w base spare held n e cs = some y → ∃ x : α, cs = f x ∧ Q x)
    (h : DataW.trod enc P w base spare held fuel t cs = some x) : ∃ (A : Option Addr) (n c : Nat) (l : List α), cs = [.slice A n c] ∧ Shows w w.heap.size k A n (l.flatMap f) ∧ (∀ x ∈ l, Q x) ∧ (A = none → c = 0) ∧ n ≤ c ∧ c ≤ maxLen := by
  rcases DataW.trod_slice ht h with ⟨hcs, _⟩ | ⟨a, len, cap, elems, rest, n, hn, hcs, _, _, hl, hm, hlen, hi, _, _⟩
  · exact ⟨none, 0, 0, [], hcs, ⟨by simp, fun h => absurd h (by decide)⟩, by simp, fun _ => rfl, Nat.le_refl _, Nat.zero_le _⟩
  · have hF : ∀ i, ∃ r : α, i < len → Q r ∧ ∀ j u, (f r)[j]? = some u → w.cell? (a.add (i * k + j)) = some u := by
      intro i
      by_cases hin : i < len
      · have h2 := hi i hin
        rw [List.getElem?_eq_getElem (by rw [hlen]; exact hin)] at h2
        obtain ⟨cs', hc, htr⟩ := Option.bind_eq_some_iff.1 h2
        obtain ⟨_, hlen', hat⟩ := World.cells?_some hc
        rw [hC] at hlen' hat
        obtain ⟨r, rfl, hr⟩ := hQ n cs' _ (by omega) hlen' htr
        refine ⟨r, fun _ => ⟨hr, fun j u hu => ?_⟩⟩
        have hj : j < k := by have := (List.getElem?_eq_some_iff.1 hu).1; rw [hlen'] at this; exact this
        have := hat j hj
        rw [hu] at this
        rw [← this, ← Go.Deep.add_add]
      · exact ⟨z, fun h => absurd h hin⟩
    refine ⟨some a, len, cap, (List.range len).map fun i => Classical.choose (hF i), hcs, shows_rows f k hk hf _ fun i hi j u hu => (Classical.choose_spec (hF i) hi).2 j u hu, ?_, nofun, hl, hm⟩
    intro r hr
    obtain ⟨i, hi, rfl⟩ := List.mem_map.1 hr
    exact (Classical.choose_spec (hF i) (List.mem_range.1 hi)).1
theorem flat_one (l : List ByteArray) : l.flatMap (fun s => [Value.string s]) = l.map Value.string := by
  induction l with
  | nil => rfl
  | cons x l ih => rw [List.flatMap_cons, ih]; rfl
theorem open_keys {fuel : Nat} {cs : List Value} {x : DataW H × List MemPlace} (ht : P.underlying t = some (.slice e)) (hC : P.cellsOf e = 1) (he : P.underlying e = some .string) (h : DataW.trod enc P w base spare held fuel t cs = some x) :
    ∃ (A : Option Addr) (n c : Nat) (l : List ByteArray), cs = [.slice A n c] ∧ Shows w w.heap.size 1 A n (l.map Value.string) ∧ (∀ x ∈ l, x.size ≤ maxLen) ∧ (A = none → c = 0) ∧ n ≤ c ∧ c ≤ maxLen := by
  obtain ⟨A, n, c, l, h1, h2, h3⟩ := open_rows (fun s : ByteArray => [Value.string s]) ⟨#[]⟩ 1 (by decide) (fun _ => rfl) (fun s => s.size ≤ maxLen) ht hC (fun n cs y _ _ hy => by
    obtain ⟨s, e, _, hs⟩ := DataW.trod_string he hy
    exact ⟨s, e, hs⟩) h
  rw [flat_one] at h2
  exact ⟨A, n, c, l, h1, h2, h3⟩
variable {f0 f1 f2 f3 f4 : Field} {ek : TypeId}
/-- A value that came in. -/
theorem trod_value (ht : P.underlying t = some (.struct #[f0, f1, f2, f3, f4])) (hone : oneCellFields P #[f0, f1, f2, f3, f4] = true) (hC : P.cellsOf t = 5)
    (k0 : P.underlying f0.type = some (.int .i64)) (k1 : P.underlying f1.type = some (.int .i64)) (k2 : P.underlying f2.type = some .string) (k3 : P.underlying f3.type = some (.slice t)) (k4 : P.underlying f4.type = some (.slice ek)) (k5 : P.underlying ek = some .string) (hk : P.cellsOf ek = 1) :
    ∀ (fuel : Nat) (cs : List Value) (x : DataW H × List MemPlace), cs.length = 5 → DataW.trod enc P w base spare held fuel t cs = some x → ∃ T : VT, cs = T.cells ∧ Lie w w.heap.size T := by
  intro fuel
  induction fuel using Nat.strongRecOn with
  | ind fuel ih =>
    intro cs x hsz h
    match cs, hsz with
    | [c0, c1, c2, c3, c4], _ =>
      obtain ⟨xs, n, hn, hx, _, hlen, hg⟩ := DataW.trod_struct ht h
      obtain ⟨o0, q0⟩ := hone_of hone 0 f0 rfl
      obtain ⟨o1, q1⟩ := hone_of hone 1 f1 rfl
      obtain ⟨o2, q2⟩ := hone_of hone 2 f2 rfl
      obtain ⟨o3, q3⟩ := hone_of hone 3 f3 rfl
      obtain ⟨o4, q4⟩ := hone_of hone 4 f4 rfl
      match xs, hlen with
      | [y0, y1, y2, y3, y4], _ =>
        have hy0 : DataW.trod enc P w base spare held n f0.type [c0] = some y0 := by simpa [o0, q0] using hg 0 f0 rfl
        have hy1 : DataW.trod enc P w base spare held n f1.type [c1] = some y1 := by simpa [o1, q1] using hg 1 f1 rfl
        have hy2 : DataW.trod enc P w base spare held n f2.type [c2] = some y2 := by simpa [o2, q2] using hg 2 f2 rfl
        have hy3 : DataW.trod enc P w base spare held n f3.type [c3] = some y3 := by simpa [o3, q3] using hg 3 f3 rfl
        have hy4 : DataW.trod enc P w base spare held n f4.type [c4] = some y4 := by simpa [o4, q4] using hg 4 f4 rfl
        obtain ⟨z0, e0, _, w0⟩ := DataW.trod_int k0 hy0
        obtain ⟨z1, e1, _, w1⟩ := DataW.trod_int k1 hy1
        obtain ⟨s, e2, _, hs⟩ := DataW.trod_string k2 hy2
        obtain ⟨A3, n3, d3, l3, e3, hS3, hL3, a3, b3, m3⟩ := open_rows VT.cells (scV 0 0 ⟨#[]⟩) 5 (by decide) VT.cells_len (Lie w w.heap.size) k3 hC (fun n' cs' y hn' hl' hy' => ih n' (by omega) cs' y hl' hy') hy3
        obtain ⟨A4, n4, d4, l4, e4, hS4, hL4, a4, b4, m4⟩ := open_keys k4 hk k5 hy4
        simp at e0 e1 e2 e3 e4
        subst e0 e1 e2 e3 e4
        exact ⟨.mk z0 z1 s A3 n3 d3 A4 n4 d4 l4 l3, rfl, .mk hS3 hS4 ⟨w0, w1, hs, b3, m3, a3, b4, m4, a4, hL4⟩ hL3⟩
theorem came_value (ht : P.underlying t = some (.struct #[f0, f1, f2, f3, f4])) (hone : oneCellFields P #[f0, f1, f2, f3, f4] = true) (hC : P.cellsOf t = 5)
    (k0 : P.underlying f0.type = some (.int .i64)) (k1 : P.underlying f1.type = some (.int .i64)) (k2 : P.underlying f2.type = some .string) (k3 : P.underlying f3.type = some (.slice t)) (k4 : P.underlying f4.type = some (.slice ek)) (k5 : P.underlying ek = some .string) (hk : P.cellsOf ek = 1)
    (hv : Value.okWide P W r b0 t v) (h : DataW.Trod enc P w base spare held t v d p) : ∃ T : VT, v = T.agg ∧ Lie w w.heap.size T := by
  obtain ⟨cs, rfl, hsz⟩ := okWide_struct ht hv
  obtain ⟨fuel, hf⟩ := h
  obtain ⟨T, hT, hL⟩ := trod_value ht hone hC k0 k1 k2 k3 k4 k5 hk fuel cs.toList _ (by simpa using hsz.trans hC) (by simpa [Value.cells] using hf)
  refine ⟨T, ?_, hL⟩
  rw [← Array.toArray_toList (xs := cs), hT]
  cases T; rfl
theorem came_values {A : Option Addr} {n c : Nat} (hu : P.underlying e = some (.slice t)) (ht : P.underlying t = some (.struct #[f0, f1, f2, f3, f4])) (hone : oneCellFields P #[f0, f1, f2, f3, f4] = true) (hC : P.cellsOf t = 5)
    (k0 : P.underlying f0.type = some (.int .i64)) (k1 : P.underlying f1.type = some (.int .i64)) (k2 : P.underlying f2.type = some .string) (k3 : P.underlying f3.type = some (.slice t)) (k4 : P.underlying f4.type = some (.slice ek)) (k5 : P.underlying ek = some .string) (hk : P.cellsOf ek = 1)
    (h : DataW.Trod enc P w base spare held e (.slice A n c) d p) : ∃ l : List VT, Shows w w.heap.size 5 A n (l.flatMap VT.cells) ∧ (∀ T ∈ l, Lie w w.heap.size T) ∧ (A = none → c = 0) ∧ n ≤ c ∧ c ≤ maxLen := by
  obtain ⟨fuel, hf⟩ := h
  obtain ⟨A', n', c', l, hcs, h2, h3, h4⟩ := open_rows VT.cells (scV 0 0 ⟨#[]⟩) 5 (by decide) VT.cells_len (Lie w w.heap.size) hu hC (fun n' cs' y _ hl' hy' => trod_value ht hone hC k0 k1 k2 k3 k4 k5 hk n' cs' y hl' hy') hf
  simp [Value.cells] at hcs
  obtain ⟨rfl, rfl, rfl⟩ := hcs
  exact ⟨l, h2, h3, h4⟩
theorem came_keys {A : Option Addr} {n c : Nat} (hu : P.underlying t = some (.slice e)) (hC : P.cellsOf e = 1) (he : P.underlying e = some .string) (h : DataW.Trod enc P w base spare held t (.slice A n c) d p) :
    ∃ l : List ByteArray, Shows w w.heap.size 1 A n (l.map Value.string) ∧ (∀ x ∈ l, x.size ≤ maxLen) ∧ (A = none → c = 0) ∧ n ≤ c ∧ c ≤ maxLen := by
  obtain ⟨fuel, hf⟩ := h
  obtain ⟨A', n', c', l, hcs, h2, h3, h4⟩ := open_keys hu hC he hf
  simp [Value.cells] at hcs
  obtain ⟨rfl, rfl, rfl⟩ := hcs
  exact ⟨l, h2, h3, h4⟩
end
end Go.Proofs.YtnldiemggabdkaaDoor
