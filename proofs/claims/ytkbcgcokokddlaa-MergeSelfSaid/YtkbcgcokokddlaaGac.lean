import Derived.Test.YtkbcgcokokddlaaGab
import Derived.Handy
import Derived.LoopTactic
import Derived.Deep.CutBlock
import Derived.Test.YtkbcgcokokddlaaGaa
/-
  Layer 15: container/heap.down over the queue.
-/
namespace Go.Proofs.Ytkbcgcokokddlaa
open Go.RowKit
set_option linter.unusedVariables false
set_option linter.unusedSimpArgs false

def gR (R : List RsT) : Nat → RsE := atR (R.map RsT.s)
theorem gR_of {R : List RsT} {i : Nat} {x : RsT} (h : R[i]? = some x) : gR R i = x.s := atR_of (by rw [List.getElem?_map, h]; rfl)
theorem gR_swap {R : List RsT} {i j : Nat} {x y : RsT} (hx : R[i]? = some x) (hy : R[j]? = some y) : gR ((R.set i y).set j x) = swp (gR R) i j := by
  have hi := (List.getElem?_eq_some_iff.1 hx).1
  have hj := (List.getElem?_eq_some_iff.1 hy).1
  have e : ((R.set i y).set j x).map RsT.s = swapL (R.map RsT.s) i j := by
    unfold swapL
    rw [List.map_set, List.map_set, atR_of (i := j) (a := y.s) (by rw [List.getElem?_map, hy]; rfl), atR_of (i := i) (a := x.s) (by rw [List.getElem?_map, hx]; rfl)]
  unfold gR
  rw [e]
  exact swapL_at (by rw [List.length_map]; exact hi) (by rw [List.length_map]; exact hj)
theorem set2_perm {R : List RsT} {i j : Nat} {x y : RsT} (hx : R[i]? = some x) (hy : R[j]? = some y) : ((R.set i y).set j x).Perm R := by
  obtain ⟨hi, rfl⟩ := List.getElem?_eq_some_iff.1 hx
  obtain ⟨hj, rfl⟩ := List.getElem?_eq_some_iff.1 hy
  exact List.set_set_perm hi hj
theorem set2_drop {R : List RsT} {i j n : Nat} (x y : RsT) (hi : i < n) (hj : j < n) : ((R.set i y).set j x).drop n = R.drop n := by
  rw [List.drop_set_of_lt hj, List.drop_set_of_lt hi]
def DwnP (q g D B c n i0 : Nat) (R : List RsT) (W : World) (e : Ending) (W' : World) : Prop :=
  ∃ (z : Bool) (R' : List RsT), e = .returned (.bool z) ∧ Tu q g W W' ∧ QMem W' q D B (some ⟨g, 0, none⟩) c R' ∧ R'.Perm R ∧ R'.drop n = R.drop n ∧ HeapF (gR R') n i0
set_option maxRecDepth 20000 in
set_option maxHeartbeats 1000000 in
theorem down_any (q g D B c n i0 : Nat) (R : List RsT) (W : World) (hq : QMem W q D B (some ⟨g, 0, none⟩) c R) (hB : B ≤ W.heap.size) (hn : n ≤ R.length) (hN : n ≤ 1048576) (hi0 : i0 ≤ 1048576) (hh : HeapF (gR R) n (i0 + 1)) :
    Calls Try.prog 52 #[.iface 68 (.pointer (some ⟨q, 0, none⟩)), .int .i64 i0, .int .i64 n] W (DwnP q g D B c n i0 R W) := by
  have HQ0 := Lib.hid hq
  have HS0 := Lib.hid (sink_start hh)
  have HBs := Lib.hid hB
  clear hq hh hB
  go_enter Try.func52, Try.ntmps52
  go_upto_block 0 with fail
  go_cut [7] (fun y wx => ∃ (i : Nat) (R1 : List RsT), y = .int .i64 i ∧ Hid (Tu q g W wx ∧ QMem wx q D B (some ⟨g, 0, none⟩) c R1 ∧ R1.Perm R ∧ R1.drop n = R.drop n ∧ HeapF (gR R1) n i0))
  case rest =>
    obtain ⟨i, R1, rfl, HH⟩ := hcut
    go_wp2
    refine bodyPost_ret (v := .bool (decide ((i0 : Int) < (i : Int)))) (by simp [results, Try.results52, go_sem, *]) rfl (Exists.intro _ ⟨R1, rfl, HH.out⟩)
  go_wp2_with fail
  go_loopw [7] (fun y wr => ∃ (i : Nat) (R1 : List RsT), y = .int .i64 i ∧ i0 ≤ i ∧ i ≤ 1048576 ∧ Hid (Tu q g W wr) ∧ Hid (QMem wr q D B (some ⟨g, 0, none⟩) c R1) ∧ Hid (R1.Perm R) ∧ Hid (R1.drop n = R.drop n) ∧ Hid (Sink (gR R1) n i0 i)) (fun y _ => n - (intOf y).toNat)
  case atStart => exact ⟨i0, R, rfl, Nat.le_refl _, hi0, Lib.hid (Tu.refl _ _ _), HQ0, Lib.hid (List.Perm.refl _), Lib.hid rfl, HS0⟩
  case round =>
    obtain ⟨i, R1, rfl, hii, him, HT, HQ, HP, HD, HS⟩ := hrel
    clear HQ0 HS0
    have HL := Lib.hid HP.out.length_eq
    by_cases h1 : n ≤ 2 * i + 1
    · have h1' : (n : Int) ≤ 2 * (i : Int) + 1 := by omega
      have HF := Lib.hid (sink_leaf HS.out (by omega))
      go_wp2_with fail
      go_meet
      case rel => exact ⟨i, R1, rfl, Lib.hid ⟨HT.out, HQ.out, HP.out, HD.out, HF.out⟩⟩
    · have h1' : ¬ (n : Int) ≤ 2 * (i : Int) + 1 := by omega
      have hj0 : ¬ 2 * (i : Int) + 1 < 0 := by omega
      obtain ⟨x, hx⟩ : ∃ x, R1[i]? = some x := ⟨_, List.getElem?_eq_getElem (by have := HL.out; omega)⟩
      obtain ⟨y1, hy1⟩ : ∃ x, R1[2 * i + 1]? = some x := ⟨_, List.getElem?_eq_getElem (by have := HL.out; omega)⟩
      have HX := Lib.hid hx
      have HY1 := Lib.hid hy1
      have hBr := Lib.hid (Nat.le_trans HBs.out HT.out.size)
      by_cases h2 : 2 * i + 2 < n
      · have h2' : 2 * (i : Int) + 1 + 1 < (n : Int) := by omega
        obtain ⟨y2, hy2⟩ : ∃ x, R1[2 * i + 2]? = some x := ⟨_, List.getElem?_eq_getElem (by have := HL.out; omega)⟩
        have HY2 := Lib.hid hy2
        have hc := qless_any q g D B c R1 wr HQ.out hBr.out (2 * i + 2) (2 * i + 1) y2 y1 hy2 hy1
        rw [show ((2 * i + 2 : Nat) : Int) = 2 * (i : Int) + 1 + 1 by omega, show ((2 * i + 1 : Nat) : Int) = 2 * (i : Int) + 1 by omega] at hc
        have HLT := Lib.hid (least_two (g := gR R1) (n := n) (i := i) (by omega))
        rw [gR_of hy1, gR_of hy2] at HLT
        clear hx hy1 hy2
        go_wp2_with fail
        refine hc.mono ?_
        rintro e W2 ⟨z, rfl, hz, hb2⟩
        have HQ2 := Lib.hid (HQ.out.later hBr.out hb2)
        have HT2 := Lib.hid (HT.out.trans (Tu.of_below (q := q) (g := g) hb2))
        have hB2 := Lib.hid (Nat.le_trans hBr.out hb2.size)
        clear hc hb2
        cases z
        · have hm := Lib.hid (HLT.out (2 * i + 1) (.inl ⟨rfl, .inr (fun h => by have := hz.2 h; cases this)⟩))
          clear hz HLT
          have hc := qless_any q g D B c R1 W2 HQ2.out hB2.out (2 * i + 1) i y1 x HY1.out HX.out
          rw [show ((2 * i + 1 : Nat) : Int) = 2 * (i : Int) + 1 by omega] at hc
          go_wp2_with fail
          refine hc.mono ?_
          rintro e W3 ⟨z, rfl, hz, hb3⟩
          have HQ3 := Lib.hid (HQ2.out.later hB2.out hb3)
          have HT3 := Lib.hid (HT2.out.trans (Tu.of_below (q := q) (g := g) hb3))
          clear hc hb3
          cases z
          · have HF := Lib.hid (sink_stay HS.out hm.out.2.2.2 (fun h => by rw [gR_of HY1.out, gR_of HX.out] at h; have := hz.2 h; cases this))
            clear hz
            go_wp2_with fail
            go_meet
            case rel => exact ⟨i, R1, rfl, Lib.hid ⟨HT3.out, HQ3.out, HP.out, HD.out, HF.out⟩⟩
          · have HS4 := Lib.hid (sink_swap HS.out hii hm.out.1 hm.out.2.1 hm.out.2.2.1 hm.out.2.2.2 (by rw [gR_of HY1.out, gR_of HX.out]; exact hz.1 rfl))
            rw [← gR_swap HX.out HY1.out] at HS4
            have HP4 := Lib.hid ((set2_perm HX.out HY1.out).trans HP.out)
            have HD4 := Lib.hid ((set2_drop (n := n) x y1 (show i < n by have := hm.out.2.2.1; have := hm.out.2.1; omega) hm.out.2.1).trans HD.out)
            have hc := qswap_any q g D B c R1 W3 HQ3.out i (2 * i + 1) x y1 HX.out HY1.out
            rw [show ((2 * i + 1 : Nat) : Int) = 2 * (i : Int) + 1 by omega] at hc
            have hjn : i < (2 * i + 1) ∧ (2 * i + 1) < n := by have := hm.out; omega
            clear hz
            go_wp2_with fail
            refine hc.mono ?_
            rintro e W4 ⟨rfl, hg4, hq4⟩
            have HQ4 := Lib.hid hq4
            have HT4 := Lib.hid (HT3.out.trans (Tu.of_g (q := q) hg4))
            clear hc hg4 hq4
            go_wp2_with fail
            go_roundw
            case rel => first | exact ⟨(2 * i + 1), _, by go_num, by omega, by omega, HT4, HQ4, HP4, HD4, HS4⟩ | exact ⟨_, ⟨(2 * i + 1), _, by go_num, by omega, by omega, HT4, HQ4, HP4, HD4, HS4⟩, rfl⟩
            case measure => simp [intOf]; omega
        · have hm := Lib.hid (HLT.out (2 * i + 2) (.inr ⟨rfl, h2, hz.1 rfl⟩))
          clear hz HLT
          have hc := qless_any q g D B c R1 W2 HQ2.out hB2.out (2 * i + 2) i y2 x HY2.out HX.out
          rw [show ((2 * i + 2 : Nat) : Int) = 2 * (i : Int) + 1 + 1 by omega] at hc
          go_wp2_with fail
          refine hc.mono ?_
          rintro e W3 ⟨z, rfl, hz, hb3⟩
          have HQ3 := Lib.hid (HQ2.out.later hB2.out hb3)
          have HT3 := Lib.hid (HT2.out.trans (Tu.of_below (q := q) (g := g) hb3))
          clear hc hb3
          cases z
          · have HF := Lib.hid (sink_stay HS.out hm.out.2.2.2 (fun h => by rw [gR_of HY2.out, gR_of HX.out] at h; have := hz.2 h; cases this))
            clear hz
            go_wp2_with fail
            go_meet
            case rel => exact ⟨i, R1, rfl, Lib.hid ⟨HT3.out, HQ3.out, HP.out, HD.out, HF.out⟩⟩
          · have HS4 := Lib.hid (sink_swap HS.out hii hm.out.1 hm.out.2.1 hm.out.2.2.1 hm.out.2.2.2 (by rw [gR_of HY2.out, gR_of HX.out]; exact hz.1 rfl))
            rw [← gR_swap HX.out HY2.out] at HS4
            have HP4 := Lib.hid ((set2_perm HX.out HY2.out).trans HP.out)
            have HD4 := Lib.hid ((set2_drop (n := n) x y2 (show i < n by have := hm.out.2.2.1; have := hm.out.2.1; omega) hm.out.2.1).trans HD.out)
            have hc := qswap_any q g D B c R1 W3 HQ3.out i (2 * i + 2) x y2 HX.out HY2.out
            rw [show ((2 * i + 2 : Nat) : Int) = 2 * (i : Int) + 1 + 1 by omega] at hc
            have hjn : i < (2 * i + 2) ∧ (2 * i + 2) < n := by have := hm.out; omega
            clear hz
            go_wp2_with fail
            refine hc.mono ?_
            rintro e W4 ⟨rfl, hg4, hq4⟩
            have HQ4 := Lib.hid hq4
            have HT4 := Lib.hid (HT3.out.trans (Tu.of_g (q := q) hg4))
            clear hc hg4 hq4
            go_wp2_with fail
            go_roundw
            case rel => first | exact ⟨(2 * i + 2), _, by go_num, by omega, by omega, HT4, HQ4, HP4, HD4, HS4⟩ | exact ⟨_, ⟨(2 * i + 2), _, by go_num, by omega, by omega, HT4, HQ4, HP4, HD4, HS4⟩, rfl⟩
            case measure => simp [intOf]; omega
      · have h2' : ¬ 2 * (i : Int) + 1 + 1 < (n : Int) := by omega
        have HLT := Lib.hid (least_two (g := gR R1) (n := n) (i := i) (by omega))
        have hm := Lib.hid (HLT.out (2 * i + 1) (.inl ⟨rfl, .inl (by omega)⟩))
        have HQ2 := HQ
        have HT2 := HT
        have hB2 := hBr
        obtain ⟨W2, hW2⟩ : ∃ W2, wr = W2 := ⟨_, rfl⟩
        rw [hW2] at HQ2 HT2 hB2 ⊢
        clear hx hy1 HLT HQ HT hBr hW2
        have hc := qless_any q g D B c R1 W2 HQ2.out hB2.out (2 * i + 1) i y1 x HY1.out HX.out
        rw [show ((2 * i + 1 : Nat) : Int) = 2 * (i : Int) + 1 by omega] at hc
        go_wp2_with fail
        refine hc.mono ?_
        rintro e W3 ⟨z, rfl, hz, hb3⟩
        have HQ3 := Lib.hid (HQ2.out.later hB2.out hb3)
        have HT3 := Lib.hid (HT2.out.trans (Tu.of_below (q := q) (g := g) hb3))
        clear hc hb3
        cases z
        · have HF := Lib.hid (sink_stay HS.out hm.out.2.2.2 (fun h => by rw [gR_of HY1.out, gR_of HX.out] at h; have := hz.2 h; cases this))
          clear hz
          go_wp2_with fail
          go_meet
          case rel => exact ⟨i, R1, rfl, Lib.hid ⟨HT3.out, HQ3.out, HP.out, HD.out, HF.out⟩⟩
        · have HS4 := Lib.hid (sink_swap HS.out hii hm.out.1 hm.out.2.1 hm.out.2.2.1 hm.out.2.2.2 (by rw [gR_of HY1.out, gR_of HX.out]; exact hz.1 rfl))
          rw [← gR_swap HX.out HY1.out] at HS4
          have HP4 := Lib.hid ((set2_perm HX.out HY1.out).trans HP.out)
          have HD4 := Lib.hid ((set2_drop (n := n) x y1 (show i < n by have := hm.out.2.2.1; have := hm.out.2.1; omega) hm.out.2.1).trans HD.out)
          have hc := qswap_any q g D B c R1 W3 HQ3.out i (2 * i + 1) x y1 HX.out HY1.out
          rw [show ((2 * i + 1 : Nat) : Int) = 2 * (i : Int) + 1 by omega] at hc
          have hjn : i < (2 * i + 1) ∧ (2 * i + 1) < n := by have := hm.out; omega
          clear hz
          go_wp2_with fail
          refine hc.mono ?_
          rintro e W4 ⟨rfl, hg4, hq4⟩
          have HQ4 := Lib.hid hq4
          have HT4 := Lib.hid (HT3.out.trans (Tu.of_g (q := q) hg4))
          clear hc hg4 hq4
          go_wp2_with fail
          go_roundw
          case rel => first | exact ⟨(2 * i + 1), _, by go_num, by omega, by omega, HT4, HQ4, HP4, HD4, HS4⟩ | exact ⟨_, ⟨(2 * i + 1), _, by go_num, by omega, by omega, HT4, HQ4, HP4, HD4, HS4⟩, rfl⟩
          case measure => simp [intOf]; omega
end Go.Proofs.Ytkbcgcokokddlaa
/-
  Layer 15: container/heap.Pop over the queue.
-/
namespace Go.Proofs.Ytkbcgcokokddlaa
open Go.RowKit
set_option linter.unusedVariables false
set_option linter.unusedSimpArgs false

def HpP (q g D B c : Nat) (R0 : List RsT) (W : World) (W' : World) : Prop :=
  Tu q g W W' ∧ ∃ R', QMem W' q D B (some ⟨g, 0, none⟩) c R' ∧ R'.Perm R0 ∧ HeapF (gR R') R'.length 0
set_option maxRecDepth 20000 in
set_option maxHeartbeats 1000000 in
theorem hpop_any (q g D B c : Nat) (r0 : RsT) (R0 : List RsT) (W : World) (hq : QMem W q D B (some ⟨g, 0, none⟩) c (r0 :: R0)) (hB : B ≤ W.heap.size) (hN : (r0 :: R0).length ≤ 1048576) (hh : HeapF (gR (r0 :: R0)) (r0 :: R0).length 0) :
    Calls Try.prog 53 #[.iface 68 (.pointer (some ⟨q, 0, none⟩))] W (fun e W' => (∃ v, e = .returned v) ∧ HpP q g D B c R0 W W') := by
  obtain ⟨m, hm⟩ : ∃ m, R0.length = m := ⟨_, rfl⟩
  obtain ⟨R, hR⟩ : ∃ R, r0 :: R0 = R := ⟨_, rfl⟩
  have hl : R.length = m + 1 := by rw [← hR, List.length_cons, hm]
  have hx : R[0]? = some r0 := by rw [← hR]; rfl
  rw [hR] at hq hN hh
  obtain ⟨y, hy⟩ : ∃ y, R[m]? = some y := ⟨_, List.getElem?_eq_getElem (by omega)⟩
  have hln := qlen_any q R.length c _ W hq.box
  have hsw := qswap_any q g D B c R W hq 0 m r0 y hx hy
  rw [show ((m : Nat) : Int) = (R.length : Int) - 1 by omega, show ((0 : Nat) : Int) = 0 from rfl] at hsw
  have hcut : HeapF (gR ((R.set 0 y).set m r0)) m 1 := by
    rw [gR_swap hx hy]
    have h1 := heap_cut (R := R.map RsT.s) (m := m) (by rw [List.length_map, hl]) (by rw [hl] at hh; exact hh)
    rw [swapL_at (by rw [List.length_map]; omega) (by rw [List.length_map]; omega)] at h1
    exact h1
  have hrl : (0 : Int) < (R.length : Int) := by omega
  have hrm : (R.length : Int) ≤ 1048576 := by omega
  have hd1 : ((R.set 0 y).set m r0).drop m = [r0] := by
    have h1 : ((R.set 0 y).set m r0)[m]? = some r0 := by rw [List.getElem?_set_self (by rw [List.length_set]; omega)]
    rw [dropN h1, List.drop_eq_nil_of_le (by rw [List.length_set, List.length_set]; omega)]
  have hp1 := set2_perm hx hy
  have HLN := Lib.hid hl
  have HR := Lib.hid hR
  have HM := Lib.hid hm
  have HD1 := Lib.hid hd1
  have HP1 := Lib.hid hp1
  have HC := Lib.hid hcut
  have HB := Lib.hid hB
  have HSW := Lib.hid hsw
  clear hq hh hx hy hm hl hR hd1 hp1 hcut hsw hB
  go_enter Try.func53, Try.ntmps53
  go_wp2_with fail
  refine hln.mono ?_
  rintro e W1 ⟨rfl, rfl⟩
  clear hln
  go_wp2_with fail
  refine HSW.out.mono ?_
  rintro e W2 ⟨rfl, hg2, hq2⟩
  have hT2 : Tu q g W W2 := Tu.of_g hg2
  have hdn := down_any q g D B c m 0 _ W2 hq2 (Nat.le_trans HB.out hT2.size) (by rw [List.length_set, List.length_set, HLN.out]; omega) (by have := HLN.out; omega) (by omega) HC.out
  rw [show ((m : Nat) : Int) = (R.length : Int) - 1 by have := HLN.out; omega, show ((0 : Nat) : Int) = 0 from rfl] at hdn
  have HT2 := Lib.hid hT2
  clear hg2 hq2 hT2
  go_wp2_with fail
  refine hdn.mono ?_
  rintro e W3 ⟨z, R2, rfl, hT3, hq3, hp3, hd3, hh3⟩
  have hl2 : R2.length = m + 1 := by rw [hp3.length_eq, List.length_set, List.length_set, HLN.out]
  have e2 : R2 = R2.take m ++ [r0] := by
    conv => lhs; rw [← List.take_append_drop m R2]
    rw [hd3, HD1.out]
  obtain ⟨R3, hR3⟩ : ∃ R3, R2.take m = R3 := ⟨_, rfl⟩
  have hl3 : R3.length = m := by rw [← hR3, List.length_take]; omega
  rw [hR3] at e2
  subst e2
  have hT4 := HT2.out.trans hT3
  have hpp := qpop_any q g D B c R3 r0 W3 hq3 (Nat.le_trans HB.out hT4.size)
  have hpm : R3.Perm R0 := by
    have h1 := hp3.trans HP1.out
    rw [← HR.out] at h1
    exact List.Perm.cons_inv (List.perm_append_comm.symm.trans h1 : ([r0] ++ R3).Perm (r0 :: R0))
  have hhp : HeapF (gR R3) R3.length 0 := by
    rw [hl3]
    refine heapF_eq hh3 (fun x hx => ?_)
    obtain ⟨a, ha⟩ : ∃ a, R3[x]? = some a := ⟨_, List.getElem?_eq_getElem (by omega)⟩
    rw [gR_of ha, gR_of (by rw [List.getElem?_append_left (by omega)]; exact ha)]
  have HT4 := Lib.hid hT4
  have HPM := Lib.hid hpm
  have HHP := Lib.hid hhp
  clear hdn hT3 hq3 hp3 hd3 hh3 hl2 hR3 hl3 hT4 hpm hhp
  go_wp2_with fail
  refine hpp.mono ?_
  rintro e W4 ⟨rfl, hT5, hq5⟩
  have HT5 := Lib.hid (HT4.out.trans hT5)
  have HQ5 := Lib.hid hq5
  clear hpp hT5 hq5
  go_wp2
  refine bodyPost_ret (v := .iface 75 (.agg #[.slice r0.r.A r0.r.n r0.r.c, .int .i64 r0.p])) (by simp [results, Try.results53, go_sem, *]) rfl ⟨⟨_, rfl⟩, HT5.out, R3, HQ5.out, HPM.out, HHP.out⟩
end Go.Proofs.Ytkbcgcokokddlaa
/-
  Layer 15: container/heap.up, Fix at the root, Init over the queue.
-/
namespace Go.Proofs.Ytkbcgcokokddlaa
open Go.RowKit
set_option linter.unusedVariables false
set_option linter.unusedSimpArgs false

set_option maxRecDepth 20000 in
set_option maxHeartbeats 1000000 in
theorem up_zero (q : Nat) (W : World) : Calls Try.prog 55 #[.iface 68 (.pointer (some ⟨q, 0, none⟩)), .int .i64 0] W (fun e W' => e = .returned (.tuple #[]) ∧ W = W') := by
  have d1 : (-1 : Int).tdiv 2 = 0 := by decide
  go_enter Try.func55, Try.ntmps55
  go_wp2_with fail
  go_loopw [1] (fun y wr => y = .int .i64 0 ∧ W = wr) (fun y _ => 0)
  case atStart => exact ⟨rfl, rfl⟩
  case round =>
    obtain ⟨rfl, rfl⟩ := hrel
    go_wp2
    go_end0
    exact ⟨rfl, rfl⟩
set_option maxRecDepth 20000 in
set_option maxHeartbeats 1000000 in
theorem fix_zero (q g D B c : Nat) (R : List RsT) (W : World) (hq : QMem W q D B (some ⟨g, 0, none⟩) c R) (hB : B ≤ W.heap.size) (hN : R.length ≤ 1048576) (hh : HeapF (gR R) R.length 1) :
    Calls Try.prog 54 #[.iface 68 (.pointer (some ⟨q, 0, none⟩)), .int .i64 0] W (fun e W' => e = .returned (.tuple #[]) ∧ HpP q g D B c R W W') := by
  have hln := qlen_any q R.length c _ W hq.box
  have hdn := down_any q g D B c R.length 0 R W hq hB (Nat.le_refl _) hN (by omega) hh
  rw [show ((0 : Nat) : Int) = 0 from rfl] at hdn
  have HDN := Lib.hid hdn
  clear hq hB hN hh hdn
  go_enter Try.func54, Try.ntmps54
  go_wp2_with fail
  refine hln.mono ?_
  rintro e W1 ⟨rfl, rfl⟩
  clear hln
  go_wp2_with fail
  refine HDN.out.mono ?_
  rintro e W2 ⟨z, R2, rfl, hT, hq2, hp2, hd2, hh2⟩
  have HH : Hid (HpP q g D B c R W W2) := Lib.hid ⟨hT, R2, hq2, hp2, by rw [hp2.length_eq]; exact hh2⟩
  clear hT hq2 hp2 hd2 hh2
  cases z
  · go_wp2_with fail
    refine (up_zero q W2).mono ?_
    rintro e W3 ⟨rfl, rfl⟩
    go_wp2
    go_end0
    exact ⟨rfl, HH.out⟩
  · go_wp2
    go_end0
    exact ⟨rfl, HH.out⟩
set_option maxRecDepth 20000 in
set_option maxHeartbeats 1000000 in
theorem init_any (q g D B c : Nat) (R : List RsT) (W : World) (hq : QMem W q D B (some ⟨g, 0, none⟩) c R) (hB : B ≤ W.heap.size) (hN : R.length ≤ 1048576) :
    Calls Try.prog 49 #[.iface 68 (.pointer (some ⟨q, 0, none⟩))] W (fun e W' => e = .returned (.tuple #[]) ∧ HpP q g D B c R W W') := by
  have hln := qlen_any q R.length c _ W hq.box
  have hst : HeapF (gR R) R.length (R.length / 2) := fun j h1 h2 h3 => absurd h2 (by omega)
  have d1 : (R.length : Int).tdiv 2 = ((R.length / 2 : Nat) : Int) := by rw [Int.tdiv_eq_ediv_of_nonneg (by omega)]; omega
  have d2 : (R.length : Int) / 2 = ((R.length / 2 : Nat) : Int) := by omega
  obtain ⟨h, hhf⟩ : ∃ h, R.length / 2 = h := ⟨_, rfl⟩
  obtain ⟨n, hn⟩ : ∃ n, R.length = n := ⟨_, rfl⟩
  have hbnd : h ≤ n := by omega
  rw [hhf] at hst d1 d2
  rw [hn] at hst d1 d2 hln hN
  have HQ0 := Lib.hid hq
  have HBs := Lib.hid hB
  have HN0 := Lib.hid hn
  have HST := Lib.hid hst
  clear hq hB hhf hn hst
  go_enter Try.func49, Try.ntmps49
  go_wp2_with fail
  refine hln.mono ?_
  rintro e W1 ⟨rfl, rfl⟩
  clear hln
  go_wp2_with fail
  go_loopw [3] (fun y wr => ∃ (k : Nat) (R1 : List RsT), y = .int .i64 ((k : Int) - 1) ∧ k ≤ n ∧ Hid (Tu q g W wr) ∧ Hid (QMem wr q D B (some ⟨g, 0, none⟩) c R1) ∧ Hid (R1.Perm R) ∧ Hid (HeapF (gR R1) n k)) (fun y _ => (intOf y + 1).toNat)
  case atStart => exact ⟨h, R, by first | rfl | go_num, hbnd, Lib.hid (Tu.refl _ _ _), HQ0, Lib.hid (List.Perm.refl _), HST⟩
  case round =>
    obtain ⟨k, R1, rfl, hk, HT, HQ, HP, HH⟩ := hrel
    clear HQ0 HST
    cases k with
    | zero =>
      go_wp2
      go_end0
      exact ⟨rfl, HT.out, R1, HQ.out, HP.out, by rw [HP.out.length_eq, HN0.out]; exact HH.out⟩
    | succ k =>
      rw [show ((k + 1 : Nat) : Int) - 1 = (k : Int) by omega]
      have hdn := down_any q g D B c n k R1 wr HQ.out (Nat.le_trans HBs.out HT.out.size) (by rw [HP.out.length_eq, HN0.out]; exact Nat.le_refl _) hN (by omega) HH.out
      have HDN := Lib.hid hdn
      clear hdn
      go_wp2_with fail
      refine HDN.out.mono ?_
      rintro e W2 ⟨z, R2, rfl, hT2, hq2, hp2, hd2, hh2⟩
      have HT2 := Lib.hid (HT.out.trans hT2)
      have HQ2 := Lib.hid hq2
      have HP2 := Lib.hid (hp2.trans HP.out)
      have HH2 := Lib.hid hh2
      clear hT2 hq2 hp2 hd2 hh2
      go_wp2_with fail
      go_roundw
      case rel => first | exact ⟨k, R2, by first | rfl | go_num, by omega, HT2, HQ2, HP2, HH2⟩ | exact ⟨_, ⟨k, R2, by first | rfl | go_num, by omega, HT2, HQ2, HP2, HH2⟩, rfl⟩
      case measure => simp [intOf]
end Go.Proofs.Ytkbcgcokokddlaa
/-
  Layer 15: the queue's next.
-/
namespace Go.Proofs.Ytkbcgcokokddlaa
open Go.RowKit
set_option linter.unusedVariables false
set_option linter.unusedSimpArgs false

/-- A row of edits behind its first. -/
theorem es_tail {W : World} {B : Nat} {X : EsT} {e : EdT} {t : List EdT} (h : X.Lie W B) (he : X.E = e :: t) (ht : t ≠ []) : ∃ b off, X.A = some ⟨b, off, none⟩ ∧ (⟨some ⟨b, off + 5, none⟩, X.n - 1, X.n - 1, t⟩ : EsT).Lie W B := by
  have hl := h.len
  have htl : 0 < t.length := List.length_pos_iff.2 ht
  rw [he, List.length_cons] at hl
  obtain ⟨b, off, x, hA, -⟩ := ed_at h.row (i := 0) (by omega)
  have hc := Shows.cut h.row (k := 1) (cap := X.n) (by omega) (Nat.le_refl _)
  rw [if_neg (by omega), hA, Option.map_some, addr_add, Nat.one_mul, he, List.flatMap_cons] at hc
  have hd : (e.cells ++ t.flatMap EdT.cells).drop 5 = t.flatMap EdT.cells := List.drop_left' rfl
  rw [hd] at hc
  have hf := h.fit
  have hm := h.most
  exact ⟨b, off, hA, hc, fun x hx => h.all x (by rw [he]; exact List.mem_cons_of_mem _ hx), nofun, Nat.le_refl _, by show X.n - 1 ≤ maxLen; omega⟩
theorem Tu.setNew {q g : Nat} {W W' : World} (h : Tu q g W W') {a : Addr} (ha : W.heap.size ≤ a.block) (u : Value) : Tu q g W (W'.setCell a u) := by
  have hb := (Below.refl W.heap.size W').setCell (p := a) ha u
  exact ⟨hb.os.trans h.os, hb.tape.trans h.tape, hb.output.trans h.output, Nat.le_trans h.size hb.size, fun k h1 h2 h3 => (hb.block k h1).trans (h.block k h1 h2 h3)⟩
theorem QMem.setNew {W : World} {q g D B c : Nat} {R : List RsT} (h : QMem W q D B (some ⟨g, 0, none⟩) c R) {k j : Nat} (hk : B ≤ k) (h1 : k ≠ q) (h2 : k ≠ g) (u : Value) : QMem (W.setCell ⟨k, j, none⟩ u) q D B (some ⟨g, 0, none⟩) c R := by
  have hb := (Below.refl 0 W).setCell (p := ⟨k, j, none⟩) (Nat.zero_le _) u
  have hg : W.grownBy (W.setCell ⟨k, j, none⟩ u) (some k) := ⟨hb.os, hb.tape, hb.output, hb.size, fun i _ hi => Below.heap_setCell W ⟨k, j, none⟩ u i (fun e => hi (by rw [e]))⟩
  exact ⟨blk_other h.box hg (fun e => h1 (Option.some.inj e).symm), h.row.kept hg (.inr (fun e => h2 (Option.some.inj e).symm)), fun x hx => (h.all x hx).later ((Below.refl B W).setCell (p := ⟨k, j, none⟩) hk u), h.lowq, h.lowD⟩
/-- The first row shorter by its first edit. -/
theorem QMem.cutHead {W : World} {q g D B c : Nat} {x y : RsT} {R : List RsT} (h : QMem W q D B (some ⟨g, 0, none⟩) c (x :: R)) (hp : y.p = x.p) (hy : y.Ok W B) : QMem (W.setCell ⟨g, 0, none⟩ (.slice y.r.A y.r.n y.r.c)) q D B (some ⟨g, 0, none⟩) c (y :: R) := by
  have hqg := h.q_ne
  obtain ⟨r1, hg⟩ := World.ownsRow.stored h.row 0 (.slice y.r.A y.r.n y.r.c)
  have hgB : B ≤ g := Nat.le_trans h.lowD (h.row.lt g rfl).1
  have hb := (Below.refl B W).setCell (p := ⟨g, 0, none⟩) hgB (.slice y.r.A y.r.n y.r.c)
  have e := set_flat2 RsT.cells 2 0 (fun _ => rfl) (by omega) (x :: R) 0 (by rw [List.length_cons]; omega) y (.slice y.r.A y.r.n y.r.c) (by
    show [_, _] = _
    rw [hp]
    rfl)
  rw [Nat.zero_mul, Nat.zero_add, List.set_cons_zero] at e
  rw [e] at r1
  refine ⟨blk_other h.box hg (fun e => hqg (Option.some.inj e)), r1, fun z hz => ?_, h.lowq, h.lowD⟩
  rcases List.mem_cons.1 hz with rfl | hz
  · exact hy.later hb
  · exact (h.all z (List.mem_cons_of_mem _ hz)).later hb
def NxtP (q g D B c : Nat) (e : EdT) (t : List EdT) (p : Nat) (R0 : List RsT) (W : World) (en : Ending) (W' : World) : Prop :=
  en = .returned e.agg ∧ Tu q g W W' ∧ ∃ R', QMem W' q D B (some ⟨g, 0, none⟩) c R' ∧ (R'.map RsT.s).Perm (lessR (t.map EdT.s) p (R0.map RsT.s)) ∧ HeapF (gR R') R'.length 0
end Go.Proofs.Ytkbcgcokokddlaa
/-
  Layer 15: the queue's next, walked.
-/
namespace Go.Proofs.Ytkbcgcokokddlaa
open Go.RowKit
set_option linter.unusedVariables false
set_option linter.unusedSimpArgs false

theorem five_blk {W : World} {g : Nat} {a b c d e : Value} {t : TypeId} (h : W.heap[g]? = some (.cells #[a, b, c, d, e] t (0, 0))) : (W.cell? ⟨g, 0, none⟩ = some a ∧ W.cell? ⟨g, 1, none⟩ = some b ∧ W.cell? ⟨g, 2, none⟩ = some c ∧ W.cell? ⟨g, 3, none⟩ = some d ∧ W.cell? ⟨g, 4, none⟩ = some e) ∧ W.frozen? ⟨g, 0, none⟩ = false ∧ W.frozen? ⟨g, 1, none⟩ = false ∧ W.frozen? ⟨g, 2, none⟩ = false ∧ W.frozen? ⟨g, 3, none⟩ = false ∧ W.frozen? ⟨g, 4, none⟩ = false := by
  have hc : ∀ k, W.cell? ⟨g, k, none⟩ = #[a, b, c, d, e][k]? := fun k => cell_of_row W g k #[a, b, c, d, e] t (0, 0) h
  have hf : ∀ k, W.frozen? ⟨g, k, none⟩ = false := fun k => frozen_of_row W g k #[a, b, c, d, e] t h
  exact ⟨⟨(hc 0).trans rfl, (hc 1).trans rfl, (hc 2).trans rfl, (hc 3).trans rfl, (hc 4).trans rfl⟩, hf 0, hf 1, hf 2, hf 3, hf 4⟩
theorem Tu.blk {q g : Nat} {W W' : World} {k : Nat} {o : Obj} (h : Tu q g W W') (hk : W.heap[k]? = some o) (h1 : k ≠ q) (h2 : k ≠ g) : W'.heap[k]? = some o := (h.block k (blk_lt hk) h1 h2).trans hk
def set5E (W : World) (k : Nat) (x : EdT) : World := ((((W.setCell ⟨k, 0, none⟩ (.slice x.k.A x.k.n x.k.c)).setCell ⟨k, 1, none⟩ (.bool x.put)).setCell ⟨k, 2, none⟩ (.slice x.v.A x.v.n x.v.c)).setCell ⟨k, 3, none⟩ (.bool x.b)).setCell ⟨k, 4, none⟩ (.int .i64 x.n)
theorem set5E_tu {q g : Nat} {W W' : World} (h : Tu q g W W') {k : Nat} (hk : W.heap.size ≤ k) (x : EdT) : Tu q g W (set5E W' k x) :=
  (((((h.setNew (a := ⟨k, 0, none⟩) hk _).setNew (a := ⟨k, 1, none⟩) hk _).setNew (a := ⟨k, 2, none⟩) hk _).setNew (a := ⟨k, 3, none⟩) hk _).setNew (a := ⟨k, 4, none⟩) hk _)
theorem set5E_q {W : World} {q g D B c : Nat} {R : List RsT} (h : QMem W q D B (some ⟨g, 0, none⟩) c R) {k : Nat} (hk : B ≤ k) (h1 : k ≠ q) (h2 : k ≠ g) (x : EdT) : QMem (set5E W k x) q D B (some ⟨g, 0, none⟩) c R :=
  ((((h.setNew hk h1 h2 _).setNew hk h1 h2 _).setNew hk h1 h2 _).setNew hk h1 h2 _).setNew hk h1 h2 _
set_option maxRecDepth 20000 in
set_option maxHeartbeats 1000000 in
theorem next_any (q g D B c : Nat) (r0 : RsT) (R0 : List RsT) (W : World) (hq : QMem W q D B (some ⟨g, 0, none⟩) c (r0 :: R0)) (hB : B ≤ W.heap.size) (hN : (r0 :: R0).length ≤ 1048576) (hh : HeapF (gR (r0 :: R0)) (r0 :: R0).length 0) (e : EdT) (t : List EdT) (he : r0.r.E = e :: t) :
    Calls Try.prog 51 #[.pointer (some ⟨q, 0, none⟩)] W (NxtP q g D B c e t r0.p R0 W) := by
  have hql : q < W.heap.size := (Array.getElem?_eq_some_iff.1 hq.box).1
  have hgl : g < W.heap.size := (hq.row.lt g rfl).2
  have hb1 := bel_alloc (Below.refl W.heap.size W) (.cells #[.slice none 0 0, .bool false, .slice none 0 0, .bool false, .int .i64 0] 49)
  have hX2 := heap_alloc_new W (.cells #[.slice none 0 0, .bool false, .slice none 0 0, .bool false, .int .i64 0] 49)
  have hq1 := hq.later hB hb1
  have hT1 : Tu q g W (W.alloc (.cells #[.slice none 0 0, .bool false, .slice none 0 0, .bool false, .int .i64 0] 49)) := Tu.of_below hb1
  have hB1 := Nat.le_trans hB hb1.size
  obtain ⟨h0, -⟩ := one_blk hq.box
  have hrl : (0 : Int) < ((r0 :: R0).length : Int) := by rw [List.length_cons]; omega
  obtain ⟨n1, hn1⟩ : ∃ n1, (r0 :: R0).length = n1 := ⟨_, rfl⟩
  rw [hn1] at h0 hrl
  have HG2 := Lib.hid (show W.heap.size ≠ q ∧ W.heap.size ≠ g ∧ B ≤ W.heap.size by omega)
  obtain ⟨k2, hk2⟩ : ∃ k2, W.heap.size = k2 := ⟨_, rfl⟩
  have HK2 := Lib.hid hk2
  have HH := Lib.hid hh
  have HN := Lib.hid hN
  have HN1 := Lib.hid hn1
  clear hh hN hq hn1
  go_enter Try.func51, Try.ntmps51
  go_upto_region 1 with fail
  rw [hk2] at hX2
  generalize W.alloc (.cells #[.slice none 0 0, .bool false, .slice none 0 0, .bool false, .int .i64 0] 49) = W1 at *
  clear h0 hk2 hb1
  obtain ⟨h0, -⟩ := one_blk hq1.box
  rw [HN1.out] at h0
  obtain ⟨x0, -⟩ := rs_at (i := 0) (x := r0) hq1.row rfl
  rw [Nat.zero_mul] at x0
  have f0 := hq1.row.frozenAt 0
  have hok := hq1.all r0 List.mem_cons_self
  have hlen := hok.lie.len
  rw [he, List.length_cons] at hlen
  obtain ⟨b, off, e', hA, hbB, he', c0, c1, c2, c3, c4⟩ := ed_at hok.lie.row (i := 0) (by omega)
  obtain rfl : e = e' := by rw [he] at he'; exact Option.some.inj he'
  rw [Nat.zero_mul, Nat.add_zero] at c0 c1 c2 c3 c4
  have hrn : (0 : Int) < (r0.r.n : Int) := by omega
  have hql1 : q < W1.heap.size := (Array.getElem?_eq_some_iff.1 hq1.box).1
  have hgl1 : g < W1.heap.size := (hq1.row.lt g rfl).2
  have hbl1 : b < W1.heap.size := by omega
  have hqn : q ≠ W1.heap.size := by omega
  have hgn : g ≠ W1.heap.size := by omega
  have hbn : b ≠ W1.heap.size := by omega
  have hA0 := hA
  rw [hA] at x0
  have HQ1 := Lib.hid hq1
  have HT1 := Lib.hid hT1
  have HB1 := Lib.hid hB1
  have HX2 := Lib.hid hX2
  have HE := Lib.hid he
  have HA := Lib.hid hA0
  have HOK := Lib.hid hok
  clear hq1 hT1 hB1 hX2 he hA hA0 hok he' hbB
  go_upto_region 2 with fail
  go_region
  obtain ⟨W3, hW3⟩ : ∃ W3, (W1.alloc (.cells #[.slice e.k.A e.k.n e.k.c, .bool e.put, .slice e.v.A e.v.n e.v.c, .bool e.b, .int .i64 e.n] 49)).drew = W3 := ⟨_, rfl⟩
  have hb3 : Below W1.heap.size W1 W3 := by rw [← hW3]; exact (bel_alloc (Below.refl _ _) _).drew
  have hX4 : W3.heap[W1.heap.size]? = some (.cells #[.slice e.k.A e.k.n e.k.c, .bool e.put, .slice e.v.A e.v.n e.v.c, .bool e.b, .int .i64 e.n] 49 (0, 0)) := by rw [← hW3]; exact heap_alloc_new W1 _
  have hq3 := HQ1.out.later HB1.out hb3
  have hT3 := HT1.out.trans (Tu.of_below (q := q) (g := g) hb3)
  have hX23 := blk_later HX2.out hb3
  have hB3 := Nat.le_trans HB1.out hb3.size
  rw [hW3]
  obtain ⟨k4, hk4⟩ : ∃ k, W1.heap.size = k := ⟨_, rfl⟩
  rw [hk4] at hX4 hqn hgn hbn ⊢
  have HK4 := Lib.hid (show k4 ≠ q ∧ k4 ≠ g by omega)
  have HKK := Lib.hid (show k2 ≠ q ∧ k2 ≠ g ∧ B ≤ k2 ∧ W.heap.size ≤ k2 by have h1 := HK2.out; have h2 := HG2.out; omega)
  have HT3 := Lib.hid hT3
  have HX23 := Lib.hid hX23
  have HX4 := Lib.hid hX4
  have HLEN := Lib.hid hlen
  clear hW3 hb3 hk4 hqn hgn hbn hql hgl hql1 hgl1 hbl1 c0 c1 c2 c3 c4 h0 x0 f0 hT3 hX23 hX4 hlen hB
  by_cases ht : t = []
  · have hn1 : ((r0.r.n : Int) == (1 : Int)) = true := by have h := HLEN.out; rw [ht] at h; simp at h; simp; omega
    have hcp := hpop_any q g D B c r0 R0 W3 hq3 hB3 HN.out HH.out
    have HTN := Lib.hid ht
    clear hq3 ht
    go_wp2_with fail
    refine hcp.mono ?_
    rintro e5 W5 ⟨⟨v, rfl⟩, hT5, R', hq5, hp5, hh5⟩
    obtain ⟨⟨a0, a1, a2, a3, a4⟩, fa0, fa1, fa2, fa3, fa4⟩ := five_blk (hT5.blk HX23.out HKK.out.1 HKK.out.2.1)
    obtain ⟨⟨d0, d1, d2, d3, d4⟩, -⟩ := five_blk (hT5.blk HX4.out HK4.out.1 HK4.out.2)
    have hts := set5E_tu (HT3.out.trans hT5) HKK.out.2.2.2 e
    have hqs := set5E_q hq5 HKK.out.2.2.1 HKK.out.1 HKK.out.2.1 e
    have HPR : Hid ((R'.map RsT.s).Perm (lessR (t.map EdT.s) r0.p (R0.map RsT.s))) := Lib.hid (by rw [HTN.out]; exact hp5.map RsT.s)
    have HH5 := Lib.hid hh5
    unfold set5E at hts hqs
    have HTS := Lib.hid hts
    have HQS := Lib.hid hqs
    clear hcp hT5 hq5 hp5 hh5 hts hqs
    go_wp2
    refine bodyPost_ret (v := .agg #[.slice e.k.A e.k.n e.k.c, .bool e.put, .slice e.v.A e.v.n e.v.c, .bool e.b, .int .i64 e.n]) ?_ rfl ⟨rfl, HTS.out, R', HQS.out, HPR.out, HH5.out⟩
    simp [results, Try.results51, go_sem, *]
  · have hok3 := hq3.all r0 List.mem_cons_self
    obtain ⟨b', off', hA', hlt⟩ := es_tail hok3.lie HE.out ht
    have hAA := hA'.symm.trans HA.out
    injection hAA with hAA
    injection hAA with ea eb
    subst ea eb
    have htl : 0 < t.length := List.length_pos_iff.2 ht
    have hn1 : ((r0.r.n : Int) == (1 : Int)) = false := by have h := HLEN.out; simp; omega
    have hyok : (⟨⟨some ⟨b', off' + 5, none⟩, r0.r.n - 1, r0.r.n - 1, t⟩, r0.p⟩ : RsT).Ok W3 B := ⟨hlt, ht, hok3.num⟩
    have hq4 := hq3.cutHead (y := ⟨⟨some ⟨b', off' + 5, none⟩, r0.r.n - 1, r0.r.n - 1, t⟩, r0.p⟩) rfl hyok
    have hT4 : Tu q g W (W3.setCell ⟨g, 0, none⟩ (.slice (some ⟨b', off' + 5, none⟩) (r0.r.n - 1) (r0.r.n - 1))) := HT3.out.trans (Tu.of_g (World.ownsRow.stored hq3.row 0 _).2)
    obtain ⟨x0, -⟩ := rs_at (i := 0) (x := r0) hq3.row rfl
    rw [Nat.zero_mul, HA.out] at x0
    have f0 := hq3.row.frozenAt 0
    have hfit := hok3.lie.fit
    have i1 : (1 : Int) ≤ (r0.r.n : Int) := by have h := HLEN.out; omega
    have i2 : (r0.r.n : Int) ≤ (r0.r.c : Int) := by omega
    have i3 : r0.r.n ≠ 1 := by have h := HLEN.out; omega
    have i4 : (1 : Int) ≤ (r0.r.c : Int) := by omega
    have hm := hok3.lie.most
    have hc63 : r0.r.c ≤ 9223372036854775807 := by unfold maxLen at hm; exact hm
    have hf : HeapF (gR (⟨⟨some ⟨b', off' + 5, none⟩, r0.r.n - 1, r0.r.n - 1, t⟩, r0.p⟩ :: R0)) ((⟨⟨some ⟨b', off' + 5, none⟩, r0.r.n - 1, r0.r.n - 1, t⟩, r0.p⟩ : RsT) :: R0).length 1 := by
      have h1 := HH.out
      rw [List.length_cons] at h1
      have h2 := heap_turn (r := r0.s) (r' := RsT.s ⟨⟨some ⟨b', off' + 5, none⟩, r0.r.n - 1, r0.r.n - 1, t⟩, r0.p⟩) (R := R0.map RsT.s) (by rw [List.length_cons, List.length_map]; exact h1)
      rw [List.length_cons, List.length_map] at h2
      rw [List.length_cons]
      exact h2
    have hfx := fix_zero q g D B c _ _ hq4 (Nat.le_trans HG2.out.2.2 hT4.size) (by have := HN.out; rw [List.length_cons] at this ⊢; exact this) hf
    have HFX := Lib.hid hfx
    have HT4 := Lib.hid hT4
    have HX44 := Lib.hid (Tu.blk (q := q) (g := g) (Tu.of_g (World.ownsRow.stored hq3.row 0 (.slice (some ⟨b', off' + 5, none⟩) (r0.r.n - 1) (r0.r.n - 1))).2) HX4.out HK4.out.1 HK4.out.2)
    have HX24 := Lib.hid (Tu.blk (q := q) (g := g) (Tu.of_g (World.ownsRow.stored hq3.row 0 (.slice (some ⟨b', off' + 5, none⟩) (r0.r.n - 1) (r0.r.n - 1))).2) HX23.out HKK.out.1 HKK.out.2.1)
    have HTN := Lib.hid ht
    clear hfx hT4 hq4 hf hq3 hok3 hlt hyok hA' hm ht htl hB3
    go_wp2_with fail
    refine HFX.out.mono ?_
    rintro e5 W5 ⟨rfl, hT5, R', hq5, hp5, hh5⟩
    obtain ⟨⟨a0, a1, a2, a3, a4⟩, fa0, fa1, fa2, fa3, fa4⟩ := five_blk (hT5.blk HX24.out HKK.out.1 HKK.out.2.1)
    obtain ⟨⟨d0, d1, d2, d3, d4⟩, -⟩ := five_blk (hT5.blk HX44.out HK4.out.1 HK4.out.2)
    have hts := set5E_tu (HT4.out.trans hT5) HKK.out.2.2.2 e
    have hqs := set5E_q hq5 HKK.out.2.2.1 HKK.out.1 HKK.out.2.1 e
    have HPR : Hid ((R'.map RsT.s).Perm (lessR (t.map EdT.s) r0.p (R0.map RsT.s))) := Lib.hid (by
      have h1 := hp5.map RsT.s
      unfold lessR
      rw [if_neg (fun h => HTN.out (List.map_eq_nil_iff.1 h))]
      exact h1)
    have HH5 := Lib.hid hh5
    unfold set5E at hts hqs
    have HTS := Lib.hid hts
    have HQS := Lib.hid hqs
    clear hT5 hq5 hp5 hh5 hts hqs x0 f0 HFX
    go_wp2
    refine bodyPost_ret (v := .agg #[.slice e.k.A e.k.n e.k.c, .bool e.put, .slice e.v.A e.v.n e.v.c, .bool e.b, .int .i64 e.n]) ?_ rfl ⟨rfl, HTS.out, R', HQS.out, HPR.out, HH5.out⟩
    simp [results, Try.results51, go_sem, *]
end Go.Proofs.Ytkbcgcokokddlaa
/-
  Layer 15, plain: items behind edits, the reference's way and the program's; groups of rows. No program in sight.
-/
namespace Go.Proofs.Ytkbcgcokokddlaa
set_option linter.unusedVariables false

/-- What an item says. -/
structure ItS where
  k : List UInt8
  v : List UInt8
  b : Bool
  n : Int
def itemE (x : EdS) : ItS := ⟨x.k, x.v, x.b, x.n⟩
def LtI (x y : ItS) : Prop := cmpL x.k y.k < 0
theorem LtI.ne {x y : ItS} (h : LtI x y) : x.k ≠ y.k := fun e => by
  unfold LtI at h
  rw [e, cmpL_self] at h
  omega
theorem LtI.trans {x y z : ItS} (h : LtI x y) (h' : LtI y z) : LtI x z := cmpL_trans _ _ _ h h'
theorem LtI.turn {x y : ItS} (h : LtI x y) : ¬ LtI y x := fun h' => (h.trans h').ne rfl
def IncI (l : List ItS) : Prop := l.Pairwise LtI
theorem incI_key {l : List ItS} (h : IncI l) {x y : ItS} (hx : x ∈ l) (hy : y ∈ l) (e : x.k = y.k) : x = y := by
  induction l with
  | nil => cases hx
  | cons a l ih =>
    obtain ⟨h1, h2⟩ := List.pairwise_cons.1 h
    rcases List.mem_cons.1 hx with ex | hx'
    · rcases List.mem_cons.1 hy with ey | hy'
      · rw [ex, ey]
      · exact absurd (ex ▸ e) (h1 y hy').ne
    · rcases List.mem_cons.1 hy with ey | hy'
      · exact absurd (ey ▸ e.symm) (h1 x hx').ne
      · exact ih h2 hx' hy'
theorem incI_unique {l m : List ItS} (hl : IncI l) (hm : IncI m) (h : ∀ x, x ∈ l ↔ x ∈ m) : l = m := by
  induction l generalizing m with
  | nil =>
    cases m with
    | nil => rfl
    | cons b m => exact absurd ((h b).2 List.mem_cons_self) (by simp)
  | cons a l ih =>
    cases m with
    | nil => exact absurd ((h a).1 List.mem_cons_self) (by simp)
    | cons b m =>
      obtain ⟨a1, a2⟩ := List.pairwise_cons.1 hl
      obtain ⟨b1, b2⟩ := List.pairwise_cons.1 hm
      have e : a = b := by
        rcases List.mem_cons.1 ((h a).1 List.mem_cons_self) with e | ha
        · exact e
        · rcases List.mem_cons.1 ((h b).2 List.mem_cons_self) with e | hb
          · exact e.symm
          · exact absurd (a1 b hb) (b1 a ha).turn
      subst e
      rw [ih a2 b2 (fun x => ⟨fun hx => ?_, fun hx => ?_⟩)]
      · rcases List.mem_cons.1 ((h x).1 (List.mem_cons_of_mem _ hx)) with rfl | h'
        · exact absurd rfl (a1 _ hx).ne
        · exact h'
      · rcases List.mem_cons.1 ((h x).2 (List.mem_cons_of_mem _ hx)) with rfl | h'
        · exact absurd rfl (b1 _ hx).ne
        · exact h'
/-- Without those of a key. -/
def filtI (l : List ItS) (k : List UInt8) : List ItS := l.filter (fun z => decide (z.k ≠ k))
theorem filtI_nil (k : List UInt8) : filtI [] k = [] := rfl
theorem filtI_cons (y : ItS) (l : List ItS) (k : List UInt8) : filtI (y :: l) k = if y.k = k then filtI l k else y :: filtI l k := by
  unfold filtI
  rw [List.filter_cons]
  by_cases h : y.k = k <;> simp [h]
/-- An edit's item in its place, none other of its key. -/
def goI : List ItS → EdS → List ItS
  | [], e => [itemE e]
  | y :: l, e => if cmpL y.k e.k < 0 then y :: goI l e else itemE e :: filtI (y :: l) e.k
theorem goI_nil (e : EdS) : goI [] e = [itemE e] := rfl
theorem goI_cons (y : ItS) (l : List ItS) (e : EdS) : goI (y :: l) e = if cmpL y.k e.k < 0 then y :: goI l e else itemE e :: filtI (y :: l) e.k := rfl
/-- The reference's one step. -/
def restI (p : Bool) (l : List ItS) (e : EdS) : List ItS := if p then goI l e else filtI l e.k
def stepI (l : List ItS) (e : EdS) : List ItS := restI e.put l e
/-- The reference's Done. -/
def doneR (l : List ItS) (es : List EdS) : List ItS := es.foldl stepI l
theorem mem_filtI (l : List ItS) (k : List UInt8) (z : ItS) : z ∈ filtI l k ↔ z ∈ l ∧ z.k ≠ k := by
  unfold filtI
  rw [List.mem_filter, decide_eq_true_iff]
theorem mem_goI (l : List ItS) (e : EdS) (z : ItS) : z ∈ goI l e ↔ z = itemE e ∨ (z ∈ l ∧ z.k ≠ e.k) := by
  induction l with
  | nil => simp [goI]
  | cons y l ih =>
    rw [goI_cons]
    split
    · rename_i h
      have hne : y.k ≠ e.k := fun e' => by rw [e', cmpL_self] at h; omega
      rw [List.mem_cons, ih, List.mem_cons]
      constructor
      · rintro (rfl | rfl | ⟨h1, h2⟩)
        · exact .inr ⟨.inl rfl, hne⟩
        · exact .inl rfl
        · exact .inr ⟨.inr h1, h2⟩
      · rintro (rfl | ⟨rfl | h1, h2⟩)
        · exact .inr (.inl rfl)
        · exact .inl rfl
        · exact .inr (.inr ⟨h1, h2⟩)
    · rw [List.mem_cons, mem_filtI]
theorem mem_stepI (l : List ItS) (e : EdS) (z : ItS) : z ∈ stepI l e ↔ (e.put = true ∧ z = itemE e) ∨ (z ∈ l ∧ z.k ≠ e.k) := by
  unfold stepI restI
  split
  · rename_i h
    rw [mem_goI]
    simp [h]
  · rename_i h
    rw [mem_filtI]
    simp [h]
theorem incI_goI {l : List ItS} (h : IncI l) (e : EdS) : IncI (goI l e) := by
  induction l with
  | nil => exact List.pairwise_cons.2 ⟨fun _ h => (by cases h), .nil⟩
  | cons y l ih =>
    obtain ⟨h1, h2⟩ := List.pairwise_cons.1 h
    rw [goI_cons]
    split
    · rename_i hlt
      refine List.pairwise_cons.2 ⟨fun z hz => ?_, ih h2⟩
      rcases (mem_goI l e z).1 hz with rfl | ⟨h', -⟩
      · exact hlt
      · exact h1 z h'
    · rename_i hlt
      refine List.pairwise_cons.2 ⟨fun z hz => ?_, List.Pairwise.filter _ h⟩
      obtain ⟨hz, hne⟩ := (mem_filtI _ _ z).1 hz
      have hy : y.k = e.k ∨ cmpL e.k y.k < 0 := by
        rcases cmpL_ends y.k e.k with h' | h' | h'
        · exact absurd (by omega) hlt
        · exact .inl (cmpL_zero _ _ h')
        · exact .inr (by rw [cmpL_turn]; omega)
      show cmpL e.k z.k < 0
      rcases List.mem_cons.1 hz with rfl | hz
      · exact hy.resolve_left hne
      · rcases hy with e' | h'
        · have := h1 z hz
          unfold LtI at this
          rw [← e']
          exact this
        · exact cmpL_trans _ _ _ h' (h1 z hz)
theorem incI_stepI {l : List ItS} (h : IncI l) (e : EdS) : IncI (stepI l e) := by
  unfold stepI restI
  split
  · exact incI_goI h e
  · exact List.Pairwise.filter _ h
theorem incI_doneR (es : List EdS) : ∀ l, IncI l → IncI (doneR l es) := by
  induction es with
  | nil => exact fun l h => h
  | cons e es ih => exact fun l h => ih _ (incI_stepI h e)
theorem mem_doneR (es : List EdS) : ∀ (l : List ItS) (z : ItS), z ∈ doneR l es ↔ (∃ x, LastE es x ∧ x.put = true ∧ z = itemE x) ∨ (z ∈ l ∧ ∀ w ∈ es, w.k ≠ z.k) := by
  induction es with
  | nil =>
    intro l z
    show z ∈ l ↔ _
    simp [LastE]
  | cons e es ih =>
    intro l z
    show z ∈ doneR (stepI l e) es ↔ _
    rw [ih, mem_stepI]
    constructor
    · rintro (⟨x, h1, h2, h3⟩ | ⟨⟨h1, rfl⟩ | ⟨h1, h2⟩, h3⟩)
      · exact .inl ⟨x, .inr h1, h2, h3⟩
      · exact .inl ⟨e, .inl ⟨rfl, h3⟩, h1, rfl⟩
      · refine .inr ⟨h1, fun w hw => ?_⟩
        rcases List.mem_cons.1 hw with rfl | hw
        · exact fun e => h2 e.symm
        · exact h3 w hw
    · rintro (⟨x, ⟨rfl, h⟩ | h, h2, h3⟩ | ⟨h1, h2⟩)
      · refine .inr ⟨.inl ⟨h2, h3⟩, fun w hw => ?_⟩
        rw [h3]
        exact h w hw
      · exact .inl ⟨x, h, h2, h3⟩
      · exact .inr ⟨.inr ⟨h1, fun e' => h2 e List.mem_cons_self e'.symm⟩, fun w hw => h2 w (List.mem_cons_of_mem _ hw)⟩
theorem keys_sortE (es : List EdS) (k : List UInt8) : (∃ w ∈ sortE es, w.k = k) ↔ ∃ w ∈ es, w.k = k := by
  constructor
  · rintro ⟨w, hw, e⟩
    exact ⟨w, lastE_mem ((mem_sortE _ _).1 hw), e⟩
  · rintro ⟨w, hw, e⟩
    have : ∀ l : List EdS, w ∈ l → ∃ x, LastE l x ∧ x.k = w.k := by
      intro l
      induction l with
      | nil => intro h; cases h
      | cons y l ih =>
        intro h
        by_cases hl : ∃ u ∈ l, u.k = w.k
        · obtain ⟨u, hu, hk⟩ := hl
          have ih' : ∀ l : List EdS, ∀ u ∈ l, ∃ x, LastE l x ∧ x.k = u.k := by
            intro l
            induction l with
            | nil => intro u h; cases h
            | cons a l ih =>
              intro u hu
              by_cases hl : ∃ v ∈ l, v.k = u.k
              · obtain ⟨v, hv, hk⟩ := hl
                obtain ⟨x, h1, h2⟩ := ih v hv
                exact ⟨x, .inr h1, h2.trans hk⟩
              · rcases List.mem_cons.1 hu with rfl | hu
                · exact ⟨u, .inl ⟨rfl, fun v hv e => hl ⟨v, hv, e⟩⟩, rfl⟩
                · exact absurd ⟨u, hu, rfl⟩ hl
          obtain ⟨x, h1, h2⟩ := ih' l u hu
          exact ⟨x, .inr h1, h2.trans hk⟩
        · rcases List.mem_cons.1 h with rfl | h
          · exact ⟨w, .inl ⟨rfl, fun v hv e => hl ⟨v, hv, e⟩⟩, rfl⟩
          · exact absurd ⟨w, h, rfl⟩ hl
    obtain ⟨x, h1, h2⟩ := this es hw
    exact ⟨x, (mem_sortE _ _).2 h1, h2.trans e⟩
theorem doneR_sortE {l : List ItS} (hl : IncI l) (es : List EdS) : doneR l (sortE es) = doneR l es := by
  refine incI_unique (incI_doneR _ _ hl) (incI_doneR _ _ hl) (fun z => ?_)
  rw [mem_doneR, mem_doneR]
  refine or_congr (exists_congr fun x => and_congr ?_ Iff.rfl) (and_congr Iff.rfl ⟨fun h w hw e => ?_, fun h w hw e => ?_⟩)
  · rw [lastE_inc (inc_sortE es), mem_sortE]
  · obtain ⟨u, hu, e'⟩ := (keys_sortE es z.k).2 ⟨w, hw, e⟩
    exact h u hu e'
  · obtain ⟨u, hu, e'⟩ := (keys_sortE es z.k).1 ⟨w, hw, e⟩
    exact h u hu e'
theorem doneR_append (l : List ItS) (a b : List EdS) : doneR l (a ++ b) = doneR (doneR l a) b := by
  unfold doneR
  rw [List.foldl_append]
/-- What a row of edits says of one key. -/
theorem doneR_key {l : List ItS} {es : List EdS} (hes : Inc es) {y : EdS} (hy : y ∈ es) (z : ItS) (hz : z ∈ doneR l es) (e : z.k = y.k) : y.put = true ∧ z = itemE y := by
  rcases (mem_doneR es l z).1 hz with ⟨x, h1, h2, h3⟩ | ⟨-, h⟩
  · have hx := lastE_mem h1
    have : x = y := inc_key hes hx hy (by rw [← e, h3]; rfl)
    rw [← this]
    exact ⟨h2, h3⟩
  · exact absurd e.symm (h y hy)
theorem doneR_put {l : List ItS} {es : List EdS} (hes : Inc es) {y : EdS} (hy : y ∈ es) (hp : y.put = true) : itemE y ∈ doneR l es :=
  (mem_doneR es l _).2 (.inl ⟨y, (lastE_inc hes y).2 hy, hp, rfl⟩)
/-- The program's Done: what stands ahead of an edit's key, the edit's item, and on behind the key. -/
def cutI : List ItS → List UInt8 → List ItS
  | [], _ => []
  | y :: l, k => if y.k = k then l else y :: l
def aheadI (l : List ItS) (k : List UInt8) : List ItS := l.takeWhile (fun z => decide (cmpL z.k k < 0))
def behindI (l : List ItS) (k : List UInt8) : List ItS := l.dropWhile (fun z => decide (cmpL z.k k < 0))
def putI (e : EdS) : List ItS := if e.put then [itemE e] else []
def doneP : List ItS → List EdS → List ItS
  | l, [] => l
  | l, e :: es => aheadI l e.k ++ (putI e ++ doneP (cutI (behindI l e.k) e.k) es)
theorem doneP_nil (l : List ItS) : doneP l [] = l := by unfold doneP; rfl
theorem doneP_cons (l : List ItS) (e : EdS) (es : List EdS) : doneP l (e :: es) = aheadI l e.k ++ (putI e ++ doneP (cutI (behindI l e.k) e.k) es) := by rw [doneP]
theorem cutI_cons (y : ItS) (l : List ItS) (k : List UInt8) : cutI (y :: l) k = if y.k = k then l else y :: l := rfl
theorem filtI_over {l : List ItS} {k : List UInt8} (h : ∀ z ∈ l, cmpL k z.k < 0) : filtI l k = l := by
  unfold filtI
  rw [List.filter_eq_self]
  intro z hz
  rw [decide_eq_true_iff]
  intro e
  have := h z hz
  rw [e, cmpL_self] at this
  omega
theorem filtI_cut {l : List ItS} (hl : IncI l) {k : List UInt8} (h : ∀ y, l.head? = some y → ¬ cmpL y.k k < 0) : filtI l k = cutI l k := by
  cases l with
  | nil => rfl
  | cons y l =>
    obtain ⟨h1, h2⟩ := List.pairwise_cons.1 hl
    have hy := h y rfl
    rw [filtI_cons, cutI_cons]
    by_cases e : y.k = k
    · rw [if_pos e, if_pos e]
      exact filtI_over (fun z hz => by rw [← e]; exact h1 z hz)
    · rw [if_neg e, if_neg e]
      have hky : cmpL k y.k < 0 := by
        rcases cmpL_ends y.k k with h' | h' | h'
        · exact absurd (by omega) hy
        · exact absurd (cmpL_zero _ _ h') e
        · rw [cmpL_turn]; omega
      rw [filtI_over (fun z hz => cmpL_trans _ _ _ hky (h1 z hz))]
theorem stepI_parts {l : List ItS} (hl : IncI l) (e : EdS) : stepI l e = aheadI l e.k ++ (putI e ++ cutI (behindI l e.k) e.k) := by
  induction l with
  | nil =>
    unfold stepI restI putI
    split <;> rfl
  | cons y l ih =>
    obtain ⟨h1, h2⟩ := List.pairwise_cons.1 hl
    have ih := ih h2
    by_cases h : cmpL y.k e.k < 0
    · have hne : y.k ≠ e.k := fun e' => by rw [e', cmpL_self] at h; omega
      have ha : aheadI (y :: l) e.k = y :: aheadI l e.k := by unfold aheadI; rw [List.takeWhile_cons, if_pos (decide_eq_true h)]
      have hb : behindI (y :: l) e.k = behindI l e.k := by unfold behindI; rw [List.dropWhile_cons, if_pos (decide_eq_true h)]
      rw [ha, hb, List.cons_append, ← ih]
      unfold stepI restI
      split
      · rw [goI_cons, if_pos h]
      · rw [filtI_cons, if_neg hne]
    · have ha : aheadI (y :: l) e.k = [] := by unfold aheadI; rw [List.takeWhile_cons, if_neg (by simpa using h)]
      have hb : behindI (y :: l) e.k = y :: l := by unfold behindI; rw [List.dropWhile_cons, if_neg (by simpa using h)]
      rw [ha, hb, List.nil_append, ← filtI_cut hl (fun z hz => by cases hz; exact h)]
      unfold stepI restI putI
      split
      · rw [goI_cons, if_neg h]
        rfl
      · rfl
theorem incI_cut {l : List ItS} (hl : IncI l) (k : List UInt8) : IncI (cutI (behindI l k) k) := by
  have h1 : IncI (behindI l k) := List.Pairwise.sublist (List.dropWhile_sublist _) hl
  cases hb : behindI l k with
  | nil => exact .nil
  | cons y r =>
    rw [hb] at h1
    rw [cutI_cons]
    split
    · exact (List.pairwise_cons.1 h1).2
    · exact h1
theorem stepI_front {a b : List ItS} {e : EdS} (h : ∀ x ∈ a, cmpL x.k e.k < 0) : stepI (a ++ b) e = a ++ stepI b e := by
  induction a with
  | nil => rfl
  | cons y a ih =>
    have hy := h y List.mem_cons_self
    have hne : y.k ≠ e.k := fun e' => by rw [e', cmpL_self] at hy; omega
    have ih := ih (fun x hx => h x (List.mem_cons_of_mem _ hx))
    rw [List.cons_append, List.cons_append, ← ih]
    unfold stepI restI
    split
    · rw [goI_cons, if_pos hy]
    · rw [filtI_cons, if_neg hne]
theorem doneR_front {es : List EdS} : ∀ {a b : List ItS}, (∀ x ∈ a, ∀ w ∈ es, cmpL x.k w.k < 0) → doneR (a ++ b) es = a ++ doneR b es := by
  induction es with
  | nil => intro a b _; rfl
  | cons e es ih =>
    intro a b h
    show doneR (stepI (a ++ b) e) es = a ++ doneR (stepI b e) es
    rw [stepI_front (fun x hx => h x hx e List.mem_cons_self)]
    exact ih (fun x hx w hw => h x hx w (List.mem_cons_of_mem _ hw))
theorem doneP_eq {es : List EdS} (he : Inc es) : ∀ {l : List ItS}, IncI l → doneP l es = doneR l es := by
  induction es with
  | nil => intro l _; exact doneP_nil l
  | cons e es ih =>
    intro l hl
    obtain ⟨e1, e2⟩ := List.pairwise_cons.1 he
    rw [doneP_cons, ih e2 (incI_cut hl e.k)]
    show _ = doneR (stepI l e) es
    rw [stepI_parts hl, ← List.append_assoc, ← List.append_assoc]
    refine (doneR_front (fun x hx w hw => ?_)).symm
    rcases List.mem_append.1 hx with hx | hx
    · have hx' : cmpL x.k e.k < 0 := of_decide_eq_true (List.all_eq_true.1 (List.all_takeWhile (l := l) (p := fun z : ItS => decide (cmpL z.k e.k < 0))) x hx)
      exact cmpL_trans _ _ _ hx' (e1 w hw)
    · unfold putI at hx
      split at hx
      · rw [List.mem_singleton.1 hx]
        exact e1 w hw
      · cases hx
/-- Groups: a part that was sorted by itself. -/
theorem lastE_mid (a b c : List EdS) (z : EdS) : LastE (a ++ (sortE b ++ c)) z ↔ LastE (a ++ (b ++ c)) z := by
  have hk : (∀ w ∈ sortE b ++ c, w.k ≠ z.k) ↔ ∀ w ∈ b ++ c, w.k ≠ z.k := by
    have hh : (∀ w ∈ sortE b, w.k ≠ z.k) ↔ ∀ w ∈ b, w.k ≠ z.k := by
      have := keys_sortE b z.k
      constructor
      · intro h w hw e
        obtain ⟨u, hu, e'⟩ := this.2 ⟨w, hw, e⟩
        exact h u hu e'
      · intro h w hw e
        obtain ⟨u, hu, e'⟩ := this.1 ⟨w, hw, e⟩
        exact h u hu e'
    simp only [List.mem_append]
    constructor
    · rintro h w (hw | hw)
      · exact (hh.1 (fun w hw => h w (.inl hw))) w hw
      · exact h w (.inr hw)
    · rintro h w (hw | hw)
      · exact (hh.2 (fun w hw => h w (.inl hw))) w hw
      · exact h w (.inr hw)
  rw [lastE_append a, lastE_append a, lastE_append, lastE_append, lastE_inc (inc_sortE b), mem_sortE, hk]
theorem sortE_mid (a b c : List EdS) : sortE (a ++ (sortE b ++ c)) = sortE (a ++ (b ++ c)) :=
  inc_unique (inc_sortE _) (inc_sortE _) (fun z => by rw [mem_sortE, mem_sortE, lastE_mid])
theorem sortE_twice {l : List EdS} (h : Inc l) : sortE (l ++ l) = l := by
  refine inc_unique (inc_sortE _) h (fun z => ?_)
  rw [mem_sortE, lastE_append, lastE_inc h]
  exact ⟨fun h' => h'.elim id (fun h' => h'.1), .inl⟩
theorem len_withE (l : List EdS) (x : EdS) : (withE l x).length ≤ l.length + 1 := by
  induction l with
  | nil => exact Nat.le_refl _
  | cons y l ih =>
    unfold withE
    split
    · rw [List.length_cons, List.length_cons]
      omega
    · rw [List.length_cons]
      exact Nat.succ_le_succ (List.length_filter_le _ _)
theorem len_sortE (l : List EdS) : (sortE l).length ≤ l.length := by
  have : ∀ (l m : List EdS), (l.foldl withE m).length ≤ m.length + l.length := by
    intro l
    induction l with
    | nil => intro m; exact Nat.le_refl _
    | cons x l ih =>
      intro m
      have h1 := ih (withE m x)
      have h2 := len_withE m x
      rw [List.foldl_cons, List.length_cons]
      omega
  have h := this l []
  rw [List.length_nil, Nat.zero_add] at h
  exact h
end Go.Proofs.Ytkbcgcokokddlaa
