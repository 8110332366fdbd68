import Derived.Test.YtghmehfmchadoaaDoorGam
import Derived.Test.YtghmehfmchadoaaDoorGan
import Derived.Test.YtghmehfmchadoaaDoorGah
/-
  Layer 11, the law FrameGets: the walk.
-/
namespace Go.Proofs.YtghmehfmchadoaaDoor
open Go.RowKit
set_option linter.unusedVariables false

theorem refGet_any (A : Option Addr) (n c B : Nat) (l : List UInt8) (a : Int) (w : World) (hp : PcT.Ok w B ⟨A, n, c, l⟩) (hB : B ≤ w.heap.size) (hn : n ≤ 1000000) :
    Calls Tryd.prog 21 #[.slice A n c, .int .i64 a] w (RGetP (getZ l a) w) := by
  unfold getZ
  by_cases h0 : a < 0
  · rw [if_pos h0]
    exact refGet_no A n c B l a w hp hB hn (.inl h0)
  · rw [if_neg h0]
    obtain ⟨k, rfl⟩ : ∃ k : Nat, a = (k : Int) := ⟨a.toNat, by omega⟩
    rw [Int.toNat_natCast]
    unfold Fra.getL
    cases hs : Fra.startB l k
    · rw [if_neg (by decide)]
      exact refGet_no A n c B l k w hp hB hn (.inr (by rw [Int.toNat_natCast]; exact hs))
    · rw [if_pos rfl]
      exact refGet_in A n c B l k w hp hB hn hs
/-- Get, at any offset. -/
theorem get_any (X : FileT) (a : Int) (B : Nat) (w : World) (htab : Tab w) (hL : LieF w B X) (hB : B ≤ w.heap.size) (hr : X.right = true) :
    Calls Tryd.prog 20 #[X.agg, .int .i64 a] w (GetP (getZ X.all a) w) := by
  by_cases h : a < 0 ∨ (X.all.length : Int) ≤ a ∨ a % 64 = 0
  · have hz : getZ X.all a = none := by
      unfold getZ
      by_cases h0 : a < 0
      · rw [if_pos h0]
      · rw [if_neg h0]
        unfold Fra.getL Fra.startB
        rcases h.resolve_left h0 with h1 | h1
        · rw [decide_eq_false (by omega)]; rfl
        · rw [show (a.toNat % 64 == 0) = true by rw [beq_iff_eq]; omega]
          rw [if_neg (by simp)]
    rw [hz]
    refine (get_no X a B w hL hB hr h).mono ?_
    rintro e w' ⟨rfl, hb⟩
    exact ⟨hb, .inl ⟨rfl, rfl⟩⟩
  · obtain ⟨k, rfl⟩ : ∃ k : Nat, a = (k : Int) := ⟨a.toNat, by omega⟩
    unfold getZ
    rw [if_neg (by omega), Int.toNat_natCast]
    exact get_in X k B w htab hL hB hr (by omega) (by omega)
set_option maxRecDepth 100000 in
set_option maxHeartbeats 4000000 in
theorem frameGets_walk (w : World) (X : FileT) (hX : LieF w w.heap.size X) (a : Int) (wa : (Lit.int .i64 a).wf = true) (htab : Tab w) :
    Calls Tryd.prog 4 #[X.agg, .int .i64 a] w fun e w' => e = .returned (.bool true) ∧ Below w.heap.size w w' := by
  have hb0 := bel_alloc (Below.refl w.heap.size w) (.cells #[.slice X.F.A X.F.n X.F.c, .slice X.lA X.ln X.lc, .int .i64 X.fuse, .int .i64 X.fault, .bool X.off] 25)
  have HX := Lib.hid (FBox.new w X 25)
  have HXL := Lib.hid hX
  have Htab := Lib.hid htab
  simp only [FileT.agg, PcT.val]
  clear hX
  go_enter Tryd.func4, Tryd.ntmps4
  go_wp2_with fail
  generalize w.alloc (.cells #[.slice X.F.A X.F.n X.F.c, .slice X.lA X.ln X.lc, .int .i64 X.fuse, .int .i64 X.fault, .bool X.off] 25) = W1 at *
  refine (wakes_any W1 (htab.below hb0 htab.lt)).mono ?_
  rintro e W2 ⟨rfl, hb1⟩
  have hb2 := bel_next hb0 hb1
  obtain ⟨f0, f1, f2, f3, f4⟩ := HX.out.later hb1
  have hso := some_any X w.heap.size W2 (HXL.out.later hb2) hb2.size
  simp only [FileT.agg, PcT.val] at hso
  clear hb0 hb1 HX htab
  go_wp2_with fail
  refine hso.mono ?_
  rintro e W3 ⟨Y, rfl, hYs, hYL, hb3, hYa, hYn, hYln⟩
  clear hso f0 f1 f2 f3 f4
  have hb4 := bel_alloc (bel_next hb2 hb3) (.cells #[.slice Y.F.A Y.F.n Y.F.c, .slice Y.lA Y.ln Y.lc, .int .i64 Y.fuse, .int .i64 Y.fault, .bool Y.off] 25)
  have HY := Lib.hid (FAt.new hYL 25)
  have hYq : ∀ p ∈ Y.Q, p.n ≤ 1048576 := fun p hp => by have := hYn p hp; omega
  have Hq := Lib.hid hYq
  clear hb2 hb3 hYL hYa hYs hYln hYn hYq HXL
  go_upto_region 4 with fail
  generalize W3.alloc (.cells #[.slice Y.F.A Y.F.n Y.F.c, .slice Y.lA Y.ln Y.lc, .int .i64 Y.fuse, .int .i64 Y.fault, .bool Y.off] 25) = W4 at *
  generalize W3.heap.size = g at *
  obtain ⟨⟨f0, f1, f2, f3, f4⟩, -⟩ := HY.out.v
  cases hr : Y.right
  · have hge := get_bad Y a W4.heap.size W4 HY.out.l (Nat.le_refl _) Hq.out hr
    simp only [FileT.agg, PcT.val] at hge
    go_wp2_with fail
    refine hge.mono ?_
    rintro e W5 ⟨rfl, hb5⟩
    clear hge f0 f1 f2 f3 f4
    have HY5 := Lib.hid (HY.out.later hb5)
    have hb6 := bel_next hb4 hb5
    obtain ⟨⟨f0, f1, f2, f3, f4⟩, -⟩ := HY5.out.v
    have hch := checkF_any Y W5.heap.size W5 HY5.out.l (Nat.le_refl _) Hq.out
    rw [hr] at hch
    simp only [FileT.agg, PcT.val] at hch
    clear hb4 hb5 HY hr
    go_wp2_with fail
    refine hch.mono ?_
    rintro e W6 ⟨rfl, hb7⟩
    have hb8 := bel_next hb6 hb7
    clear hch f0 f1 f2 f3 f4 hb6 hb7 HY5 Hq
    go_wp2
    go_ret
    exact ⟨rfl, hb8⟩
  · have hge := get_any Y a W4.heap.size W4 (Htab.out.below hb4 Htab.out.lt) HY.out.l (Nat.le_refl _) hr
    obtain ⟨R, hR⟩ : ∃ R, getZ Y.all a = R := ⟨_, rfl⟩
    rw [hR] at hge
    have HR := Lib.hid hR
    have Hr := Lib.hid hr
    clear hR hr
    simp only [FileT.agg, PcT.val] at hge
    go_wp2_with fail
    refine hge.mono ?_
    rintro e W5 ⟨hb5, hcase⟩
    clear hge f0 f1 f2 f3 f4
    have HY5 := Lib.hid (HY.out.later hb5)
    have hb6 := bel_next hb4 hb5
    obtain ⟨⟨f0, f1, f2, f3, f4⟩, -⟩ := HY5.out.v
    have hch := checkF_any Y W5.heap.size W5 HY5.out.l (Nat.le_refl _) Hq.out
    rw [if_pos Hr.out] at hch
    simp only [FileT.agg, PcT.val] at hch
    clear hb4 hb5 HY
    rcases hcase with ⟨hRn, rfl⟩ | ⟨p, nx, hRs, rfl, hpo, hpa⟩
    · go_wp2_with fail
      refine hch.mono ?_
      rintro e W6 ⟨rfl, hb7⟩
      have hb8 := bel_next hb6 hb7
      have HY6 := Lib.hid (HY5.out.later hb7)
      clear hch f0 f1 f2 f3 f4 hb6 hb7 HY5 Hq
      obtain ⟨⟨f0, f1, f2, f3, f4⟩, -⟩ := HY6.out.v
      have hby := refBytes_any Y W6.heap.size W6 HY6.out.l (Nat.le_refl _) Hr.out
      simp only [FileT.agg, PcT.val] at hby
      obtain ⟨hlong, hmax⟩ := right_all HY6.out.l Hr.out
      rw [hlong] at hby
      clear hlong
      go_wp2_with fail
      refine hby.mono ?_
      rintro e W7 ⟨A7, c7, rfl, HO7, hb9⟩
      obtain ⟨q1, q2, q3⟩ := own_facts HO7.out
      have hrg := refGet_any A7 Y.all.length c7 W7.heap.size Y.all a W7 ⟨Bytes.own HO7.out, q1, q2, q3⟩ (Nat.le_refl _) (by omega)
      rw [HR.out, hRn] at hrg
      have hb10 := bel_next hb8 hb9
      clear hby f0 f1 f2 f3 f4 hb8 hb9 HY6 q1 q2 q3 HO7
      generalize Y.all.length = len at *
      go_wp2_with fail
      refine hrg.mono ?_
      rintro e W8 ⟨hb11, ⟨-, rfl⟩ | ⟨p, nx, hno, -⟩⟩
      · have hb12 := bel_next hb10 hb11
        clear hrg hb10 hb11
        go_wp2
        go_ret
        exact ⟨rfl, hb12⟩
      · cases hno
    · have HPO := Lib.hid hpo
      clear hpo hpa
      go_wp2_with fail
      refine hch.mono ?_
      rintro e W6 ⟨rfl, hb7⟩
      have hb8 := bel_next hb6 hb7
      have HY6 := Lib.hid (HY5.out.later hb7)
      have HPO6 := Lib.hid ((HPO.out.later hb7).more hb7.size)
      clear hch f0 f1 f2 f3 f4 hb6 hb7 HY5 Hq HPO
      obtain ⟨⟨f0, f1, f2, f3, f4⟩, -⟩ := HY6.out.v
      have hby := refBytes_any Y W6.heap.size W6 HY6.out.l (Nat.le_refl _) Hr.out
      simp only [FileT.agg, PcT.val] at hby
      obtain ⟨hlong, hmax⟩ := right_all HY6.out.l Hr.out
      rw [hlong] at hby
      clear hlong
      go_wp2_with fail
      refine hby.mono ?_
      rintro e W7 ⟨A7, c7, rfl, HO7, hb9⟩
      obtain ⟨q1, q2, q3⟩ := own_facts HO7.out
      have hrg := refGet_any A7 Y.all.length c7 W7.heap.size Y.all a W7 ⟨Bytes.own HO7.out, q1, q2, q3⟩ (Nat.le_refl _) (by omega)
      rw [HR.out, hRs] at hrg
      have hb10 := bel_next hb8 hb9
      have HPO7 := Lib.hid ((HPO6.out.later hb9).more hb9.size)
      clear hby f0 f1 f2 f3 f4 hb8 hb9 HY6 q1 q2 q3 HO7 HPO6
      generalize Y.all.length = len at *
      go_wp2_with fail
      refine hrg.mono ?_
      rintro e W8 ⟨hb11, ⟨hno, -⟩ | ⟨q, mx, hyes, rfl, hqo⟩⟩
      · cases hno
      · injection hyes with hyes
        injection hyes with hyl hyn
        subst hyn
        have hpo := (HPO7.out.later hb11).more hb11.size
        have heq := equal_any p.A q.A p.n p.c q.n q.c p.l q.l W8.heap.size W8.heap.size W8 hpo.here hqo.here (Nat.le_trans hpo.fits hpo.most) (Nat.le_trans hqo.fits hqo.most)
        rw [show sameB p.l q.l = true by unfold sameB; exact decide_eq_true hyl] at heq
        have hb12 := bel_next hb10 hb11
        have hnx : ((nx : Int) == (nx : Int)) = true := beq_self_eq_true _
        clear hrg hb10 hb11 hpo hqo HPO7 hyl
        go_wp2_with fail
        refine heq.mono ?_
        rintro e W9 ⟨rfl, k, rfl⟩
        clear heq
        go_wp2
        go_ret
        exact ⟨rfl, below_drewN hb12 k⟩
end Go.Proofs.YtghmehfmchadoaaDoor
