import Derived.Test.YtghmehfmchadoaaDoorGao
import Derived.Test.YtghmehfmchadoaaDoorGai
/-
  Layer 11, the law FramePuts: the walk.
-/
namespace Go.Proofs.YtghmehfmchadoaaDoor
open Go.RowKit
set_option linter.unusedVariables false
set_option linter.unusedSimpArgs false

theorem same_me (S : FileS) : sameS S S = true := by
  unfold sameS
  rw [same_yes' (rfl : S.firm = S.firm), beq_self_eq_true, beq_self_eq_true, beq_self_eq_true, decide_eq_true rfl]
  rfl
set_option maxRecDepth 100000 in
set_option maxHeartbeats 8000000 in
theorem framePuts_walk (w : World) (X : FileT) (hX : LieF w w.heap.size X) (A1 : Option Addr) (n1 c1 : Nat) (l1 : List UInt8) (h1 : Bytes w w.heap.size A1 n1 l1) (hA1 : A1 = none → c1 = 0) (hn1 : n1 ≤ c1) (hc1 : c1 ≤ maxLen) (htab : Tab w) :
    Calls Tryd.prog 3 #[X.agg, .slice A1 n1 c1] w fun e w' => e = .returned (.bool true) ∧ Below w.heap.size w w' := by
  have HP := Lib.hid (show PcT.Ok w w.heap.size ⟨A1, n1, c1, l1⟩ from ⟨h1, hA1, hn1, hc1⟩)
  have hb0 := bel_alloc (Below.refl w.heap.size w) (.cells #[.slice X.F.A X.F.n X.F.c, .slice X.lA X.ln X.lc, .int .i64 X.fuse, .int .i64 X.fault, .bool X.off] 25)
  have HX := Lib.hid (FBox.new w X 25)
  have HXL := Lib.hid hX
  have Htab := Lib.hid htab
  simp only [FileT.agg, PcT.val]
  clear hX h1 hA1 hn1 hc1
  go_enter Tryd.func3, Tryd.ntmps3
  go_wp2_with fail
  generalize w.alloc (.cells #[.slice X.F.A X.F.n X.F.c, .slice X.lA X.ln X.lc, .int .i64 X.fuse, .int .i64 X.fault, .bool X.off] 25) = W1 at *
  refine (wakes_any W1 (htab.below hb0 htab.lt)).mono ?_
  rintro e W2 ⟨rfl, hb1⟩
  have hb2 := bel_next hb0 hb1
  obtain ⟨f0, f1, f2, f3, f4⟩ := HX.out.later hb1
  have hso := some_any X w.heap.size W2 (HXL.out.later hb2) hb2.size
  simp only [FileT.agg, PcT.val] at hso
  clear hb0 hb1 HX htab
  go_wp2_with fail
  refine hso.mono ?_
  rintro e W3 ⟨Y, rfl, hYs, hYL, hb3, hYa, hYn, hYln⟩
  clear hso f0 f1 f2 f3 f4
  have hb3b := bel_next hb2 hb3
  have hfe := few_any ⟨A1, n1, c1, l1⟩ 4097 w.heap.size W3 (HP.out.later hb3b) hb3b.size (by omega)
  rw [show ((4097 : Nat) : Int) = 4097 from rfl] at hfe
  go_wp2_with fail
  refine hfe.mono ?_
  rintro e W3b ⟨q, rfl, hql, hqo, hb3c, -⟩
  clear hfe
  have hYL2 := (hYL.later hb3c).more hb3c.size
  have hb4 := bel_next hb3b hb3c
  have hb4b := bel_alloc (Below.refl W3b.heap.size W3b) (.cells #[.slice Y.F.A Y.F.n Y.F.c, .slice Y.lA Y.ln Y.lc, .int .i64 Y.fuse, .int .i64 Y.fault, .bool Y.off] 25)
  have HY := Lib.hid (FAt.new hYL2 25)
  have HQ := Lib.hid ((hqo.later hb4b).more hb4b.size)
  have hb5 := bel_next hb4 hb4b
  have hYq : ∀ p ∈ Y.Q, p.n ≤ 1048576 := fun p hp => by have := hYn p hp; omega
  have Hq := Lib.hid hYq
  have hqn : q.n ≤ 4097 := by rw [← hqo.len, hql, List.length_take]; omega
  have Hql := Lib.hid (show q.l = l1.take 4097 from hql)
  simp only [FileT.agg, PcT.val]
  clear hb2 hb3 hb3b hb3c hb4 hb4b hYL hYL2 hYa hYs hYln hYn hYq HXL hqo hql
  go_upto_region 4 with fail
  generalize W3b.alloc (.cells #[.slice Y.F.A Y.F.n Y.F.c, .slice Y.lA Y.ln Y.lc, .int .i64 Y.fuse, .int .i64 Y.fault, .bool Y.off] 25) = W5 at *
  generalize W3b.heap.size = g at *
  obtain ⟨⟨f0, f1, f2, f3, f4⟩, -⟩ := HY.out.v
  cases hr : Y.right
  · have hput := put_bad Y q W5.heap.size W5 HY.out.l (Nat.le_refl _) Hq.out hr
    simp only [FileT.agg, PcT.val] at hput
    go_wp2_with fail
    refine hput.mono ?_
    rintro e W6 ⟨Z, rfl, hZs, hZL, hb6, -⟩
    clear hput f0 f1 f2 f3 f4
    simp only [FileT.agg, PcT.val]
    have HY6 := Lib.hid (HY.out.later hb6)
    have HQ6 := Lib.hid ((HQ.out.later hb6).more hb6.size)
    have hb7 := bel_alloc (Below.refl W6.heap.size W6) (.cells #[.slice Z.F.A Z.F.n Z.F.c, .slice Z.lA Z.ln Z.lc, .int .i64 Z.fuse, .int .i64 Z.fault, .bool Z.off] 25)
    have HZ7 := Lib.hid (FAt.new hZL 25)
    have HY7 := Lib.hid (HY6.out.later hb7)
    have HQ7 := Lib.hid ((HQ6.out.later hb7).more hb7.size)
    have hb8 := bel_next (bel_next hb5 hb6) hb7
    clear hb5 hb6 hb7 hZL HY HQ HY6 HQ6
    go_upto_region 5 with fail
    generalize W6.alloc (.cells #[.slice Z.F.A Z.F.n Z.F.c, .slice Z.lA Z.ln Z.lc, .int .i64 Z.fuse, .int .i64 Z.fault, .bool Z.off] 25) = W7 at *
    generalize W6.heap.size = h7 at *
    have hsi := fsize_no Y (q.n : Int) W7.heap.size W7 HY7.out.l (Nat.le_refl _) Hq.out (.inl hr)
    simp only [FileT.agg, PcT.val] at hsi
    obtain ⟨⟨f0, f1, f2, f3, f4⟩, -⟩ := HY7.out.v
    go_wp2_with fail
    refine hsi.mono ?_
    rintro e W8 ⟨rfl, hb9⟩
    clear hsi f0 f1 f2 f3 f4
    have HY8 := Lib.hid (HY7.out.later hb9)
    have HZ8 := Lib.hid (HZ7.out.later hb9)
    have HQ8 := Lib.hid ((HQ7.out.later hb9).more hb9.size)
    have hb10 := bel_next hb8 hb9
    obtain ⟨⟨f0, f1, f2, f3, f4⟩, -⟩ := HY8.out.v
    have hch := checkF_any Y W8.heap.size W8 HY8.out.l (Nat.le_refl _) Hq.out
    rw [hr] at hch
    clear hr
    simp only [FileT.agg, PcT.val] at hch
    clear hb8 hb9 HY7 HZ7 HQ7
    go_wp2_with fail
    refine hch.mono ?_
    rintro e W9 ⟨rfl, hb11⟩
    clear hch f0 f1 f2 f3 f4
    have HY9 := Lib.hid (HY8.out.later hb11)
    have HZ9 := Lib.hid (HZ8.out.later hb11)
    have HQ9 := Lib.hid ((HQ8.out.later hb11).more hb11.size)
    have hb12 := bel_next hb10 hb11
    clear hb10 hb11 HY8 HZ8 HQ8
    obtain ⟨⟨f0, f1, f2, f3, f4⟩, -⟩ := HY9.out.v
    obtain ⟨⟨g0, g1, g2, g3, g4⟩, -⟩ := HZ9.out.v
    have hsm := refSame_any Z Y W9.heap.size W9 HZ9.out.l HY9.out.l (Nat.le_refl _)
    rw [hZs, same_me] at hsm
    simp only [FileT.agg, PcT.val] at hsm
    go_wp2_with fail
    refine hsm.mono ?_
    rintro e W10 ⟨rfl, hb13⟩
    clear hsm f0 f1 f2 f3 f4 g0 g1 g2 g3 g4
    have hb14 := bel_next hb12 hb13
    clear hb12 hb13 HY9 HZ9 HQ9
    go_wp2
    go_ret
    exact ⟨rfl, hb14⟩
  · by_cases hbad : q.n = 0 ∨ 4096 < q.n
    · have hal : allowB (q.n : Int) = false := by
        unfold allowB
        rcases hbad with h | h
        · rw [h]; rfl
        · rw [decide_eq_false (show ¬ (q.n : Int) ≤ 4096 by omega), Bool.and_false]
      have hput := put_arg Y q W5.heap.size W5 HY.out.l (Nat.le_refl _) hr hal
      simp only [FileT.agg, PcT.val] at hput
      go_wp2_with fail
      refine hput.mono ?_
      rintro e W6 ⟨Z, rfl, hZs, hZL, hb6, -⟩
      clear hput f0 f1 f2 f3 f4
      simp only [FileT.agg, PcT.val]
      have HY6 := Lib.hid (HY.out.later hb6)
      have HQ6 := Lib.hid ((HQ.out.later hb6).more hb6.size)
      have hb7 := bel_alloc (Below.refl W6.heap.size W6) (.cells #[.slice Z.F.A Z.F.n Z.F.c, .slice Z.lA Z.ln Z.lc, .int .i64 Z.fuse, .int .i64 Z.fault, .bool Z.off] 25)
      have HZ7 := Lib.hid (FAt.new hZL 25)
      have HY7 := Lib.hid (HY6.out.later hb7)
      have HQ7 := Lib.hid ((HQ6.out.later hb7).more hb7.size)
      have hb8 := bel_next (bel_next hb5 hb6) hb7
      clear hb5 hb6 hb7 hZL HY HQ HY6 HQ6
      go_upto_region 5 with fail
      generalize W6.alloc (.cells #[.slice Z.F.A Z.F.n Z.F.c, .slice Z.lA Z.ln Z.lc, .int .i64 Z.fuse, .int .i64 Z.fault, .bool Z.off] 25) = W7 at *
      generalize W6.heap.size = h7 at *
      have hsi := fsize_no Y (q.n : Int) W7.heap.size W7 HY7.out.l (Nat.le_refl _) Hq.out (.inr hal)
      simp only [FileT.agg, PcT.val] at hsi
      obtain ⟨⟨f0, f1, f2, f3, f4⟩, -⟩ := HY7.out.v
      go_wp2_with fail
      refine hsi.mono ?_
      rintro e W8 ⟨rfl, hb9⟩
      clear hsi f0 f1 f2 f3 f4
      have HY8 := Lib.hid (HY7.out.later hb9)
      have HZ8 := Lib.hid (HZ7.out.later hb9)
      have HQ8 := Lib.hid ((HQ7.out.later hb9).more hb9.size)
      have hb10 := bel_next hb8 hb9
      obtain ⟨⟨f0, f1, f2, f3, f4⟩, -⟩ := HY8.out.v
      have hch := checkF_any Y W8.heap.size W8 HY8.out.l (Nat.le_refl _) Hq.out
      rw [if_pos hr] at hch
      clear hr
      simp only [FileT.agg, PcT.val] at hch
      clear hb8 hb9 HY7 HZ7 HQ7
      go_wp2_with fail
      refine hch.mono ?_
      rintro e W9 ⟨rfl, hb11⟩
      clear hch f0 f1 f2 f3 f4
      have HY9 := Lib.hid (HY8.out.later hb11)
      have HZ9 := Lib.hid (HZ8.out.later hb11)
      have HQ9 := Lib.hid ((HQ8.out.later hb11).more hb11.size)
      have hb12 := bel_next hb10 hb11
      clear hb10 hb11 HY8 HZ8 HQ8
      by_cases hz : q.n = 0
      · have k1 : ((q.n : Int) == 0) = true := by rw [beq_iff_eq]; omega
        clear hbad hal hz
        obtain ⟨⟨f0, f1, f2, f3, f4⟩, -⟩ := HY9.out.v
        obtain ⟨⟨g0, g1, g2, g3, g4⟩, -⟩ := HZ9.out.v
        have hsm := refSame_any Z Y W9.heap.size W9 HZ9.out.l HY9.out.l (Nat.le_refl _)
        rw [hZs, same_me] at hsm
        simp only [FileT.agg, PcT.val] at hsm
        go_wp2_with fail
        refine hsm.mono ?_
        rintro e W10 ⟨rfl, hb13⟩
        clear hsm f0 f1 f2 f3 f4 g0 g1 g2 g3 g4
        have hb14 := bel_next hb12 hb13
        clear hb12 hb13 HY9 HZ9 HQ9
        go_wp2
        go_ret
        exact ⟨rfl, hb14⟩
      · have k1 : ((q.n : Int) == 0) = false := by rw [beq_eq_false_iff_ne]; omega
        have k2 : ((4096 : Int) < (q.n : Int)) = True := eq_true (by omega)
        clear hbad hal hz
        obtain ⟨⟨f0, f1, f2, f3, f4⟩, -⟩ := HY9.out.v
        obtain ⟨⟨g0, g1, g2, g3, g4⟩, -⟩ := HZ9.out.v
        have hsm := refSame_any Z Y W9.heap.size W9 HZ9.out.l HY9.out.l (Nat.le_refl _)
        rw [hZs, same_me] at hsm
        simp only [FileT.agg, PcT.val] at hsm
        go_wp2_with fail
        refine hsm.mono ?_
        rintro e W10 ⟨rfl, hb13⟩
        clear hsm f0 f1 f2 f3 f4 g0 g1 g2 g3 g4
        have hb14 := bel_next hb12 hb13
        clear hb12 hb13 HY9 HZ9 HQ9
        go_wp2
        go_ret
        exact ⟨rfl, hb14⟩
    · have hqb : 1 ≤ q.n ∧ q.n ≤ 4096 := by omega
      have k1 : ((q.n : Int) == 0) = false := by rw [beq_eq_false_iff_ne]; omega
      have k2 : ((4096 : Int) < (q.n : Int)) = False := eq_false (by omega)
      clear hbad
      have hput := put_ok Y q W5.heap.size W5 (Htab.out.below hb5 Htab.out.lt) HY.out.l HQ.out (Nat.le_refl _) hr hqb
      obtain ⟨S, k, hSk⟩ : ∃ S k, putO Y.s Y.long q.l = (S, k) := ⟨_, _, rfl⟩
      obtain ⟨a, ha⟩ : ∃ a, (if k = 0 then Fra.atN Y.all else 0) = a := ⟨_, rfl⟩
      rw [hSk] at hput
      dsimp only at hput
      rw [ha] at hput
      have HSk := Lib.hid hSk
      have Ha := Lib.hid ha
      clear hSk ha
      simp only [FileT.agg, PcT.val] at hput
      go_wp2_with fail
      refine hput.mono ?_
      rintro e W6 ⟨Z, rfl, hZs, hZL, hb6, -⟩
      clear hput f0 f1 f2 f3 f4
      simp only [FileT.agg, PcT.val]
      have HY6 := Lib.hid (HY.out.later hb6)
      have HQ6 := Lib.hid ((HQ.out.later hb6).more hb6.size)
      have hb7 := bel_alloc (Below.refl W6.heap.size W6) (.cells #[.slice Z.F.A Z.F.n Z.F.c, .slice Z.lA Z.ln Z.lc, .int .i64 Z.fuse, .int .i64 Z.fault, .bool Z.off] 25)
      have HZ7 := Lib.hid (FAt.new hZL 25)
      have HY7 := Lib.hid (HY6.out.later hb7)
      have HQ7 := Lib.hid ((HQ6.out.later hb7).more hb7.size)
      have hb8 := bel_next (bel_next hb5 hb6) hb7
      clear hb5 hb6 hb7 hZL HY HQ HY6 HQ6
      go_upto_region 5 with fail
      generalize W6.alloc (.cells #[.slice Z.F.A Z.F.n Z.F.c, .slice Z.lA Z.ln Z.lc, .int .i64 Z.fuse, .int .i64 Z.fault, .bool Z.off] 25) = W7 at *
      generalize W6.heap.size = h7 at *
      have hsi := fsize_ok Y q.n W7.heap.size W7 (Htab.out.below hb8 Htab.out.lt) HY7.out.l (Nat.le_refl _) hr hqb
      obtain ⟨sz, hsz⟩ : ∃ sz, sizeN Y.all q.n = sz := ⟨_, rfl⟩
      rw [hsz] at hsi
      have Hsz := Lib.hid hsz
      clear hsz
      simp only [FileT.agg, PcT.val] at hsi
      obtain ⟨⟨f0, f1, f2, f3, f4⟩, -⟩ := HY7.out.v
      go_wp2_with fail
      refine hsi.mono ?_
      rintro e W8 ⟨rfl, hb9⟩
      clear hsi f0 f1 f2 f3 f4
      have HY8 := Lib.hid (HY7.out.later hb9)
      have HZ8 := Lib.hid (HZ7.out.later hb9)
      have HQ8 := Lib.hid ((HQ7.out.later hb9).more hb9.size)
      have hb10 := bel_next hb8 hb9
      obtain ⟨⟨f0, f1, f2, f3, f4⟩, -⟩ := HY8.out.v
      have hch := checkF_any Y W8.heap.size W8 HY8.out.l (Nat.le_refl _) Hq.out
      rw [if_pos hr] at hch
      simp only [FileT.agg, PcT.val] at hch
      clear hb8 hb9 HY7 HZ7 HQ7
      go_wp2_with fail
      refine hch.mono ?_
      rintro e W9 ⟨rfl, hb11⟩
      clear hch f0 f1 f2 f3 f4
      have HY9 := Lib.hid (HY8.out.later hb11)
      have HZ9 := Lib.hid (HZ8.out.later hb11)
      have HQ9 := Lib.hid ((HQ8.out.later hb11).more hb11.size)
      have hb12 := bel_next hb10 hb11
      clear hb10 hb11 HY8 HZ8 HQ8
      obtain ⟨⟨f0, f1, f2, f3, f4⟩, -⟩ := HY9.out.v
      obtain ⟨hlong, hmax⟩ := right_all HY9.out.l hr
      have hby := refBytes_any Y W9.heap.size W9 HY9.out.l (Nat.le_refl _) hr
      rw [hlong] at hby
      simp only [FileT.agg, PcT.val] at hby
      have Hlong := Lib.hid hlong
      clear hlong
      go_wp2_with fail
      refine hby.mono ?_
      rintro e W10 ⟨A10, c10, rfl, HO10, hb13⟩
      clear hby f0 f1 f2 f3 f4
      have HY10 := Lib.hid (HY9.out.later hb13)
      have HZ10 := Lib.hid (HZ9.out.later hb13)
      have HQ10 := Lib.hid ((HQ9.out.later hb13).more hb13.size)
      have hb14 := bel_next hb12 hb13
      clear hb12 hb13 HY9 HZ9 HQ9
      have hou := refOut_any q.A q.n q.c W10.heap.size q.l W10 HQ10.out (Nat.le_refl _) hqb.2
      obtain ⟨len, hlen⟩ : ∃ len, Y.all.length = len := ⟨_, rfl⟩
      rw [hlen] at HO10 hmax ⊢
      have Hlen := Lib.hid hlen
      clear hlen
      go_wp2_with fail
      refine hou.mono ?_
      rintro e W11 ⟨A11, n11, c11, rfl, ho11, hb15⟩
      clear hou
      have hn11 : n11 = 6 + q.n := by have := ho11.1; rw [List.length_map, Fra.encL_len, HQ10.out.len] at this; omega
      subst hn11
      have HY11 := Lib.hid (HY10.out.later hb15)
      have HZ11 := Lib.hid (HZ10.out.later hb15)
      have HQ11 := Lib.hid ((HQ10.out.later hb15).more hb15.size)
      have hb16 := bel_next hb14 hb15
      have ho10 := own_later HO10.out hb15
      obtain ⟨q1, q2, q3⟩ := own_facts ho10
      obtain ⟨r1, r2, r3⟩ := own_facts ho11
      have hla := refLay_any A10 len c10 Y.all A11 (6 + q.n) c11 (Fra.encL q.l) W11.heap.size W11 ⟨Bytes.own ho10, q1, q2, q3⟩ ⟨Bytes.own ho11, r1, r2, r3⟩ (Nat.le_refl _) (by omega) (by omega)
      obtain ⟨T, hT⟩ : ∃ T, Fra.pieceL Y.all (Fra.encL q.l) = T := ⟨_, rfl⟩
      obtain ⟨at0, hat⟩ : ∃ at0, Fra.atN Y.all = at0 := ⟨_, rfl⟩
      rw [hT, hat] at hla
      have HT := Lib.hid hT
      have Hat := Lib.hid hat
      have hTl : 7 ≤ T.length ∧ T.length ≤ 8300 := by
        have h1 := (Fra.layP_ge (Fra.encL q.l) (Fra.atN Y.all)).1
        have h2 := Fra.piece_len Y.all (Fra.encL q.l) (by rw [Fra.encL_len, HQ11.out.len]; omega)
        rw [hT] at h2
        rw [Fra.encL_len, HQ11.out.len] at h1
        have h3 : T.length = (Fra.aheadL Y.all).length + (Fra.layP (Fra.atN Y.all) (Fra.encL q.l)).length := by rw [← hT]; unfold Fra.pieceL; rw [List.length_append]
        omega
      have hTsz : T.length = sz := by rw [← hT, ← size_is Y.all q.l, HQ11.out.len, Hsz.out]
      clear hb14 hb15 HY10 HZ10 HQ10 HO10 hT hat ho10 ho11 q1 q2 q3 r1 r2 r3
      go_wp2_with fail
      refine hla.mono ?_
      rintro e W12 ⟨A12, c12, rfl, HO12, hb17⟩
      clear hla
      have HY12 := Lib.hid (HY11.out.later hb17)
      have HZ12 := Lib.hid (HZ11.out.later hb17)
      have HQ12 := Lib.hid ((HQ11.out.later hb17).more hb17.size)
      have hb18 := bel_next hb16 hb17
      obtain ⟨q1, q2, q3⟩ := own_facts HO12.out
      have hap := appendF_any Y ⟨A12, T.length, c12, T⟩ W12.heap.size W12 HY12.out.l ⟨Bytes.own HO12.out, q1, q2, q3⟩ (Nat.le_refl _) hr
      rw [if_neg (show ¬ T.length = 0 by omega)] at hap
      have hpo := HSk.out
      unfold putO at hpo
      rw [all_s, HT.out] at hpo
      rw [show Y.s.append Y.long (PcT.l ⟨A12, T.length, c12, T⟩) = (S, k) from hpo] at hap
      simp only [FileT.agg, PcT.val] at hap
      rw [hTsz] at hap ⊢
      clear hb16 hb17 HY11 HZ11 HQ11 HO12 q1 q2 q3 hpo
      obtain ⟨⟨f0, f1, f2, f3, f4⟩, -⟩ := HY12.out.v
      go_wp2_with fail
      refine hap.mono ?_
      rintro e W13 ⟨V, rfl, hVs, hVL, hb19, -⟩
      clear hap f0 f1 f2 f3 f4
      simp only [FileT.agg, PcT.val]
      have HZ13 := Lib.hid (HZ12.out.later hb19)
      have HQ13 := Lib.hid ((HQ12.out.later hb19).more hb19.size)
      have hb20 := bel_alloc (Below.refl W13.heap.size W13) (.cells #[.slice V.F.A V.F.n V.F.c, .slice V.lA V.ln V.lc, .int .i64 V.fuse, .int .i64 V.fault, .bool V.off] 25)
      have HV14 := Lib.hid (FAt.new hVL 25)
      have HZ14 := Lib.hid (HZ13.out.later hb20)
      have HQ14 := Lib.hid ((HQ13.out.later hb20).more hb20.size)
      have hb21 := bel_next (bel_next hb18 hb19) hb20
      clear hb18 hb19 hb20 hVL HY12 HZ12 HQ12 HZ13 HQ13
      go_upto_region 13 with fail
      generalize W13.alloc (.cells #[.slice V.F.A V.F.n V.F.c, .slice V.lA V.ln V.lc, .int .i64 V.fuse, .int .i64 V.fault, .bool V.off] 25) = W14 at *
      generalize W13.heap.size = g14 at *
      have hss : ((sz : Int) == (sz : Int)) = true := beq_self_eq_true _
      have hkk : (k == k) = true := beq_self_eq_true _
      have haa : ((a : Int) == (a : Int)) = true := beq_self_eq_true _
      by_cases hk : k = 0
      · have hk1 : (k != 0) = false := by rw [bne_eq_false_iff_eq]; exact hk
        have hat : at0 = a := by rw [← Ha.out, if_pos hk, Hat.out]
        subst hat
        have Hk := Lib.hid hk
        clear hk
        obtain ⟨⟨f0, f1, f2, f3, f4⟩, -⟩ := HV14.out.v
        obtain ⟨⟨g0, g1, g2, g3, g4⟩, -⟩ := HZ14.out.v
        have hsm := refSame_any Z V W14.heap.size W14 HZ14.out.l HV14.out.l (Nat.le_refl _)
        rw [hZs, hVs, same_me] at hsm
        simp only [FileT.agg, PcT.val] at hsm
        go_wp2_with fail
        refine hsm.mono ?_
        rintro e W15 ⟨rfl, hb22⟩
        clear hsm f0 f1 f2 f3 f4 g0 g1 g2 g3 g4
        have HQ15 := Lib.hid ((HQ14.out.later hb22).more hb22.size)
        have hb23 := bel_next hb21 hb22
        clear hb21 hb22 HQ14 HV14 HZ14
        have hfe := few_any ⟨A1, n1, c1, l1⟩ 4097 w.heap.size W15 (HP.out.later hb23) hb23.size (by omega)
        rw [show ((4097 : Nat) : Int) = 4097 from rfl] at hfe
        go_wp2_with fail
        refine hfe.mono ?_
        rintro e W16 ⟨q2, rfl, hql, hqo, hb24, -⟩
        clear hfe
        have hpo := (HQ15.out.later hb24).more hb24.size
        have hb25 := bel_next hb23 hb24
        have heq := equal_any q.A q2.A q.n q.c q2.n q2.c q.l q2.l W16.heap.size W16.heap.size W16 hpo.here hqo.here (Nat.le_trans hpo.fits hpo.most) (Nat.le_trans hqo.fits hqo.most)
        rw [show sameB q.l q2.l = true by unfold sameB; exact decide_eq_true (by rw [Hql.out, hql])] at heq
        clear hb23 hb24 hpo hqo hql HQ15
        go_wp2_with fail
        refine heq.mono ?_
        rintro e W17 ⟨rfl, kk, rfl⟩
        clear heq
        go_wp2
        go_ret
        exact ⟨rfl, below_drewN hb25 kk⟩
      · have hk1 : (k != 0) = true := by rw [bne_iff_ne]; exact hk
        have hat : a = 0 := by rw [← Ha.out, if_neg hk]
        subst hat
        obtain ⟨⟨f0, f1, f2, f3, f4⟩, -⟩ := HV14.out.v
        obtain ⟨⟨g0, g1, g2, g3, g4⟩, -⟩ := HZ14.out.v
        have hsm := refSame_any Z V W14.heap.size W14 HZ14.out.l HV14.out.l (Nat.le_refl _)
        rw [hZs, hVs, same_me] at hsm
        simp only [FileT.agg, PcT.val] at hsm
        go_wp2_with fail
        refine hsm.mono ?_
        rintro e W15 ⟨rfl, hb22⟩
        clear hsm f0 f1 f2 f3 f4 g0 g1 g2 g3 g4
        have HQ15 := Lib.hid ((HQ14.out.later hb22).more hb22.size)
        have hb23 := bel_next hb21 hb22
        clear hb21 hb22 HQ14 HV14 HZ14
        have hfe := few_any ⟨A1, n1, c1, l1⟩ 4097 w.heap.size W15 (HP.out.later hb23) hb23.size (by omega)
        rw [show ((4097 : Nat) : Int) = 4097 from rfl] at hfe
        go_wp2_with fail
        refine hfe.mono ?_
        rintro e W16 ⟨q2, rfl, hql, hqo, hb24, -⟩
        clear hfe
        have hpo := (HQ15.out.later hb24).more hb24.size
        have hb25 := bel_next hb23 hb24
        have heq := equal_any q.A q2.A q.n q.c q2.n q2.c q.l q2.l W16.heap.size W16.heap.size W16 hpo.here hqo.here (Nat.le_trans hpo.fits hpo.most) (Nat.le_trans hqo.fits hqo.most)
        rw [show sameB q.l q2.l = true by unfold sameB; exact decide_eq_true (by rw [Hql.out, hql])] at heq
        clear hb23 hb24 hpo hqo hql HQ15
        go_wp2_with fail
        refine heq.mono ?_
        rintro e W17 ⟨rfl, kk, rfl⟩
        clear heq
        go_wp2
        go_ret
        exact ⟨rfl, below_drewN hb25 kk⟩
end Go.Proofs.YtghmehfmchadoaaDoor
