import Derived.Test.YtlknmpnjhbdlhaaDoorGap
import Derived.Test.YtlknmpnjhbdlhaaDoorGan
import Derived.Test.YtlknmpnjhbdlhaaDoorGam
import Derived.Test.YtlknmpnjhbdlhaaDoorGal
import Derived.Test.YtlknmpnjhbdlhaaDoorGac
/-
  Layer 12: the walk of HeaderPuts.
-/
namespace Go.Proofs.YtlknmpnjhbdlhaaDoor
open Go.RowKit
set_option linter.unusedVariables false

theorem same_it (S : FileS) : sameS S S = true := by
  unfold sameS
  rw [beq_self_eq_true, beq_self_eq_true, beq_self_eq_true, same_yes' rfl, decide_eq_true rfl]
  rfl
set_option maxRecDepth 100000 in
set_option maxHeartbeats 8000000 in
theorem headerPuts_walk (w : World) (X : FileT) (hX : LieF w w.heap.size X) (hN1 : ∀ p ∈ X.Q, p.n ≤ 1048576) (g : Nat) (a : Int) (hg : g < 18446744073709551616) (wa : (Lit.int .i64 a).wf = true) (htab : Tab w) :
    Calls Tryd.prog 4 #[X.agg, .agg #[.int .u64 (g : Int), .int .i64 a]] w fun e w' => e = .returned (.bool true) ∧ Below w.heap.size w w' := by
  have HWK := Lib.hid (fun W (h : Below w.heap.size w W) => hwakes_any W (htab.below h htab.lt))
  have HXL := Lib.hid hX
  have HN := Lib.hid hN1
  have HT := Lib.hid htab
  have HG := Lib.hid hg
  have hb1 := bel_alloc (bel_alloc (Below.refl w.heap.size w) (.cells #[.slice X.F.A X.F.n X.F.c, .slice X.lA X.ln X.lc, .int .i64 X.fuse, .int .i64 X.fault, .bool X.off] 37)) (.cells #[.int .u64 (g : Int), .int .i64 a] 24)
  have HX1 := Lib.hid ((FBox.new w X 37).later (bel_alloc (Below.refl _ _) (.cells #[.int .u64 (g : Int), .int .i64 a] 24)))
  have hh1 : HBox ((w.alloc (.cells #[.slice X.F.A X.F.n X.F.c, .slice X.lA X.ln X.lc, .int .i64 X.fuse, .int .i64 X.fault, .bool X.off] 37)).alloc (.cells #[.int .u64 (g : Int), .int .i64 a] 24)) (w.alloc (.cells #[.slice X.F.A X.F.n X.F.c, .slice X.lA X.ln X.lc, .int .i64 X.fuse, .int .i64 X.fault, .bool X.off] 37)).heap.size g a := heap_alloc_new _ _
  rw [World.size_alloc] at hh1
  have HH1 := Lib.hid hh1
  simp only [FileT.agg, PcT.val]
  clear hX hN1 htab hg wa hh1
  go_enter Tryd.func4, Tryd.ntmps4
  go_wp2_with fail
  generalize (w.alloc (.cells #[.slice X.F.A X.F.n X.F.c, .slice X.lA X.ln X.lc, .int .i64 X.fuse, .int .i64 X.fault, .bool X.off] 37)).alloc (.cells #[.int .u64 (g : Int), .int .i64 a] 24) = W1 at *
  refine (HWK.out _ hb1).mono ?_
  rintro e W3 ⟨rfl, hb2⟩
  have HX3 := Lib.hid (HX1.out.later hb2)
  have HH3 := Lib.hid (HH1.out.later hb2)
  have hb3 := bel_next hb1 hb2
  clear hb1 hb2 HX1 HH1 HWK
  obtain ⟨f0, f1, f2, f3, f4⟩ := HX3.out
  have h0 := HH3.out.c0
  have h1 := HH3.out.c1
  cases hr : X.right
  · have hpt := putH_bad X g a (fun _ => True) w.heap.size W3 (HXL.out.later hb3) hb3.size HN.out hr
    simp only [FileT.agg, PcT.val] at hpt
    go_wp2_with fail
    refine hpt.mono ?_
    rintro e W4 ⟨Y, rfl, hYs, hYL, hb4, -⟩
    simp only [FileT.agg, PcT.val]
    clear hpt f0 f1 f2 f3 f4 h0 h1
    have HX4 := Lib.hid (HX3.out.later hb4)
    have HH4 := Lib.hid (HH3.out.later hb4)
    have hb5 := bel_alloc (Below.refl W4.heap.size W4) (.cells #[.slice Y.F.A Y.F.n Y.F.c, .slice Y.lA Y.ln Y.lc, .int .i64 Y.fuse, .int .i64 Y.fault, .bool Y.off] 37)
    have HY5 := Lib.hid (FAt.new hYL 37)
    have HX5 := Lib.hid (HX4.out.later hb5)
    have HH5 := Lib.hid (HH4.out.later hb5)
    have HB5 := Lib.hid (bel_next (bel_next hb3 hb4) hb5)
    clear hb3 hb4 hb5 HX4 HH4 HX3 HH3 hYL
    go_upto_region 4 with fail
    generalize W4.alloc (.cells #[.slice Y.F.A Y.F.n Y.F.c, .slice Y.lA Y.ln Y.lc, .int .i64 Y.fuse, .int .i64 Y.fault, .bool Y.off] 37) = W5 at *
    generalize W4.heap.size = g5 at *
    have hri := refRight_any X w.heap.size W5 (HXL.out.later HB5.out) HB5.out.size HN.out
    rw [hr] at hri
    simp only [FileT.agg, PcT.val] at hri
    obtain ⟨f0, f1, f2, f3, f4⟩ := HX5.out
    go_wp2_with fail
    refine hri.mono ?_
    rintro e W6 ⟨rfl, hb6⟩
    clear hri f0 f1 f2 f3 f4
    have HX6 := Lib.hid (HX5.out.later hb6)
    have HH6 := Lib.hid (HH5.out.later hb6)
    have HY6 := Lib.hid (HY5.out.later hb6)
    have HB6 := Lib.hid (bel_next HB5.out hb6)
    clear hb6 HX5 HH5 HY5 HB5
    clear hr
    have hsm := refSame_any Y X W6.heap.size W6 HY6.out.l ((HXL.out.later HB6.out).more HB6.out.size) (Nat.le_refl _)
    rw [hYs, same_it] at hsm
    simp only [FileT.agg, PcT.val] at hsm
    obtain ⟨⟨y0, y1, y2, y3, y4⟩, -⟩ := HY6.out.v
    obtain ⟨f0, f1, f2, f3, f4⟩ := HX6.out
    go_wp2_with fail
    refine hsm.mono ?_
    rintro e W9 ⟨rfl, hb9⟩
    have hb20 := bel_next HB6.out hb9
    clear hsm y0 y1 y2 y3 y4 f0 f1 f2 f3 f4
    go_wp2
    go_ret
    exact ⟨rfl, hb20⟩
  · cases hk : okH g a
    · have hpt := putH_not X g a (fun _ => True) w.heap.size W3 (HXL.out.later hb3) hb3.size hr hk
      simp only [FileT.agg, PcT.val] at hpt
      go_wp2_with fail
      refine hpt.mono ?_
      rintro e W4 ⟨Y, rfl, hYs, hYL, hb4, -⟩
      simp only [FileT.agg, PcT.val]
      clear hpt f0 f1 f2 f3 f4 h0 h1
      have HX4 := Lib.hid (HX3.out.later hb4)
      have HH4 := Lib.hid (HH3.out.later hb4)
      have hb5 := bel_alloc (Below.refl W4.heap.size W4) (.cells #[.slice Y.F.A Y.F.n Y.F.c, .slice Y.lA Y.ln Y.lc, .int .i64 Y.fuse, .int .i64 Y.fault, .bool Y.off] 37)
      have HY5 := Lib.hid (FAt.new hYL 37)
      have HX5 := Lib.hid (HX4.out.later hb5)
      have HH5 := Lib.hid (HH4.out.later hb5)
      have HB5 := Lib.hid (bel_next (bel_next hb3 hb4) hb5)
      clear hb3 hb4 hb5 HX4 HH4 HX3 HH3 hYL
      go_upto_region 4 with fail
      generalize W4.alloc (.cells #[.slice Y.F.A Y.F.n Y.F.c, .slice Y.lA Y.ln Y.lc, .int .i64 Y.fuse, .int .i64 Y.fault, .bool Y.off] 37) = W5 at *
      generalize W4.heap.size = g5 at *
      have hri := refRight_any X w.heap.size W5 (HXL.out.later HB5.out) HB5.out.size HN.out
      rw [hr] at hri
      simp only [FileT.agg, PcT.val] at hri
      obtain ⟨f0, f1, f2, f3, f4⟩ := HX5.out
      go_wp2_with fail
      refine hri.mono ?_
      rintro e W6 ⟨rfl, hb6⟩
      clear hri f0 f1 f2 f3 f4
      have HX6 := Lib.hid (HX5.out.later hb6)
      have HH6 := Lib.hid (HH5.out.later hb6)
      have HY6 := Lib.hid (HY5.out.later hb6)
      have HB6 := Lib.hid (bel_next HB5.out hb6)
      clear hb6 HX5 HH5 HY5 HB5
      clear hr
      have hrh := refRightH_any g a W6
      have h0 := HH6.out.c0
      have h1 := HH6.out.c1
      rw [hk] at hrh
      clear hk
      go_wp2_with fail
      refine hrh.mono ?_
      rintro e W7 ⟨rfl, hb7⟩
      clear hrh h0 h1
      have HX7 := Lib.hid (HX6.out.later hb7)
      have HH7 := Lib.hid (HH6.out.later hb7)
      have HY7 := Lib.hid (HY6.out.later hb7)
      have HB7 := Lib.hid (bel_next HB6.out hb7)
      clear hb7 HX6 HH6 HY6 HB6
      have hsm := refSame_any Y X W7.heap.size W7 HY7.out.l ((HXL.out.later HB7.out).more HB7.out.size) (Nat.le_refl _)
      rw [hYs, same_it] at hsm
      simp only [FileT.agg, PcT.val] at hsm
      obtain ⟨⟨y0, y1, y2, y3, y4⟩, -⟩ := HY7.out.v
      obtain ⟨f0, f1, f2, f3, f4⟩ := HX7.out
      go_wp2_with fail
      refine hsm.mono ?_
      rintro e W9 ⟨rfl, hb9⟩
      have hb20 := bel_next HB7.out hb9
      clear hsm y0 y1 y2 y3 y4 f0 f1 f2 f3 f4
      go_wp2
      go_ret
      exact ⟨rfl, hb20⟩
    · obtain ⟨k1, k2, k3⟩ := okH_iff.1 hk
      obtain ⟨b, rfl⟩ : ∃ b : Nat, a = (b : Int) := ⟨a.toNat, by omega⟩
      have k4 : b < 524288 := by omega
      have hall := right_all HXL.out hr
      have hlm : X.long ≤ 1048576 := by rw [hall.1]; have := hall.2; omega
      have HK := Lib.hid (And.intro k1 (And.intro k4 hlm))
      clear k1 k2 k3 k4 hlm
      have hpt := putH_ok X g b w.heap.size W3 (HT.out.below hb3 HT.out.lt) (HXL.out.later hb3) hb3.size hr HK.out.1 HG.out HK.out.2.1
      rw [← hall.1] at hpt
      obtain ⟨out, hout⟩ : ∃ out, X.s.append X.long (Hdr.headL X.long g b) = out := ⟨_, rfl⟩
      rw [hout] at hpt
      clear hall
      simp only [FileT.agg, PcT.val] at hpt
      go_wp2_with fail
      refine hpt.mono ?_
      rintro e W4 ⟨Y, rfl, hYs, hYL, hb4, -⟩
      simp only [FileT.agg, PcT.val]
      clear hpt f0 f1 f2 f3 f4 h0 h1
      have HX4 := Lib.hid (HX3.out.later hb4)
      have HH4 := Lib.hid (HH3.out.later hb4)
      have hb5 := bel_alloc (Below.refl W4.heap.size W4) (.cells #[.slice Y.F.A Y.F.n Y.F.c, .slice Y.lA Y.ln Y.lc, .int .i64 Y.fuse, .int .i64 Y.fault, .bool Y.off] 37)
      have HY5 := Lib.hid (FAt.new hYL 37)
      have HX5 := Lib.hid (HX4.out.later hb5)
      have HH5 := Lib.hid (HH4.out.later hb5)
      have HB5 := Lib.hid (bel_next (bel_next hb3 hb4) hb5)
      clear hb3 hb4 hb5 HX4 HH4 HX3 HH3 hYL
      go_upto_region 4 with fail
      generalize W4.alloc (.cells #[.slice Y.F.A Y.F.n Y.F.c, .slice Y.lA Y.ln Y.lc, .int .i64 Y.fuse, .int .i64 Y.fault, .bool Y.off] 37) = W5 at *
      generalize W4.heap.size = g5 at *
      have hri := refRight_any X w.heap.size W5 (HXL.out.later HB5.out) HB5.out.size HN.out
      rw [hr] at hri
      simp only [FileT.agg, PcT.val] at hri
      obtain ⟨f0, f1, f2, f3, f4⟩ := HX5.out
      go_wp2_with fail
      refine hri.mono ?_
      rintro e W6 ⟨rfl, hb6⟩
      clear hri f0 f1 f2 f3 f4
      have HX6 := Lib.hid (HX5.out.later hb6)
      have HH6 := Lib.hid (HH5.out.later hb6)
      have HY6 := Lib.hid (HY5.out.later hb6)
      have HB6 := Lib.hid (bel_next HB5.out hb6)
      clear hb6 HX5 HH5 HY5 HB5
      have HR := Lib.hid hr
      clear hr
      have hrh := refRightH_any g (b : Int) W6
      have h0 := HH6.out.c0
      have h1 := HH6.out.c1
      rw [hk] at hrh
      clear hk
      go_wp2_with fail
      refine hrh.mono ?_
      rintro e W7 ⟨rfl, hb7⟩
      clear hrh h0 h1
      have HX7 := Lib.hid (HX6.out.later hb7)
      have HH7 := Lib.hid (HH6.out.later hb7)
      have HY7 := Lib.hid (HY6.out.later hb7)
      have HB7 := Lib.hid (bel_next HB6.out hb7)
      clear hb7 HX6 HH6 HY6 HB6
      have hws : w.heap.size ≤ W7.heap.size := HB7.out.size
      have HcL := Lib.hid (fun W (h : Below W7.heap.size W7 W) => refLong_any X w.heap.size W (HXL.out.later (bel_next HB7.out h)) (bel_next HB7.out h).size HN.out)
      have HcD := Lib.hid (fun W => refLaidH_any X.long g b W HK.out.2.2 HG.out HK.out.2.1)
      have HcP := Lib.hid (fun W (h : Below W7.heap.size W7 W) (p : PcT) (hp : p.Ok W W.heap.size) (hl : p.l = Hdr.headL X.long g b) => show Calls Tryd.prog 19 #[X.agg, p.val] W (OpP X (fun _ => True) out W) from by
        have h1 := refAppend_any X p W.heap.size W ((HXL.out.later (bel_next HB7.out h)).more (bel_next HB7.out h).size) hp (Nat.le_refl _) HR.out (by rw [← hp.len, hl, Hdr.head_len]; unfold Hdr.gapN; omega)
        rw [hl, hout] at h1
        exact h1)
      simp only [FileT.agg, PcT.val] at HcL HcP
      obtain ⟨iF, hiF, hzF⟩ := file_info
      have x0 : ∀ W, Below W7.heap.size W7 W → W.cell? ⟨w.heap.size, 0, none⟩ = some (.slice X.F.A X.F.n X.F.c) := fun W h => (HX7.out.later h).1
      have x1 : ∀ W, Below W7.heap.size W7 W → W.cell? ⟨w.heap.size, 1, none⟩ = some (.slice X.lA X.ln X.lc) := fun W h => (HX7.out.later h).2.1
      have x2 : ∀ W, Below W7.heap.size W7 W → W.cell? ⟨w.heap.size, 2, none⟩ = some (.int .i64 X.fuse) := fun W h => (HX7.out.later h).2.2.1
      have x3 : ∀ W, Below W7.heap.size W7 W → W.cell? ⟨w.heap.size, 3, none⟩ = some (.int .i64 X.fault) := fun W h => (HX7.out.later h).2.2.2.1
      have x4 : ∀ W, Below W7.heap.size W7 W → W.cell? ⟨w.heap.size, 4, none⟩ = some (.bool X.off) := fun W h => (HX7.out.later h).2.2.2.2
      have x5 : ∀ W, Below W7.heap.size W7 W → W.cell? ⟨w.heap.size + 1, 0, none⟩ = some (.int .u64 (g : Int)) := fun W h => (HH7.out.later h).c0
      have x6 : ∀ W, Below W7.heap.size W7 W → W.cell? ⟨w.heap.size + 1, 1, none⟩ = some (.int .i64 (b : Int)) := fun W h => (HH7.out.later h).c1
      clear hout
      go_upto_region 8 with fail
      refine wp_region_held_drew (S := fun W => Below W7.heap.size W7 W) (by kernel_rfl) (below_drewN (Below.refl _ _) 1) (fun hHeld => ?_)
      refine rg_in 0 rfl (by kernel_rfl) (by kernel_rfl) (by kernel_rfl) (by rfl) (v := ?_) (fun _ _ _ h => h) hHeld (fun w hSw => ?_) ?_
      rotate_left
      · (try dsimp only at hSw); go_simp <;> (with_reducible rfl)
      (try simp only [Act.put, List.setIfInBounds_toArray, List.set_cons_zero, List.set_cons_succ])
      refine rg_in 1 rfl (by kernel_rfl) (by kernel_rfl) (by kernel_rfl) (by rfl) (v := ?_) (fun _ _ _ h => h) hHeld (fun w hSw => ?_) ?_
      rotate_left
      · (try dsimp only at hSw); go_simp <;> (with_reducible rfl)
      (try simp only [Act.put, List.setIfInBounds_toArray, List.set_cons_zero, List.set_cons_succ])
      refine rg_in 3 rfl (by kernel_rfl) (by kernel_rfl) (by kernel_rfl) (by rfl) (v := ?_) (fun _ _ _ h => h) hHeld (fun w hSw => ?_) ?_
      rotate_left
      · (try dsimp only at hSw); go_simp <;> (with_reducible rfl)
      (try simp only [Act.put, List.setIfInBounds_toArray, List.set_cons_zero, List.set_cons_succ])
      refine wpAnyH_ready (rs := [2, 9]) (by kernel_rfl) (by simp) ?_
      refine rg_cons rfl (by rfl) (fun K hK => ?_) ?_
      · go_simp
        (go_at_call 21; (with_reducible refine (HcL.out _ hHeld).mono ?_); (rintro e w102 ⟨rfl, hb2⟩))
        refine hK.out _ _ (S_call hb2 hHeld rfl) (fun hHeld => ?_)
        clear hK K
        (try simp only [Act.put, List.setIfInBounds_toArray, List.set_cons_zero, List.set_cons_succ])
        refine wpAnyH_ready (rs := [4, 9]) (by kernel_rfl) (by simp) ?_
        refine rg_cons rfl (by rfl) (fun K hK => ?_) ?_
        · go_simp
          (go_at_call 20; (with_reducible refine (HcD.out _).mono ?_); (rintro e w104 ⟨p, rfl, hpl, hpo, hb4⟩))
          simp only [PcT.val]
          refine hK.out _ _ (S_call hb4 hHeld rfl) (fun hHeld => ?_)
          clear hK K
          (try simp only [Act.put, List.setIfInBounds_toArray, List.set_cons_zero, List.set_cons_succ])
          refine wpAnyH_ready (rs := [5, 9]) (by kernel_rfl) (by simp) ?_
          refine rg_cons rfl (by rfl) (fun K hK => ?_) ?_
          · have hap := HcP.out _ hHeld p hpo hpl
            go_simp
            (go_at_call 19; (with_reducible refine hap.mono ?_); (rintro e w105 ⟨Z, rfl, hZs, hZL, hb5, hZa⟩))
            simp only [FileT.agg, PcT.val]
            clear hap
            refine hK.out _ _ (S_call hb5 hHeld rfl) (fun hHeld => ?_)
            clear hK K
            (try simp only [Act.put, List.setIfInBounds_toArray, List.set_cons_zero, List.set_cons_succ])
            refine rg_in 6 rfl (by kernel_rfl) (by kernel_rfl) (by kernel_rfl) (by rfl) (v := ?_) (fun _ _ _ h => h) hHeld (fun w hSw => ?_) ?_
            rotate_left
            · (try dsimp only at hSw); go_simp <;> (with_reducible rfl)
            (try simp only [Act.put, List.setIfInBounds_toArray, List.set_cons_zero, List.set_cons_succ])
            refine rg_in 7 rfl (by kernel_rfl) (by kernel_rfl) (by kernel_rfl) (by rfl) (v := ?_) (fun _ _ _ h => h) hHeld (fun w hSw => ?_) ?_
            rotate_left
            · (try dsimp only at hSw); go_simp <;> (with_reducible rfl)
            (try simp only [Act.put, List.setIfInBounds_toArray, List.set_cons_zero, List.set_cons_succ])
            refine rg_in 8 rfl (by kernel_rfl) (by kernel_rfl) (by kernel_rfl) (by rfl) (v := ?_) (fun _ _ _ h => h) hHeld (fun w hSw => ?_) ?_
            rotate_left
            · (try dsimp only at hSw); go_simp <;> (with_reducible rfl)
            (try simp only [Act.put, List.setIfInBounds_toArray, List.set_cons_zero, List.set_cons_succ])
            refine rg_do 9 rfl (by kernel_rfl) (by rfl) (fun K hK => ?_)
            have hgw9 := hHeld.size
            refine step_alloc 37 rfl iF _ hiF hzF ?_
            intro g109 w109 hge9 hbox9 hb9
            refine hK.out _ _ (S_call hb9 hHeld rfl) (fun hHeld => ?_)
            clear hK K
            (try simp only [Act.put, List.setIfInBounds_toArray, List.set_cons_zero, List.set_cons_succ])
            refine rg_do 10 rfl (by kernel_rfl) (by rfl) (fun K hK => ?_)
            have hV9 := Lib.hid (FVar.later (fvar_blk hbox9) (Below.refl _ _))
            have hLZ := Lib.hid ((hZL.later hb9).more (Below.size hb9))
            have hAZ := Lib.hid (hZL.away hge9)
            have q0 := hV9.out.1.1
            have q1 := hV9.out.1.2.1
            have q2 := hV9.out.1.2.2.1
            have q3 := hV9.out.1.2.2.2.1
            have q4 := hV9.out.1.2.2.2.2
            have p0 := hV9.out.2.1
            have p1 := hV9.out.2.2.1
            have p2 := hV9.out.2.2.2.1
            have p3 := hV9.out.2.2.2.2.1
            have p4 := hV9.out.2.2.2.2.2
            go_simp
            clear q0 q1 q2 q3 q4 p0 p1 p2 p3 p4
            refine hK.out _ _ (fbelow_set5 hHeld (show W7.heap.size ≤ g109 from Nat.le_trans hgw9 hge9)) (fun hHeld => ?_)
            clear hK K
            (try simp only [Act.put, List.setIfInBounds_toArray, List.set_cons_zero, List.set_cons_succ])
            refine rg_in 11 rfl (by kernel_rfl) (by kernel_rfl) (by kernel_rfl) (by rfl) (v := ?_) (fun _ _ _ h => h) hHeld (fun w hSw => ?_) ?_
            rotate_left
            · (try dsimp only at hSw); go_simp <;> (with_reducible rfl)
            (try simp only [Act.put, List.setIfInBounds_toArray, List.set_cons_zero, List.set_cons_succ])
            refine wpAnyH_done (by kernel_rfl) ?_ _
            have hfz := FAt.set hV9.out hLZ.out hAZ.out
            unfold set5F at hfz
            have HZ8 := Lib.hid hfz
            have HB8 := Lib.hid hHeld
            clear hfz hHeld
            obtain ⟨W8, hW8⟩ : ∃ W, ((((w109.setCell ⟨g109, 0, none⟩ (.slice Z.F.A Z.F.n Z.F.c)).setCell ⟨g109, 1, none⟩ (.slice Z.lA Z.ln Z.lc)).setCell ⟨g109, 2, none⟩ (.int .i64 Z.fuse)).setCell ⟨g109, 3, none⟩ (.int .i64 Z.fault)).setCell ⟨g109, 4, none⟩ (.bool Z.off) = W := ⟨_, rfl⟩
            unfold set5F at HB8
            rw [hW8] at HZ8 HB8 ⊢
            clear hW8
            have HY8 := Lib.hid (HY7.out.later HB8.out)
            have hsm := refSame_any Y Z W8.heap.size W8 HY8.out.l HZ8.out.l (Nat.le_refl _)
            rw [hYs, hZs, same_it] at hsm
            simp only [FileT.agg, PcT.val] at hsm
            obtain ⟨⟨y0, y1, y2, y3, y4⟩, -⟩ := HY8.out.v
            obtain ⟨⟨z0, z1, z2, z3, z4⟩, -⟩ := HZ8.out.v
            clear x0 x1 x2 x3 x4 x5 x6
            go_wp2_with fail
            refine hsm.mono ?_
            rintro e W9 ⟨rfl, hb9⟩
            have hb20 := bel_next (bel_next HB7.out HB8.out) hb9
            clear hsm y0 y1 y2 y3 y4 z0 z1 z2 z3 z4
            go_wp2
            go_ret
            exact ⟨rfl, hb20⟩
          refine rg_cons rfl (by rfl) (fun K hK => ?_) ?_
          · have hgw9 := hHeld.size
            refine step_alloc 37 rfl iF _ hiF hzF ?_
            intro g109 w109 hge9 hbox9 hb9
            refine hK.out _ _ (S_call hb9 hHeld rfl) (fun hHeld => ?_)
            clear hK K
            (try simp only [Act.put, List.setIfInBounds_toArray, List.set_cons_zero, List.set_cons_succ])
            refine rg_do 5 rfl (by kernel_rfl) (by rfl) (fun K hK => ?_)
            have hap := HcP.out _ hHeld p ((hpo.later hb9).more (Below.size hb9)) hpl
            go_simp
            (go_at_call 19; (with_reducible refine hap.mono ?_); (rintro e w105 ⟨Z, rfl, hZs, hZL, hb5, hZa⟩))
            simp only [FileT.agg, PcT.val]
            clear hap
            refine hK.out _ _ (S_call hb5 hHeld rfl) (fun hHeld => ?_)
            clear hK K
            (try simp only [Act.put, List.setIfInBounds_toArray, List.set_cons_zero, List.set_cons_succ])
            refine rg_in 6 rfl (by kernel_rfl) (by kernel_rfl) (by kernel_rfl) (by rfl) (v := ?_) (fun _ _ _ h => h) hHeld (fun w hSw => ?_) ?_
            rotate_left
            · (try dsimp only at hSw); go_simp <;> (with_reducible rfl)
            (try simp only [Act.put, List.setIfInBounds_toArray, List.set_cons_zero, List.set_cons_succ])
            refine rg_in 7 rfl (by kernel_rfl) (by kernel_rfl) (by kernel_rfl) (by rfl) (v := ?_) (fun _ _ _ h => h) hHeld (fun w hSw => ?_) ?_
            rotate_left
            · (try dsimp only at hSw); go_simp <;> (with_reducible rfl)
            (try simp only [Act.put, List.setIfInBounds_toArray, List.set_cons_zero, List.set_cons_succ])
            refine rg_in 8 rfl (by kernel_rfl) (by kernel_rfl) (by kernel_rfl) (by rfl) (v := ?_) (fun _ _ _ h => h) hHeld (fun w hSw => ?_) ?_
            rotate_left
            · (try dsimp only at hSw); go_simp <;> (with_reducible rfl)
            (try simp only [Act.put, List.setIfInBounds_toArray, List.set_cons_zero, List.set_cons_succ])
            refine rg_do 10 rfl (by kernel_rfl) (by rfl) (fun K hK => ?_)
            have hV9 := Lib.hid (FVar.later (fvar_blk hbox9) hb5)
            have hLZ := Lib.hid hZL
            have hAZ := Lib.hid (hZa g109 (blk_lt hbox9) (HXL.out.away (Nat.le_trans hws (Nat.le_trans hgw9 hge9))) trivial)
            have q0 := hV9.out.1.1
            have q1 := hV9.out.1.2.1
            have q2 := hV9.out.1.2.2.1
            have q3 := hV9.out.1.2.2.2.1
            have q4 := hV9.out.1.2.2.2.2
            have p0 := hV9.out.2.1
            have p1 := hV9.out.2.2.1
            have p2 := hV9.out.2.2.2.1
            have p3 := hV9.out.2.2.2.2.1
            have p4 := hV9.out.2.2.2.2.2
            go_simp
            clear q0 q1 q2 q3 q4 p0 p1 p2 p3 p4
            refine hK.out _ _ (fbelow_set5 hHeld (show W7.heap.size ≤ g109 from Nat.le_trans hgw9 hge9)) (fun hHeld => ?_)
            clear hK K
            (try simp only [Act.put, List.setIfInBounds_toArray, List.set_cons_zero, List.set_cons_succ])
            refine rg_in 11 rfl (by kernel_rfl) (by kernel_rfl) (by kernel_rfl) (by rfl) (v := ?_) (fun _ _ _ h => h) hHeld (fun w hSw => ?_) ?_
            rotate_left
            · (try dsimp only at hSw); go_simp <;> (with_reducible rfl)
            (try simp only [Act.put, List.setIfInBounds_toArray, List.set_cons_zero, List.set_cons_succ])
            refine wpAnyH_done (by kernel_rfl) ?_ _
            have hfz := FAt.set hV9.out hLZ.out hAZ.out
            unfold set5F at hfz
            have HZ8 := Lib.hid hfz
            have HB8 := Lib.hid hHeld
            clear hfz hHeld
            obtain ⟨W8, hW8⟩ : ∃ W, ((((w105.setCell ⟨g109, 0, none⟩ (.slice Z.F.A Z.F.n Z.F.c)).setCell ⟨g109, 1, none⟩ (.slice Z.lA Z.ln Z.lc)).setCell ⟨g109, 2, none⟩ (.int .i64 Z.fuse)).setCell ⟨g109, 3, none⟩ (.int .i64 Z.fault)).setCell ⟨g109, 4, none⟩ (.bool Z.off) = W := ⟨_, rfl⟩
            unfold set5F at HB8
            rw [hW8] at HZ8 HB8 ⊢
            clear hW8
            have HY8 := Lib.hid (HY7.out.later HB8.out)
            have hsm := refSame_any Y Z W8.heap.size W8 HY8.out.l HZ8.out.l (Nat.le_refl _)
            rw [hYs, hZs, same_it] at hsm
            simp only [FileT.agg, PcT.val] at hsm
            obtain ⟨⟨y0, y1, y2, y3, y4⟩, -⟩ := HY8.out.v
            obtain ⟨⟨z0, z1, z2, z3, z4⟩, -⟩ := HZ8.out.v
            clear x0 x1 x2 x3 x4 x5 x6
            go_wp2_with fail
            refine hsm.mono ?_
            rintro e W9 ⟨rfl, hb9⟩
            have hb20 := bel_next (bel_next HB7.out HB8.out) hb9
            clear hsm y0 y1 y2 y3 y4 z0 z1 z2 z3 z4
            go_wp2
            go_ret
            exact ⟨rfl, hb20⟩
          exact AllReadyH.nil
        refine rg_cons rfl (by rfl) (fun K hK => ?_) ?_
        · have hgw9 := hHeld.size
          refine step_alloc 37 rfl iF _ hiF hzF ?_
          intro g109 w109 hge9 hbox9 hb9
          refine hK.out _ _ (S_call hb9 hHeld rfl) (fun hHeld => ?_)
          clear hK K
          (try simp only [Act.put, List.setIfInBounds_toArray, List.set_cons_zero, List.set_cons_succ])
          refine rg_do 4 rfl (by kernel_rfl) (by rfl) (fun K hK => ?_)
          go_simp
          (go_at_call 20; (with_reducible refine (HcD.out _).mono ?_); (rintro e w104 ⟨p, rfl, hpl, hpo, hb4⟩))
          simp only [PcT.val]
          refine hK.out _ _ (S_call hb4 hHeld rfl) (fun hHeld => ?_)
          clear hK K
          (try simp only [Act.put, List.setIfInBounds_toArray, List.set_cons_zero, List.set_cons_succ])
          refine rg_do 5 rfl (by kernel_rfl) (by rfl) (fun K hK => ?_)
          have hap := HcP.out _ hHeld p hpo hpl
          go_simp
          (go_at_call 19; (with_reducible refine hap.mono ?_); (rintro e w105 ⟨Z, rfl, hZs, hZL, hb5, hZa⟩))
          simp only [FileT.agg, PcT.val]
          clear hap
          refine hK.out _ _ (S_call hb5 hHeld rfl) (fun hHeld => ?_)
          clear hK K
          (try simp only [Act.put, List.setIfInBounds_toArray, List.set_cons_zero, List.set_cons_succ])
          refine rg_in 6 rfl (by kernel_rfl) (by kernel_rfl) (by kernel_rfl) (by rfl) (v := ?_) (fun _ _ _ h => h) hHeld (fun w hSw => ?_) ?_
          rotate_left
          · (try dsimp only at hSw); go_simp <;> (with_reducible rfl)
          (try simp only [Act.put, List.setIfInBounds_toArray, List.set_cons_zero, List.set_cons_succ])
          refine rg_in 7 rfl (by kernel_rfl) (by kernel_rfl) (by kernel_rfl) (by rfl) (v := ?_) (fun _ _ _ h => h) hHeld (fun w hSw => ?_) ?_
          rotate_left
          · (try dsimp only at hSw); go_simp <;> (with_reducible rfl)
          (try simp only [Act.put, List.setIfInBounds_toArray, List.set_cons_zero, List.set_cons_succ])
          refine rg_in 8 rfl (by kernel_rfl) (by kernel_rfl) (by kernel_rfl) (by rfl) (v := ?_) (fun _ _ _ h => h) hHeld (fun w hSw => ?_) ?_
          rotate_left
          · (try dsimp only at hSw); go_simp <;> (with_reducible rfl)
          (try simp only [Act.put, List.setIfInBounds_toArray, List.set_cons_zero, List.set_cons_succ])
          refine rg_do 10 rfl (by kernel_rfl) (by rfl) (fun K hK => ?_)
          have hV9 := Lib.hid (FVar.later (fvar_blk hbox9) (bel_next hb4 hb5))
          have hLZ := Lib.hid hZL
          have hAZ := Lib.hid (hZa g109 (Nat.lt_of_lt_of_le (blk_lt hbox9) (Below.size hb4)) (HXL.out.away (Nat.le_trans hws (Nat.le_trans hgw9 hge9))) trivial)
          have q0 := hV9.out.1.1
          have q1 := hV9.out.1.2.1
          have q2 := hV9.out.1.2.2.1
          have q3 := hV9.out.1.2.2.2.1
          have q4 := hV9.out.1.2.2.2.2
          have p0 := hV9.out.2.1
          have p1 := hV9.out.2.2.1
          have p2 := hV9.out.2.2.2.1
          have p3 := hV9.out.2.2.2.2.1
          have p4 := hV9.out.2.2.2.2.2
          go_simp
          clear q0 q1 q2 q3 q4 p0 p1 p2 p3 p4
          refine hK.out _ _ (fbelow_set5 hHeld (show W7.heap.size ≤ g109 from Nat.le_trans hgw9 hge9)) (fun hHeld => ?_)
          clear hK K
          (try simp only [Act.put, List.setIfInBounds_toArray, List.set_cons_zero, List.set_cons_succ])
          refine rg_in 11 rfl (by kernel_rfl) (by kernel_rfl) (by kernel_rfl) (by rfl) (v := ?_) (fun _ _ _ h => h) hHeld (fun w hSw => ?_) ?_
          rotate_left
          · (try dsimp only at hSw); go_simp <;> (with_reducible rfl)
          (try simp only [Act.put, List.setIfInBounds_toArray, List.set_cons_zero, List.set_cons_succ])
          refine wpAnyH_done (by kernel_rfl) ?_ _
          have hfz := FAt.set hV9.out hLZ.out hAZ.out
          unfold set5F at hfz
          have HZ8 := Lib.hid hfz
          have HB8 := Lib.hid hHeld
          clear hfz hHeld
          obtain ⟨W8, hW8⟩ : ∃ W, ((((w105.setCell ⟨g109, 0, none⟩ (.slice Z.F.A Z.F.n Z.F.c)).setCell ⟨g109, 1, none⟩ (.slice Z.lA Z.ln Z.lc)).setCell ⟨g109, 2, none⟩ (.int .i64 Z.fuse)).setCell ⟨g109, 3, none⟩ (.int .i64 Z.fault)).setCell ⟨g109, 4, none⟩ (.bool Z.off) = W := ⟨_, rfl⟩
          unfold set5F at HB8
          rw [hW8] at HZ8 HB8 ⊢
          clear hW8
          have HY8 := Lib.hid (HY7.out.later HB8.out)
          have hsm := refSame_any Y Z W8.heap.size W8 HY8.out.l HZ8.out.l (Nat.le_refl _)
          rw [hYs, hZs, same_it] at hsm
          simp only [FileT.agg, PcT.val] at hsm
          obtain ⟨⟨y0, y1, y2, y3, y4⟩, -⟩ := HY8.out.v
          obtain ⟨⟨z0, z1, z2, z3, z4⟩, -⟩ := HZ8.out.v
          clear x0 x1 x2 x3 x4 x5 x6
          go_wp2_with fail
          refine hsm.mono ?_
          rintro e W9 ⟨rfl, hb9⟩
          have hb20 := bel_next (bel_next HB7.out HB8.out) hb9
          clear hsm y0 y1 y2 y3 y4 z0 z1 z2 z3 z4
          go_wp2
          go_ret
          exact ⟨rfl, hb20⟩
        exact AllReadyH.nil
      refine rg_cons rfl (by rfl) (fun K hK => ?_) ?_
      · have hgw9 := hHeld.size
        refine step_alloc 37 rfl iF _ hiF hzF ?_
        intro g109 w109 hge9 hbox9 hb9
        refine hK.out _ _ (S_call hb9 hHeld rfl) (fun hHeld => ?_)
        clear hK K
        (try simp only [Act.put, List.setIfInBounds_toArray, List.set_cons_zero, List.set_cons_succ])
        refine rg_do 2 rfl (by kernel_rfl) (by rfl) (fun K hK => ?_)
        go_simp
        (go_at_call 21; (with_reducible refine (HcL.out _ hHeld).mono ?_); (rintro e w102 ⟨rfl, hb2⟩))
        refine hK.out _ _ (S_call hb2 hHeld rfl) (fun hHeld => ?_)
        clear hK K
        (try simp only [Act.put, List.setIfInBounds_toArray, List.set_cons_zero, List.set_cons_succ])
        refine rg_do 4 rfl (by kernel_rfl) (by rfl) (fun K hK => ?_)
        go_simp
        (go_at_call 20; (with_reducible refine (HcD.out _).mono ?_); (rintro e w104 ⟨p, rfl, hpl, hpo, hb4⟩))
        simp only [PcT.val]
        refine hK.out _ _ (S_call hb4 hHeld rfl) (fun hHeld => ?_)
        clear hK K
        (try simp only [Act.put, List.setIfInBounds_toArray, List.set_cons_zero, List.set_cons_succ])
        refine rg_do 5 rfl (by kernel_rfl) (by rfl) (fun K hK => ?_)
        have hap := HcP.out _ hHeld p hpo hpl
        go_simp
        (go_at_call 19; (with_reducible refine hap.mono ?_); (rintro e w105 ⟨Z, rfl, hZs, hZL, hb5, hZa⟩))
        simp only [FileT.agg, PcT.val]
        clear hap
        refine hK.out _ _ (S_call hb5 hHeld rfl) (fun hHeld => ?_)
        clear hK K
        (try simp only [Act.put, List.setIfInBounds_toArray, List.set_cons_zero, List.set_cons_succ])
        refine rg_in 6 rfl (by kernel_rfl) (by kernel_rfl) (by kernel_rfl) (by rfl) (v := ?_) (fun _ _ _ h => h) hHeld (fun w hSw => ?_) ?_
        rotate_left
        · (try dsimp only at hSw); go_simp <;> (with_reducible rfl)
        (try simp only [Act.put, List.setIfInBounds_toArray, List.set_cons_zero, List.set_cons_succ])
        refine rg_in 7 rfl (by kernel_rfl) (by kernel_rfl) (by kernel_rfl) (by rfl) (v := ?_) (fun _ _ _ h => h) hHeld (fun w hSw => ?_) ?_
        rotate_left
        · (try dsimp only at hSw); go_simp <;> (with_reducible rfl)
        (try simp only [Act.put, List.setIfInBounds_toArray, List.set_cons_zero, List.set_cons_succ])
        refine rg_in 8 rfl (by kernel_rfl) (by kernel_rfl) (by kernel_rfl) (by rfl) (v := ?_) (fun _ _ _ h => h) hHeld (fun w hSw => ?_) ?_
        rotate_left
        · (try dsimp only at hSw); go_simp <;> (with_reducible rfl)
        (try simp only [Act.put, List.setIfInBounds_toArray, List.set_cons_zero, List.set_cons_succ])
        refine rg_do 10 rfl (by kernel_rfl) (by rfl) (fun K hK => ?_)
        have hV9 := Lib.hid (FVar.later (fvar_blk hbox9) (bel_next (bel_next hb2 hb4) hb5))
        have hLZ := Lib.hid hZL
        have hAZ := Lib.hid (hZa g109 (Nat.lt_of_lt_of_le (Nat.lt_of_lt_of_le (blk_lt hbox9) (Below.size hb2)) (Below.size hb4)) (HXL.out.away (Nat.le_trans hws (Nat.le_trans hgw9 hge9))) trivial)
        have q0 := hV9.out.1.1
        have q1 := hV9.out.1.2.1
        have q2 := hV9.out.1.2.2.1
        have q3 := hV9.out.1.2.2.2.1
        have q4 := hV9.out.1.2.2.2.2
        have p0 := hV9.out.2.1
        have p1 := hV9.out.2.2.1
        have p2 := hV9.out.2.2.2.1
        have p3 := hV9.out.2.2.2.2.1
        have p4 := hV9.out.2.2.2.2.2
        go_simp
        clear q0 q1 q2 q3 q4 p0 p1 p2 p3 p4
        refine hK.out _ _ (fbelow_set5 hHeld (show W7.heap.size ≤ g109 from Nat.le_trans hgw9 hge9)) (fun hHeld => ?_)
        clear hK K
        (try simp only [Act.put, List.setIfInBounds_toArray, List.set_cons_zero, List.set_cons_succ])
        refine rg_in 11 rfl (by kernel_rfl) (by kernel_rfl) (by kernel_rfl) (by rfl) (v := ?_) (fun _ _ _ h => h) hHeld (fun w hSw => ?_) ?_
        rotate_left
        · (try dsimp only at hSw); go_simp <;> (with_reducible rfl)
        (try simp only [Act.put, List.setIfInBounds_toArray, List.set_cons_zero, List.set_cons_succ])
        refine wpAnyH_done (by kernel_rfl) ?_ _
        have hfz := FAt.set hV9.out hLZ.out hAZ.out
        unfold set5F at hfz
        have HZ8 := Lib.hid hfz
        have HB8 := Lib.hid hHeld
        clear hfz hHeld
        obtain ⟨W8, hW8⟩ : ∃ W, ((((w105.setCell ⟨g109, 0, none⟩ (.slice Z.F.A Z.F.n Z.F.c)).setCell ⟨g109, 1, none⟩ (.slice Z.lA Z.ln Z.lc)).setCell ⟨g109, 2, none⟩ (.int .i64 Z.fuse)).setCell ⟨g109, 3, none⟩ (.int .i64 Z.fault)).setCell ⟨g109, 4, none⟩ (.bool Z.off) = W := ⟨_, rfl⟩
        unfold set5F at HB8
        rw [hW8] at HZ8 HB8 ⊢
        clear hW8
        have HY8 := Lib.hid (HY7.out.later HB8.out)
        have hsm := refSame_any Y Z W8.heap.size W8 HY8.out.l HZ8.out.l (Nat.le_refl _)
        rw [hYs, hZs, same_it] at hsm
        simp only [FileT.agg, PcT.val] at hsm
        obtain ⟨⟨y0, y1, y2, y3, y4⟩, -⟩ := HY8.out.v
        obtain ⟨⟨z0, z1, z2, z3, z4⟩, -⟩ := HZ8.out.v
        clear x0 x1 x2 x3 x4 x5 x6
        go_wp2_with fail
        refine hsm.mono ?_
        rintro e W9 ⟨rfl, hb9⟩
        have hb20 := bel_next (bel_next HB7.out HB8.out) hb9
        clear hsm y0 y1 y2 y3 y4 z0 z1 z2 z3 z4
        go_wp2
        go_ret
        exact ⟨rfl, hb20⟩
      exact AllReadyH.nil
end Go.Proofs.YtlknmpnjhbdlhaaDoor
