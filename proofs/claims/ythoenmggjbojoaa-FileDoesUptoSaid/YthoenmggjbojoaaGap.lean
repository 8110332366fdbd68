import Derived.Test.YthoenmggjbojoaaGao
import Derived.Test.YthoenmggjbojoaaGab
import Derived.BigRegion
import Derived.Deep.CutBlock
/-
  Layer 10, the law FileDoes: the walk.
-/
namespace Go.Proofs.Ythoenmggjbojoaa
open Go.RowKit
set_option linter.unusedVariables false

set_option maxRecDepth 100000 in
set_option maxHeartbeats 16000000 in
theorem fileDoes_walk (w : World) (X0 : FileT) (hX0 : LieF w w.heap.size X0) (hN0 : ∀ p ∈ X0.Q, p.n ≤ 1048576) (hln0 : X0.ln ≤ 1048576) (a : Option Addr) (len cap : Nat) (l : List DeedT) (N : Nat) (hD : Deeds w w.heap.size a len l) (hX : ∀ x ∈ l, x.Ok w w.heap.size N) (hfit : len ≤ cap) (hmost : cap ≤ maxLen) (hN6 : N ≤ 1048576) :
    Calls Try.prog 3 #[X0.agg, .slice a len cap] w fun e w' => e = .returned (.bool true) ∧ Below w.heap.size w w' := by
  have hb0 := bel_alloc (Below.refl w.heap.size w) (.cells #[.slice X0.F.A X0.F.n X0.F.c, .slice X0.lA X0.ln X0.lc, .int .i64 X0.fuse, .int .i64 X0.fault, .bool X0.off] 25)
  have HB0 := Lib.hid (FBox.new w X0 25)
  have HX00 := Lib.hid hX0
  have HX0 := Lib.hid (fun W (h : Below w.heap.size w W) => (hX0.later h).more h.size)
  have hSn := Lib.hid (fun W => refSame_any newF newF _ W (newF_lies W) (newF_lies W) (Nat.le_refl _))
  simp only [sameS_self] at hSn
  simp only [newF, FileT.agg, PcT.val] at hSn ⊢
  go_enter Try.func3, Try.ntmps3
  go_wp2_with fail
  generalize w.alloc (.cells #[.slice X0.F.A X0.F.n X0.F.c, .slice X0.lA X0.ln X0.lc, .int .i64 X0.fuse, .int .i64 X0.fault, .bool X0.off] 25) = W0 at *
  refine (lwakes_any _).mono ?_
  rintro e W1 ⟨rfl, hb1⟩
  have HB1 := Lib.hid (HB0.out.later hb1)
  go_wp2_with fail
  refine (newF_any _).mono ?_
  rintro e W2 ⟨rfl, hb2⟩
  have hb3 := bel_next (bel_next hb0 hb1) hb2
  have hb4 := bel_alloc hb3 (.cells #[.slice none 0 0, .slice none 0 0, .int .i64 (-1), .int .i64 (-1), .bool false] 25)
  have HB2 := Lib.hid (HB1.out.later (bel_alloc hb2 (.cells #[.slice none 0 0, .slice none 0 0, .int .i64 (-1), .int .i64 (-1), .bool false] 25)))
  clear hb0 hb1 hb2 hb3 HB0 HB1
  go_wp2_with fail
  generalize W2.alloc (.cells #[.slice none 0 0, .slice none 0 0, .int .i64 (-1), .int .i64 (-1), .bool false] 25) = W3 at *
  generalize W2.heap.size = g5 at *
  refine (hSn.out _).mono ?_
  rintro e Wb ⟨rfl, hb5⟩
  have HB3 := Lib.hid (HB2.out.later hb5)
  have hbb := bel_next hb4 hb5
  clear hb4 hb5 HB2 hSn
  have HcO := Lib.hid (fun W (h : Below Wb.heap.size Wb W) => own_any X0 w.heap.size W (hX0.later (hbb.trans (h.mono hbb.size))) (Nat.le_trans hbb.size h.size) hN0 hln0)
  simp only [FileT.agg, PcT.val] at HcO
  obtain ⟨iF, hiF, hzF⟩ := file_info
  have HS0 := Lib.hid (show Short X0 from ⟨hN0, hln0⟩)
  have x0 : ∀ W, Below Wb.heap.size Wb W → W.cell? ⟨w.heap.size, 0, none⟩ = some (.slice X0.F.A X0.F.n X0.F.c) := fun W h => (HB3.out.later h).1
  have x1 : ∀ W, Below Wb.heap.size Wb W → W.cell? ⟨w.heap.size, 1, none⟩ = some (.slice X0.lA X0.ln X0.lc) := fun W h => (HB3.out.later h).2.1
  have x2 : ∀ W, Below Wb.heap.size Wb W → W.cell? ⟨w.heap.size, 2, none⟩ = some (.int .i64 X0.fuse) := fun W h => (HB3.out.later h).2.2.1
  have x3 : ∀ W, Below Wb.heap.size Wb W → W.cell? ⟨w.heap.size, 3, none⟩ = some (.int .i64 X0.fault) := fun W h => (HB3.out.later h).2.2.2.1
  have x4 : ∀ W, Below Wb.heap.size Wb W → W.cell? ⟨w.heap.size, 4, none⟩ = some (.bool X0.off) := fun W h => (HB3.out.later h).2.2.2.2
  clear hX0 hN0 hln0
  go_upto_region 6 with fail
  go_cut [6, 7] (fun s6 s7 wx => ∃ (g6 g7 : Nat) (Y : FileT), s6 = .pointer (some ⟨g6, 0, none⟩) ∧ s7 = .pointer (some ⟨g7, 0, none⟩) ∧ Hid (FAt wx g6 X0) ∧ Hid (FAt wx g7 Y) ∧ Y.s = X0.s ∧ g6 ≠ g7 ∧ w.heap.size ≤ g6 ∧ w.heap.size ≤ g7 ∧ Below w.heap.size w wx ∧ g6 < wx.heap.size ∧ g7 < wx.heap.size ∧ Hid (AwayF X0 g7 ∧ AwayF Y g6) ∧ Hid (Short Y))
  case first =>
    refine wp_region_held_drew (S := fun W => Below Wb.heap.size Wb W) (by kernel_rfl) (below_drewN (Below.refl _ _) 1) (fun hHeld => ?_)
    refine rg_in 0 rfl (by kernel_rfl) (by kernel_rfl) (by kernel_rfl) (by rfl) (v := ?_) (fun _ _ _ h => h) hHeld (fun w hSw => ?_) ?_
    rotate_left
    · (try dsimp only at hSw); go_simp <;> (with_reducible rfl)
    (try simp only [Act.put, List.setIfInBounds_toArray, List.set_cons_zero, List.set_cons_succ])
    refine rg_in 1 rfl (by kernel_rfl) (by kernel_rfl) (by kernel_rfl) (by rfl) (v := ?_) (fun _ _ _ h => h) hHeld (fun w hSw => ?_) ?_
    rotate_left
    · (try dsimp only at hSw); go_simp <;> (with_reducible rfl)
    (try simp only [Act.put, List.setIfInBounds_toArray, List.set_cons_zero, List.set_cons_succ])
    refine wpAnyH_ready (rs := [2, 3, 4]) (by kernel_rfl) (by simp) ?_
    refine rg_cons rfl (by rfl) (fun K hK => ?_) ?_
    · go_simp
      (go_at_call 12; (with_reducible refine (HcO.out _ hHeld).mono ?_); (rintro e w102 ⟨Y, rfl, hYs, hYL, hb2, hYa, hYN, hYn⟩))
      refine hK.out _ _ (S_call hb2 hHeld rfl) (fun hHeld => ?_)
      clear hK K
      (try simp only [Act.put, List.setIfInBounds_toArray, List.set_cons_zero, List.set_cons_succ])
      refine wpAnyH_ready (rs := [3, 4]) (by kernel_rfl) (by simp) ?_
      refine rg_cons rfl (by rfl) (fun K hK => ?_) ?_
      · have hgw3 := hHeld.size
        refine step_alloc 25 rfl iF _ hiF hzF ?_
        intro g103 w103 hge3 hbox3 hb3
        refine hK.out _ _ (S_call hb3 hHeld rfl) (fun hHeld => ?_)
        clear hK K
        (try simp only [Act.put, List.setIfInBounds_toArray, List.set_cons_zero, List.set_cons_succ])
        refine rg_do 4 rfl (by kernel_rfl) (by rfl) (fun K hK => ?_)
        have hgw4 := hHeld.size
        refine step_alloc 25 rfl iF _ hiF hzF ?_
        intro g104 w104 hge4 hbox4 hb4
        refine hK.out _ _ (S_call hb4 hHeld rfl) (fun hHeld => ?_)
        clear hK K
        (try simp only [Act.put, List.setIfInBounds_toArray, List.set_cons_zero, List.set_cons_succ])
        refine rg_do 5 rfl (by kernel_rfl) (by rfl) (fun K hK => ?_)
        have hV3 := Lib.hid (FVar.later (fvar_blk hbox3) hb4)
        have hV4 := Lib.hid (FVar.later (fvar_blk hbox4) (Below.refl _ _))
        have hLY := Lib.hid ((hYL.later (bel_next hb3 hb4)).more (Below.size (bel_next hb3 hb4)))
        have hHb := Lib.hid hHeld
        have q0 := hV3.out.1.1
        have q1 := hV3.out.1.2.1
        have q2 := hV3.out.1.2.2.1
        have q3 := hV3.out.1.2.2.2.1
        have q4 := hV3.out.1.2.2.2.2
        have p0 := hV3.out.2.1
        have p1 := hV3.out.2.2.1
        have p2 := hV3.out.2.2.2.1
        have p3 := hV3.out.2.2.2.2.1
        have p4 := hV3.out.2.2.2.2.2
        go_simp
        clear q0 q1 q2 q3 q4 p0 p1 p2 p3 p4
        refine hK.out _ _ (fbelow_set5 hHeld (show Wb.heap.size ≤ g103 by (have := hge3; omega))) (fun hHeld => ?_)
        clear hK K
        (try simp only [Act.put, List.setIfInBounds_toArray, List.set_cons_zero, List.set_cons_succ])
        refine rg_do 6 rfl (by kernel_rfl) (by rfl) (fun K hK => ?_)
        have hV6 := Lib.hid (FVar.other5 (a' := .slice X0.F.A X0.F.n X0.F.c) (b' := .slice X0.lA X0.ln X0.lc) (c' := .int .i64 X0.fuse) (d' := .int .i64 X0.fault) (e' := .bool X0.off) (show g104 ≠ g103 by (have z2 := hb2.size; have z3 := hb3.size; have z4 := hb4.size; have l3 := blk_lt hbox3; have l4 := blk_lt hbox4; omega)) hV4.out)
        have q0 := hV6.out.1.1
        have q1 := hV6.out.1.2.1
        have q2 := hV6.out.1.2.2.1
        have q3 := hV6.out.1.2.2.2.1
        have q4 := hV6.out.1.2.2.2.2
        have p0 := hV6.out.2.1
        have p1 := hV6.out.2.2.1
        have p2 := hV6.out.2.2.2.1
        have p3 := hV6.out.2.2.2.2.1
        have p4 := hV6.out.2.2.2.2.2
        unfold set5F at q0 q1 q2 q3 q4 p0 p1 p2 p3 p4
        go_simp
        clear q0 q1 q2 q3 q4 p0 p1 p2 p3 p4
        refine hK.out _ _ (fbelow_set5 hHeld (show Wb.heap.size ≤ g104 by (have := hge4; omega))) (fun hHeld => ?_)
        clear hK K
        (try simp only [Act.put, List.setIfInBounds_toArray, List.set_cons_zero, List.set_cons_succ])
        refine wpAnyH_done (by kernel_rfl) ?_ _
        have ay3 : AwayF Y g103 := by have z2 := hb2.size; have z3 := hb3.size; have z4 := hb4.size; have l3 := blk_lt hbox3; have l4 := blk_lt hbox4; first | exact hYa _ (by omega) | exact hYL.away (by omega)
        have ay4 : AwayF Y g104 := by have z2 := hb2.size; have z3 := hb3.size; have z4 := hb4.size; have l3 := blk_lt hbox3; have l4 := blk_lt hbox4; first | exact hYa _ (by omega) | exact hYL.away (by omega)
        have hg3 : w.heap.size ≤ g103 := by have := hbb.size; omega
        have hg4 : w.heap.size ≤ g104 := by have := hbb.size; omega
        have hne : g103 ≠ g104 := by have z2 := hb2.size; have z3 := hb3.size; have z4 := hb4.size; have l3 := blk_lt hbox3; have l4 := blk_lt hbox4; omega
        have htd := two_done' (w := w) (Y := X0) (Z := Y) hV3.out hV4.out ((HX0.out _ (hbb.trans (hHb.out.mono hbb.size)))) hLY.out (HX00.out.away hg3) (HX00.out.away hg4) ay3 ay4 hne (hbb.trans (hHb.out.mono hbb.size)) hg3 hg4 (by have z2 := hb2.size; have z3 := hb3.size; have z4 := hb4.size; have l3 := blk_lt hbox3; have l4 := blk_lt hbox4; omega) (by have z2 := hb2.size; have z3 := hb3.size; have z4 := hb4.size; have l3 := blk_lt hbox3; have l4 := blk_lt hbox4; omega)
        have h1 := htd.1
        have h2 := htd.2.1
        have h3 := htd.2.2.1
        have h4 := htd.2.2.2.1
        have h5 := htd.2.2.2.2
        clear htd
        unfold set5F at h1 h2 h3 h4 h5
        clear hHeld
        go_wp2
        go_meet
        case rel => exact ⟨g103, g104, Y, rfl, rfl, Lib.hid h1, Lib.hid h2, hYs, hne, hg3, hg4, h3, h4, h5, Lib.hid (And.intro (HX00.out.away hg4) ay3), Lib.hid ⟨hYN, hYn⟩⟩
      refine rg_cons rfl (by rfl) (fun K hK => ?_) ?_
      · have hgw4 := hHeld.size
        refine step_alloc 25 rfl iF _ hiF hzF ?_
        intro g104 w104 hge4 hbox4 hb4
        refine hK.out _ _ (S_call hb4 hHeld rfl) (fun hHeld => ?_)
        clear hK K
        (try simp only [Act.put, List.setIfInBounds_toArray, List.set_cons_zero, List.set_cons_succ])
        refine rg_do 3 rfl (by kernel_rfl) (by rfl) (fun K hK => ?_)
        have hgw3 := hHeld.size
        refine step_alloc 25 rfl iF _ hiF hzF ?_
        intro g103 w103 hge3 hbox3 hb3
        refine hK.out _ _ (S_call hb3 hHeld rfl) (fun hHeld => ?_)
        clear hK K
        (try simp only [Act.put, List.setIfInBounds_toArray, List.set_cons_zero, List.set_cons_succ])
        refine rg_do 5 rfl (by kernel_rfl) (by rfl) (fun K hK => ?_)
        have hV3 := Lib.hid (FVar.later (fvar_blk hbox3) (Below.refl _ _))
        have hV4 := Lib.hid (FVar.later (fvar_blk hbox4) hb3)
        have hLY := Lib.hid ((hYL.later (bel_next hb4 hb3)).more (Below.size (bel_next hb4 hb3)))
        have hHb := Lib.hid hHeld
        have q0 := hV3.out.1.1
        have q1 := hV3.out.1.2.1
        have q2 := hV3.out.1.2.2.1
        have q3 := hV3.out.1.2.2.2.1
        have q4 := hV3.out.1.2.2.2.2
        have p0 := hV3.out.2.1
        have p1 := hV3.out.2.2.1
        have p2 := hV3.out.2.2.2.1
        have p3 := hV3.out.2.2.2.2.1
        have p4 := hV3.out.2.2.2.2.2
        go_simp
        clear q0 q1 q2 q3 q4 p0 p1 p2 p3 p4
        refine hK.out _ _ (fbelow_set5 hHeld (show Wb.heap.size ≤ g103 by (have := hge3; omega))) (fun hHeld => ?_)
        clear hK K
        (try simp only [Act.put, List.setIfInBounds_toArray, List.set_cons_zero, List.set_cons_succ])
        refine rg_do 6 rfl (by kernel_rfl) (by rfl) (fun K hK => ?_)
        have hV6 := Lib.hid (FVar.other5 (a' := .slice X0.F.A X0.F.n X0.F.c) (b' := .slice X0.lA X0.ln X0.lc) (c' := .int .i64 X0.fuse) (d' := .int .i64 X0.fault) (e' := .bool X0.off) (show g104 ≠ g103 by (have z2 := hb2.size; have z3 := hb3.size; have z4 := hb4.size; have l3 := blk_lt hbox3; have l4 := blk_lt hbox4; omega)) hV4.out)
        have q0 := hV6.out.1.1
        have q1 := hV6.out.1.2.1
        have q2 := hV6.out.1.2.2.1
        have q3 := hV6.out.1.2.2.2.1
        have q4 := hV6.out.1.2.2.2.2
        have p0 := hV6.out.2.1
        have p1 := hV6.out.2.2.1
        have p2 := hV6.out.2.2.2.1
        have p3 := hV6.out.2.2.2.2.1
        have p4 := hV6.out.2.2.2.2.2
        unfold set5F at q0 q1 q2 q3 q4 p0 p1 p2 p3 p4
        go_simp
        clear q0 q1 q2 q3 q4 p0 p1 p2 p3 p4
        refine hK.out _ _ (fbelow_set5 hHeld (show Wb.heap.size ≤ g104 by (have := hge4; omega))) (fun hHeld => ?_)
        clear hK K
        (try simp only [Act.put, List.setIfInBounds_toArray, List.set_cons_zero, List.set_cons_succ])
        refine wpAnyH_done (by kernel_rfl) ?_ _
        have ay3 : AwayF Y g103 := by have z2 := hb2.size; have z3 := hb3.size; have z4 := hb4.size; have l3 := blk_lt hbox3; have l4 := blk_lt hbox4; first | exact hYa _ (by omega) | exact hYL.away (by omega)
        have ay4 : AwayF Y g104 := by have z2 := hb2.size; have z3 := hb3.size; have z4 := hb4.size; have l3 := blk_lt hbox3; have l4 := blk_lt hbox4; first | exact hYa _ (by omega) | exact hYL.away (by omega)
        have hg3 : w.heap.size ≤ g103 := by have := hbb.size; omega
        have hg4 : w.heap.size ≤ g104 := by have := hbb.size; omega
        have hne : g103 ≠ g104 := by have z2 := hb2.size; have z3 := hb3.size; have z4 := hb4.size; have l3 := blk_lt hbox3; have l4 := blk_lt hbox4; omega
        have htd := two_done' (w := w) (Y := X0) (Z := Y) hV3.out hV4.out ((HX0.out _ (hbb.trans (hHb.out.mono hbb.size)))) hLY.out (HX00.out.away hg3) (HX00.out.away hg4) ay3 ay4 hne (hbb.trans (hHb.out.mono hbb.size)) hg3 hg4 (by have z2 := hb2.size; have z3 := hb3.size; have z4 := hb4.size; have l3 := blk_lt hbox3; have l4 := blk_lt hbox4; omega) (by have z2 := hb2.size; have z3 := hb3.size; have z4 := hb4.size; have l3 := blk_lt hbox3; have l4 := blk_lt hbox4; omega)
        have h1 := htd.1
        have h2 := htd.2.1
        have h3 := htd.2.2.1
        have h4 := htd.2.2.2.1
        have h5 := htd.2.2.2.2
        clear htd
        unfold set5F at h1 h2 h3 h4 h5
        clear hHeld
        go_wp2
        go_meet
        case rel => exact ⟨g103, g104, Y, rfl, rfl, Lib.hid h1, Lib.hid h2, hYs, hne, hg3, hg4, h3, h4, h5, Lib.hid (And.intro (HX00.out.away hg4) ay3), Lib.hid ⟨hYN, hYn⟩⟩
      exact AllReadyH.nil
    refine rg_cons rfl (by rfl) (fun K hK => ?_) ?_
    · have hgw3 := hHeld.size
      refine step_alloc 25 rfl iF _ hiF hzF ?_
      intro g103 w103 hge3 hbox3 hb3
      refine hK.out _ _ (S_call hb3 hHeld rfl) (fun hHeld => ?_)
      clear hK K
      (try simp only [Act.put, List.setIfInBounds_toArray, List.set_cons_zero, List.set_cons_succ])
      refine wpAnyH_ready (rs := [2, 4]) (by kernel_rfl) (by simp) ?_
      refine rg_cons rfl (by rfl) (fun K hK => ?_) ?_
      · go_simp
        (go_at_call 12; (with_reducible refine (HcO.out _ hHeld).mono ?_); (rintro e w102 ⟨Y, rfl, hYs, hYL, hb2, hYa, hYN, hYn⟩))
        refine hK.out _ _ (S_call hb2 hHeld rfl) (fun hHeld => ?_)
        clear hK K
        (try simp only [Act.put, List.setIfInBounds_toArray, List.set_cons_zero, List.set_cons_succ])
        refine rg_do 4 rfl (by kernel_rfl) (by rfl) (fun K hK => ?_)
        have hgw4 := hHeld.size
        refine step_alloc 25 rfl iF _ hiF hzF ?_
        intro g104 w104 hge4 hbox4 hb4
        refine hK.out _ _ (S_call hb4 hHeld rfl) (fun hHeld => ?_)
        clear hK K
        (try simp only [Act.put, List.setIfInBounds_toArray, List.set_cons_zero, List.set_cons_succ])
        refine rg_do 5 rfl (by kernel_rfl) (by rfl) (fun K hK => ?_)
        have hV3 := Lib.hid (FVar.later (fvar_blk hbox3) (bel_next hb2 hb4))
        have hV4 := Lib.hid (FVar.later (fvar_blk hbox4) (Below.refl _ _))
        have hLY := Lib.hid ((hYL.later hb4).more (Below.size hb4))
        have hHb := Lib.hid hHeld
        have q0 := hV3.out.1.1
        have q1 := hV3.out.1.2.1
        have q2 := hV3.out.1.2.2.1
        have q3 := hV3.out.1.2.2.2.1
        have q4 := hV3.out.1.2.2.2.2
        have p0 := hV3.out.2.1
        have p1 := hV3.out.2.2.1
        have p2 := hV3.out.2.2.2.1
        have p3 := hV3.out.2.2.2.2.1
        have p4 := hV3.out.2.2.2.2.2
        go_simp
        clear q0 q1 q2 q3 q4 p0 p1 p2 p3 p4
        refine hK.out _ _ (fbelow_set5 hHeld (show Wb.heap.size ≤ g103 by (have := hge3; omega))) (fun hHeld => ?_)
        clear hK K
        (try simp only [Act.put, List.setIfInBounds_toArray, List.set_cons_zero, List.set_cons_succ])
        refine rg_do 6 rfl (by kernel_rfl) (by rfl) (fun K hK => ?_)
        have hV6 := Lib.hid (FVar.other5 (a' := .slice X0.F.A X0.F.n X0.F.c) (b' := .slice X0.lA X0.ln X0.lc) (c' := .int .i64 X0.fuse) (d' := .int .i64 X0.fault) (e' := .bool X0.off) (show g104 ≠ g103 by (have z2 := hb2.size; have z3 := hb3.size; have z4 := hb4.size; have l3 := blk_lt hbox3; have l4 := blk_lt hbox4; omega)) hV4.out)
        have q0 := hV6.out.1.1
        have q1 := hV6.out.1.2.1
        have q2 := hV6.out.1.2.2.1
        have q3 := hV6.out.1.2.2.2.1
        have q4 := hV6.out.1.2.2.2.2
        have p0 := hV6.out.2.1
        have p1 := hV6.out.2.2.1
        have p2 := hV6.out.2.2.2.1
        have p3 := hV6.out.2.2.2.2.1
        have p4 := hV6.out.2.2.2.2.2
        unfold set5F at q0 q1 q2 q3 q4 p0 p1 p2 p3 p4
        go_simp
        clear q0 q1 q2 q3 q4 p0 p1 p2 p3 p4
        refine hK.out _ _ (fbelow_set5 hHeld (show Wb.heap.size ≤ g104 by (have := hge4; omega))) (fun hHeld => ?_)
        clear hK K
        (try simp only [Act.put, List.setIfInBounds_toArray, List.set_cons_zero, List.set_cons_succ])
        refine wpAnyH_done (by kernel_rfl) ?_ _
        have ay3 : AwayF Y g103 := by have z2 := hb2.size; have z3 := hb3.size; have z4 := hb4.size; have l3 := blk_lt hbox3; have l4 := blk_lt hbox4; first | exact hYa _ (by omega) | exact hYL.away (by omega)
        have ay4 : AwayF Y g104 := by have z2 := hb2.size; have z3 := hb3.size; have z4 := hb4.size; have l3 := blk_lt hbox3; have l4 := blk_lt hbox4; first | exact hYa _ (by omega) | exact hYL.away (by omega)
        have hg3 : w.heap.size ≤ g103 := by have := hbb.size; omega
        have hg4 : w.heap.size ≤ g104 := by have := hbb.size; omega
        have hne : g103 ≠ g104 := by have z2 := hb2.size; have z3 := hb3.size; have z4 := hb4.size; have l3 := blk_lt hbox3; have l4 := blk_lt hbox4; omega
        have htd := two_done' (w := w) (Y := X0) (Z := Y) hV3.out hV4.out ((HX0.out _ (hbb.trans (hHb.out.mono hbb.size)))) hLY.out (HX00.out.away hg3) (HX00.out.away hg4) ay3 ay4 hne (hbb.trans (hHb.out.mono hbb.size)) hg3 hg4 (by have z2 := hb2.size; have z3 := hb3.size; have z4 := hb4.size; have l3 := blk_lt hbox3; have l4 := blk_lt hbox4; omega) (by have z2 := hb2.size; have z3 := hb3.size; have z4 := hb4.size; have l3 := blk_lt hbox3; have l4 := blk_lt hbox4; omega)
        have h1 := htd.1
        have h2 := htd.2.1
        have h3 := htd.2.2.1
        have h4 := htd.2.2.2.1
        have h5 := htd.2.2.2.2
        clear htd
        unfold set5F at h1 h2 h3 h4 h5
        clear hHeld
        go_wp2
        go_meet
        case rel => exact ⟨g103, g104, Y, rfl, rfl, Lib.hid h1, Lib.hid h2, hYs, hne, hg3, hg4, h3, h4, h5, Lib.hid (And.intro (HX00.out.away hg4) ay3), Lib.hid ⟨hYN, hYn⟩⟩
      refine rg_cons rfl (by rfl) (fun K hK => ?_) ?_
      · have hgw4 := hHeld.size
        refine step_alloc 25 rfl iF _ hiF hzF ?_
        intro g104 w104 hge4 hbox4 hb4
        refine hK.out _ _ (S_call hb4 hHeld rfl) (fun hHeld => ?_)
        clear hK K
        (try simp only [Act.put, List.setIfInBounds_toArray, List.set_cons_zero, List.set_cons_succ])
        refine rg_do 2 rfl (by kernel_rfl) (by rfl) (fun K hK => ?_)
        go_simp
        (go_at_call 12; (with_reducible refine (HcO.out _ hHeld).mono ?_); (rintro e w102 ⟨Y, rfl, hYs, hYL, hb2, hYa, hYN, hYn⟩))
        refine hK.out _ _ (S_call hb2 hHeld rfl) (fun hHeld => ?_)
        clear hK K
        (try simp only [Act.put, List.setIfInBounds_toArray, List.set_cons_zero, List.set_cons_succ])
        refine rg_do 5 rfl (by kernel_rfl) (by rfl) (fun K hK => ?_)
        have hV3 := Lib.hid (FVar.later (fvar_blk hbox3) (bel_next hb4 hb2))
        have hV4 := Lib.hid (FVar.later (fvar_blk hbox4) hb2)
        have hLY := Lib.hid hYL
        have hHb := Lib.hid hHeld
        have q0 := hV3.out.1.1
        have q1 := hV3.out.1.2.1
        have q2 := hV3.out.1.2.2.1
        have q3 := hV3.out.1.2.2.2.1
        have q4 := hV3.out.1.2.2.2.2
        have p0 := hV3.out.2.1
        have p1 := hV3.out.2.2.1
        have p2 := hV3.out.2.2.2.1
        have p3 := hV3.out.2.2.2.2.1
        have p4 := hV3.out.2.2.2.2.2
        go_simp
        clear q0 q1 q2 q3 q4 p0 p1 p2 p3 p4
        refine hK.out _ _ (fbelow_set5 hHeld (show Wb.heap.size ≤ g103 by (have := hge3; omega))) (fun hHeld => ?_)
        clear hK K
        (try simp only [Act.put, List.setIfInBounds_toArray, List.set_cons_zero, List.set_cons_succ])
        refine rg_do 6 rfl (by kernel_rfl) (by rfl) (fun K hK => ?_)
        have hV6 := Lib.hid (FVar.other5 (a' := .slice X0.F.A X0.F.n X0.F.c) (b' := .slice X0.lA X0.ln X0.lc) (c' := .int .i64 X0.fuse) (d' := .int .i64 X0.fault) (e' := .bool X0.off) (show g104 ≠ g103 by (have z2 := hb2.size; have z3 := hb3.size; have z4 := hb4.size; have l3 := blk_lt hbox3; have l4 := blk_lt hbox4; omega)) hV4.out)
        have q0 := hV6.out.1.1
        have q1 := hV6.out.1.2.1
        have q2 := hV6.out.1.2.2.1
        have q3 := hV6.out.1.2.2.2.1
        have q4 := hV6.out.1.2.2.2.2
        have p0 := hV6.out.2.1
        have p1 := hV6.out.2.2.1
        have p2 := hV6.out.2.2.2.1
        have p3 := hV6.out.2.2.2.2.1
        have p4 := hV6.out.2.2.2.2.2
        unfold set5F at q0 q1 q2 q3 q4 p0 p1 p2 p3 p4
        go_simp
        clear q0 q1 q2 q3 q4 p0 p1 p2 p3 p4
        refine hK.out _ _ (fbelow_set5 hHeld (show Wb.heap.size ≤ g104 by (have := hge4; omega))) (fun hHeld => ?_)
        clear hK K
        (try simp only [Act.put, List.setIfInBounds_toArray, List.set_cons_zero, List.set_cons_succ])
        refine wpAnyH_done (by kernel_rfl) ?_ _
        have ay3 : AwayF Y g103 := by have z2 := hb2.size; have z3 := hb3.size; have z4 := hb4.size; have l3 := blk_lt hbox3; have l4 := blk_lt hbox4; first | exact hYa _ (by omega) | exact hYL.away (by omega)
        have ay4 : AwayF Y g104 := by have z2 := hb2.size; have z3 := hb3.size; have z4 := hb4.size; have l3 := blk_lt hbox3; have l4 := blk_lt hbox4; first | exact hYa _ (by omega) | exact hYL.away (by omega)
        have hg3 : w.heap.size ≤ g103 := by have := hbb.size; omega
        have hg4 : w.heap.size ≤ g104 := by have := hbb.size; omega
        have hne : g103 ≠ g104 := by have z2 := hb2.size; have z3 := hb3.size; have z4 := hb4.size; have l3 := blk_lt hbox3; have l4 := blk_lt hbox4; omega
        have htd := two_done' (w := w) (Y := X0) (Z := Y) hV3.out hV4.out ((HX0.out _ (hbb.trans (hHb.out.mono hbb.size)))) hLY.out (HX00.out.away hg3) (HX00.out.away hg4) ay3 ay4 hne (hbb.trans (hHb.out.mono hbb.size)) hg3 hg4 (by have z2 := hb2.size; have z3 := hb3.size; have z4 := hb4.size; have l3 := blk_lt hbox3; have l4 := blk_lt hbox4; omega) (by have z2 := hb2.size; have z3 := hb3.size; have z4 := hb4.size; have l3 := blk_lt hbox3; have l4 := blk_lt hbox4; omega)
        have h1 := htd.1
        have h2 := htd.2.1
        have h3 := htd.2.2.1
        have h4 := htd.2.2.2.1
        have h5 := htd.2.2.2.2
        clear htd
        unfold set5F at h1 h2 h3 h4 h5
        clear hHeld
        go_wp2
        go_meet
        case rel => exact ⟨g103, g104, Y, rfl, rfl, Lib.hid h1, Lib.hid h2, hYs, hne, hg3, hg4, h3, h4, h5, Lib.hid (And.intro (HX00.out.away hg4) ay3), Lib.hid ⟨hYN, hYn⟩⟩
      exact AllReadyH.nil
    refine rg_cons rfl (by rfl) (fun K hK => ?_) ?_
    · have hgw4 := hHeld.size
      refine step_alloc 25 rfl iF _ hiF hzF ?_
      intro g104 w104 hge4 hbox4 hb4
      refine hK.out _ _ (S_call hb4 hHeld rfl) (fun hHeld => ?_)
      clear hK K
      (try simp only [Act.put, List.setIfInBounds_toArray, List.set_cons_zero, List.set_cons_succ])
      refine wpAnyH_ready (rs := [2, 3]) (by kernel_rfl) (by simp) ?_
      refine rg_cons rfl (by rfl) (fun K hK => ?_) ?_
      · go_simp
        (go_at_call 12; (with_reducible refine (HcO.out _ hHeld).mono ?_); (rintro e w102 ⟨Y, rfl, hYs, hYL, hb2, hYa, hYN, hYn⟩))
        refine hK.out _ _ (S_call hb2 hHeld rfl) (fun hHeld => ?_)
        clear hK K
        (try simp only [Act.put, List.setIfInBounds_toArray, List.set_cons_zero, List.set_cons_succ])
        refine rg_do 3 rfl (by kernel_rfl) (by rfl) (fun K hK => ?_)
        have hgw3 := hHeld.size
        refine step_alloc 25 rfl iF _ hiF hzF ?_
        intro g103 w103 hge3 hbox3 hb3
        refine hK.out _ _ (S_call hb3 hHeld rfl) (fun hHeld => ?_)
        clear hK K
        (try simp only [Act.put, List.setIfInBounds_toArray, List.set_cons_zero, List.set_cons_succ])
        refine rg_do 5 rfl (by kernel_rfl) (by rfl) (fun K hK => ?_)
        have hV3 := Lib.hid (FVar.later (fvar_blk hbox3) (Below.refl _ _))
        have hV4 := Lib.hid (FVar.later (fvar_blk hbox4) (bel_next hb2 hb3))
        have hLY := Lib.hid ((hYL.later hb3).more (Below.size hb3))
        have hHb := Lib.hid hHeld
        have q0 := hV3.out.1.1
        have q1 := hV3.out.1.2.1
        have q2 := hV3.out.1.2.2.1
        have q3 := hV3.out.1.2.2.2.1
        have q4 := hV3.out.1.2.2.2.2
        have p0 := hV3.out.2.1
        have p1 := hV3.out.2.2.1
        have p2 := hV3.out.2.2.2.1
        have p3 := hV3.out.2.2.2.2.1
        have p4 := hV3.out.2.2.2.2.2
        go_simp
        clear q0 q1 q2 q3 q4 p0 p1 p2 p3 p4
        refine hK.out _ _ (fbelow_set5 hHeld (show Wb.heap.size ≤ g103 by (have := hge3; omega))) (fun hHeld => ?_)
        clear hK K
        (try simp only [Act.put, List.setIfInBounds_toArray, List.set_cons_zero, List.set_cons_succ])
        refine rg_do 6 rfl (by kernel_rfl) (by rfl) (fun K hK => ?_)
        have hV6 := Lib.hid (FVar.other5 (a' := .slice X0.F.A X0.F.n X0.F.c) (b' := .slice X0.lA X0.ln X0.lc) (c' := .int .i64 X0.fuse) (d' := .int .i64 X0.fault) (e' := .bool X0.off) (show g104 ≠ g103 by (have z2 := hb2.size; have z3 := hb3.size; have z4 := hb4.size; have l3 := blk_lt hbox3; have l4 := blk_lt hbox4; omega)) hV4.out)
        have q0 := hV6.out.1.1
        have q1 := hV6.out.1.2.1
        have q2 := hV6.out.1.2.2.1
        have q3 := hV6.out.1.2.2.2.1
        have q4 := hV6.out.1.2.2.2.2
        have p0 := hV6.out.2.1
        have p1 := hV6.out.2.2.1
        have p2 := hV6.out.2.2.2.1
        have p3 := hV6.out.2.2.2.2.1
        have p4 := hV6.out.2.2.2.2.2
        unfold set5F at q0 q1 q2 q3 q4 p0 p1 p2 p3 p4
        go_simp
        clear q0 q1 q2 q3 q4 p0 p1 p2 p3 p4
        refine hK.out _ _ (fbelow_set5 hHeld (show Wb.heap.size ≤ g104 by (have := hge4; omega))) (fun hHeld => ?_)
        clear hK K
        (try simp only [Act.put, List.setIfInBounds_toArray, List.set_cons_zero, List.set_cons_succ])
        refine wpAnyH_done (by kernel_rfl) ?_ _
        have ay3 : AwayF Y g103 := by have z2 := hb2.size; have z3 := hb3.size; have z4 := hb4.size; have l3 := blk_lt hbox3; have l4 := blk_lt hbox4; first | exact hYa _ (by omega) | exact hYL.away (by omega)
        have ay4 : AwayF Y g104 := by have z2 := hb2.size; have z3 := hb3.size; have z4 := hb4.size; have l3 := blk_lt hbox3; have l4 := blk_lt hbox4; first | exact hYa _ (by omega) | exact hYL.away (by omega)
        have hg3 : w.heap.size ≤ g103 := by have := hbb.size; omega
        have hg4 : w.heap.size ≤ g104 := by have := hbb.size; omega
        have hne : g103 ≠ g104 := by have z2 := hb2.size; have z3 := hb3.size; have z4 := hb4.size; have l3 := blk_lt hbox3; have l4 := blk_lt hbox4; omega
        have htd := two_done' (w := w) (Y := X0) (Z := Y) hV3.out hV4.out ((HX0.out _ (hbb.trans (hHb.out.mono hbb.size)))) hLY.out (HX00.out.away hg3) (HX00.out.away hg4) ay3 ay4 hne (hbb.trans (hHb.out.mono hbb.size)) hg3 hg4 (by have z2 := hb2.size; have z3 := hb3.size; have z4 := hb4.size; have l3 := blk_lt hbox3; have l4 := blk_lt hbox4; omega) (by have z2 := hb2.size; have z3 := hb3.size; have z4 := hb4.size; have l3 := blk_lt hbox3; have l4 := blk_lt hbox4; omega)
        have h1 := htd.1
        have h2 := htd.2.1
        have h3 := htd.2.2.1
        have h4 := htd.2.2.2.1
        have h5 := htd.2.2.2.2
        clear htd
        unfold set5F at h1 h2 h3 h4 h5
        clear hHeld
        go_wp2
        go_meet
        case rel => exact ⟨g103, g104, Y, rfl, rfl, Lib.hid h1, Lib.hid h2, hYs, hne, hg3, hg4, h3, h4, h5, Lib.hid (And.intro (HX00.out.away hg4) ay3), Lib.hid ⟨hYN, hYn⟩⟩
      refine rg_cons rfl (by rfl) (fun K hK => ?_) ?_
      · have hgw3 := hHeld.size
        refine step_alloc 25 rfl iF _ hiF hzF ?_
        intro g103 w103 hge3 hbox3 hb3
        refine hK.out _ _ (S_call hb3 hHeld rfl) (fun hHeld => ?_)
        clear hK K
        (try simp only [Act.put, List.setIfInBounds_toArray, List.set_cons_zero, List.set_cons_succ])
        refine rg_do 2 rfl (by kernel_rfl) (by rfl) (fun K hK => ?_)
        go_simp
        (go_at_call 12; (with_reducible refine (HcO.out _ hHeld).mono ?_); (rintro e w102 ⟨Y, rfl, hYs, hYL, hb2, hYa, hYN, hYn⟩))
        refine hK.out _ _ (S_call hb2 hHeld rfl) (fun hHeld => ?_)
        clear hK K
        (try simp only [Act.put, List.setIfInBounds_toArray, List.set_cons_zero, List.set_cons_succ])
        refine rg_do 5 rfl (by kernel_rfl) (by rfl) (fun K hK => ?_)
        have hV3 := Lib.hid (FVar.later (fvar_blk hbox3) hb2)
        have hV4 := Lib.hid (FVar.later (fvar_blk hbox4) (bel_next hb3 hb2))
        have hLY := Lib.hid hYL
        have hHb := Lib.hid hHeld
        have q0 := hV3.out.1.1
        have q1 := hV3.out.1.2.1
        have q2 := hV3.out.1.2.2.1
        have q3 := hV3.out.1.2.2.2.1
        have q4 := hV3.out.1.2.2.2.2
        have p0 := hV3.out.2.1
        have p1 := hV3.out.2.2.1
        have p2 := hV3.out.2.2.2.1
        have p3 := hV3.out.2.2.2.2.1
        have p4 := hV3.out.2.2.2.2.2
        go_simp
        clear q0 q1 q2 q3 q4 p0 p1 p2 p3 p4
        refine hK.out _ _ (fbelow_set5 hHeld (show Wb.heap.size ≤ g103 by (have := hge3; omega))) (fun hHeld => ?_)
        clear hK K
        (try simp only [Act.put, List.setIfInBounds_toArray, List.set_cons_zero, List.set_cons_succ])
        refine rg_do 6 rfl (by kernel_rfl) (by rfl) (fun K hK => ?_)
        have hV6 := Lib.hid (FVar.other5 (a' := .slice X0.F.A X0.F.n X0.F.c) (b' := .slice X0.lA X0.ln X0.lc) (c' := .int .i64 X0.fuse) (d' := .int .i64 X0.fault) (e' := .bool X0.off) (show g104 ≠ g103 by (have z2 := hb2.size; have z3 := hb3.size; have z4 := hb4.size; have l3 := blk_lt hbox3; have l4 := blk_lt hbox4; omega)) hV4.out)
        have q0 := hV6.out.1.1
        have q1 := hV6.out.1.2.1
        have q2 := hV6.out.1.2.2.1
        have q3 := hV6.out.1.2.2.2.1
        have q4 := hV6.out.1.2.2.2.2
        have p0 := hV6.out.2.1
        have p1 := hV6.out.2.2.1
        have p2 := hV6.out.2.2.2.1
        have p3 := hV6.out.2.2.2.2.1
        have p4 := hV6.out.2.2.2.2.2
        unfold set5F at q0 q1 q2 q3 q4 p0 p1 p2 p3 p4
        go_simp
        clear q0 q1 q2 q3 q4 p0 p1 p2 p3 p4
        refine hK.out _ _ (fbelow_set5 hHeld (show Wb.heap.size ≤ g104 by (have := hge4; omega))) (fun hHeld => ?_)
        clear hK K
        (try simp only [Act.put, List.setIfInBounds_toArray, List.set_cons_zero, List.set_cons_succ])
        refine wpAnyH_done (by kernel_rfl) ?_ _
        have ay3 : AwayF Y g103 := by have z2 := hb2.size; have z3 := hb3.size; have z4 := hb4.size; have l3 := blk_lt hbox3; have l4 := blk_lt hbox4; first | exact hYa _ (by omega) | exact hYL.away (by omega)
        have ay4 : AwayF Y g104 := by have z2 := hb2.size; have z3 := hb3.size; have z4 := hb4.size; have l3 := blk_lt hbox3; have l4 := blk_lt hbox4; first | exact hYa _ (by omega) | exact hYL.away (by omega)
        have hg3 : w.heap.size ≤ g103 := by have := hbb.size; omega
        have hg4 : w.heap.size ≤ g104 := by have := hbb.size; omega
        have hne : g103 ≠ g104 := by have z2 := hb2.size; have z3 := hb3.size; have z4 := hb4.size; have l3 := blk_lt hbox3; have l4 := blk_lt hbox4; omega
        have htd := two_done' (w := w) (Y := X0) (Z := Y) hV3.out hV4.out ((HX0.out _ (hbb.trans (hHb.out.mono hbb.size)))) hLY.out (HX00.out.away hg3) (HX00.out.away hg4) ay3 ay4 hne (hbb.trans (hHb.out.mono hbb.size)) hg3 hg4 (by have z2 := hb2.size; have z3 := hb3.size; have z4 := hb4.size; have l3 := blk_lt hbox3; have l4 := blk_lt hbox4; omega) (by have z2 := hb2.size; have z3 := hb3.size; have z4 := hb4.size; have l3 := blk_lt hbox3; have l4 := blk_lt hbox4; omega)
        have h1 := htd.1
        have h2 := htd.2.1
        have h3 := htd.2.2.1
        have h4 := htd.2.2.2.1
        have h5 := htd.2.2.2.2
        clear htd
        unfold set5F at h1 h2 h3 h4 h5
        clear hHeld
        go_wp2
        go_meet
        case rel => exact ⟨g103, g104, Y, rfl, rfl, Lib.hid h1, Lib.hid h2, hYs, hne, hg3, hg4, h3, h4, h5, Lib.hid (And.intro (HX00.out.away hg4) ay3), Lib.hid ⟨hYN, hYn⟩⟩
      exact AllReadyH.nil
    exact AllReadyH.nil
  case rest =>
    obtain ⟨g6, g7, Y0, rfl, rfl, HF, HT, hYs, hne, hg6, hg7, hb6, hl6, hl7, HA, HSY⟩ := hcut
    clear x0 x1 x2 x3 x4 HX0 HX00 HB3 HcO hbb hiF hzF
    go_wp2_with fail
    refine (few_any a len cap _ hfit hmost).mono ?_
    rintro e W6 ⟨rfl, rfl⟩
    obtain ⟨m, hm⟩ : ∃ m, min len 40 = m := ⟨_, rfl⟩
    rw [hm]
    have hml : m ≤ len := by omega
    have hm40 : m ≤ 40 := by omega
    clear hm
    have HD := Lib.hid hD
    have HX := Lib.hid hX
    have HYs := Lib.hid hYs
    have Hne := Lib.hid hne
    have HN6 := Lib.hid hN6
    clear hD hX hmost hfit hYs hne hN6
    go_wp2_with fail
    go_loopw [27] (fun iv wr => ∃ (i : Nat) (X Y : FileT), i ≤ m ∧ iv = .int .i64 i ∧ Hid (FAt wr g6 X) ∧ Hid (FAt wr g7 Y) ∧ Hid (Y.s = X.s) ∧ Hid (AwayF X g7 ∧ AwayF Y g6) ∧ Hid (Short X) ∧ Hid (Short Y) ∧ Below w.heap.size w wr ∧ g6 < wr.heap.size ∧ g7 < wr.heap.size) (fun iv _ => m - (intOf iv).toNat)
    case atStart => exact ⟨0, X0, Y0, Nat.zero_le _, rfl, HF, HT, HYs, HA, HS0, HSY, hb6, hl6, hl7⟩
    case round =>
      clear HF HT HYs HA HS0 HSY hb6 hl6 hl7
      obtain ⟨i, X, Y, hi, rfl, HF, HT, HYs, HA, HSX, HSY, hbr, hl6, hl7⟩ := hrel
      rename World => wr
      by_cases hlt : i < m
      · obtain ⟨b, off, x, rfl, hbB, hx, c0, c1, c2, c3, c4⟩ := deed_at (Shows.below HD.out hbr) (show i < len by omega)
        have hxo := ((HX.out x (List.mem_of_getElem? hx)).later hbr).more hbr.size
        have hbw6 := (HX.out x (List.mem_of_getElem? hx)).bytes.away hg6
        have hbw7 := (HX.out x (List.mem_of_getElem? hx)).bytes.away hg7
        have hlt' : (i : Int) < (m : Int) := by omega
        have hi0 : (0 : Int) ≤ (i : Int) := by omega
        have x1 := bel_alloc (Below.refl wr.heap.size wr) (.cells #[.int .i64 x.kind, .int .i64 x.n, .int .i64 x.tear, .slice x.bytes.A x.bytes.n x.bytes.c, .slice x.keep.A x.keep.n x.keep.c] 34)
        have HDB := Lib.hid (DBox.new wr x 34)
        have HF1 := Lib.hid (HF.out.later x1)
        have HT1 := Lib.hid (HT.out.later x1)
        have hb7 := hbr.trans (x1.mono hbr.size)
        have HXO := Lib.hid ((hxo.later x1).more x1.size)
        have HBN := Lib.hid (Nat.le_trans hxo.few.1 HN6.out)
        have hg6m := Nat.lt_of_lt_of_le hl6 x1.size
        have hg7m := Nat.lt_of_lt_of_le hl7 x1.size
        have HAB := Lib.hid (And.intro hbw6 hbw7)
        clear hx hxo HF HT hbr x1 hl6 hl7 hbw6 hbw7
        go_upto_region 10 with fail
        clear c0 c1 c2 c3 c4
        generalize wr.alloc (.cells #[.int .i64 x.kind, .int .i64 x.n, .int .i64 x.tear, .slice x.bytes.A x.bytes.n x.bytes.c, .slice x.keep.A x.keep.n x.keep.c] 34) = V0 at *
        generalize wr.heap.size = gx at *
        obtain ⟨S, er, ho⟩ : ∃ S er, outB X x = (S, er) := ⟨_, _, rfl⟩
        have hoy : outB Y x = (S, er) := (outB_same HF1.out.l HT1.out.l HYs.out x).trans ho
        have HR := Lib.hid (fun (hk : er ≠ 200) (W : World) (D : Nat) (Q : FileT) (hQ : LieF W D Q) (h : Q.s = S) => outB_right HF1.out.l HXO.out hQ (by rw [ho]; exact h) (by rw [ho]; exact hk))
        have hd1 := does_all X x V0.heap.size N V0 HF1.out.l HXO.out (Nat.le_refl _) HSX.out.1
        rw [ho] at hd1
        have HO := Lib.hid hoy
        clear ho hoy
        obtain ⟨⟨f0, f1, f2, f3, f4⟩, -⟩ := HF1.out.v
        obtain ⟨d0, d1, d2, d3, d4⟩ := HDB.out
        simp only [FileT.agg, PcT.val] at hd1
        go_wp2_with fail
        refine hd1.mono ?_
        rintro e V3 ⟨Z, rfl, hsZ, hLZ, hb12, haZ⟩
        clear hd1 f0 f1 f2 f3 f4 d0 d1 d2 d3 d4
        have y1 := bel_alloc (Below.refl V3.heap.size V3) (.cells #[.slice Z.F.A Z.F.n Z.F.c, .slice Z.lA Z.ln Z.lc, .int .i64 Z.fuse, .int .i64 Z.fault, .bool Z.off] 25)
        have hbZ := bel_next hb12 y1
        have HZ3 := Lib.hid (FAt.new hLZ 25)
        have HAZ := Lib.hid (And.intro (haZ g6 hg6m HF1.out.a HAB.out.1) (haZ g7 hg7m HA.out.1 HAB.out.2))
        have HZs := Lib.hid (show Z.s = S from hsZ)
        have HF3 := Lib.hid (HF1.out.later hbZ)
        have HT3 := Lib.hid (HT1.out.later hbZ)
        have HDB3 := Lib.hid (HDB.out.later hbZ)
        have HXO3 := Lib.hid ((HXO.out.later hbZ).more hbZ.size)
        have hg6o := Nat.lt_of_lt_of_le hg6m hbZ.size
        have hg7o := Nat.lt_of_lt_of_le hg7m hbZ.size
        have hb8 := hb7.trans (hbZ.mono hb7.size)
        have hn1 : V3.heap.size < (V3.alloc (.cells #[.slice Z.F.A Z.F.n Z.F.c, .slice Z.lA Z.ln Z.lc, .int .i64 Z.fuse, .int .i64 Z.fault, .bool Z.off] 25)).heap.size := by rw [World.size_alloc]; omega
        have hgz6 : g6 < V3.heap.size := Nat.lt_of_lt_of_le hg6m hb12.size
        have hgz7 : g7 < V3.heap.size := Nat.lt_of_lt_of_le hg7m hb12.size
        clear hsZ hLZ hb12 haZ y1 HF1 HT1 HDB HXO hg6m hg7m hbZ hb7 HAB
        simp only [FileT.agg, PcT.val]
        go_upto_region 11 with fail
        generalize V3.alloc (.cells #[.slice Z.F.A Z.F.n Z.F.c, .slice Z.lA Z.ln Z.lc, .int .i64 Z.fuse, .int .i64 Z.fault, .bool Z.off] 25) = V4 at *
        generalize V3.heap.size = n10 at *
        have hd2 := ought_any Y x V4.heap.size N V4 HT3.out.l HXO3.out (Nat.le_refl _) HSY.out.1 HBN.out
        rw [HO.out] at hd2
        obtain ⟨⟨f0, f1, f2, f3, f4⟩, -⟩ := HT3.out.v
        obtain ⟨d0, d1, d2, d3, d4⟩ := HDB3.out
        simp only [FileT.agg, PcT.val] at hd2
        go_wp2_with fail
        refine hd2.mono ?_
        rintro e V5 ⟨Q, rfl, hsQ, hLQ, hb12, -⟩
        clear hd2 f0 f1 f2 f3 f4 d0 d1 d2 d3 d4
        have y1 := bel_alloc (Below.refl V5.heap.size V5) (.cells #[.slice Q.F.A Q.F.n Q.F.c, .slice Q.lA Q.ln Q.lc, .int .i64 Q.fuse, .int .i64 Q.fault, .bool Q.off] 25)
        have hbQ := bel_next hb12 y1
        have HQ5 := Lib.hid (FAt.new hLQ 25)
        have HZ5 := Lib.hid (HZ3.out.later hbQ)
        have HQs := Lib.hid (show Q.s = S from hsQ)
        have HF5 := Lib.hid (HF3.out.later hbQ)
        have HT5 := Lib.hid (HT3.out.later hbQ)
        have hg6p := Nat.lt_of_lt_of_le hg6o hbQ.size
        have hg7p := Nat.lt_of_lt_of_le hg7o hbQ.size
        have hb9 := hb8.trans (hbQ.mono hb8.size)
        have hn1q := Nat.lt_of_lt_of_le hn1 hbQ.size
        have hgq6 : g6 < V5.heap.size := Nat.lt_of_lt_of_le hg6o hb12.size
        have hgq7 : g7 < V5.heap.size := Nat.lt_of_lt_of_le hg7o hb12.size
        clear hsQ hLQ hb12 y1 HF3 HT3 HDB3 HXO3 HZ3 hg6o hg7o hbQ hb8 HO HBN hn1
        simp only [FileT.agg, PcT.val]
        go_upto_region 12 with fail
        generalize V5.alloc (.cells #[.slice Q.F.A Q.F.n Q.F.c, .slice Q.lA Q.ln Q.lc, .int .i64 Q.fuse, .int .i64 Q.fault, .bool Q.off] 25) = V6 at *
        generalize V5.heap.size = n12 at *
        have hs1 := refSame_any Z Q V6.heap.size V6 HZ5.out.l HQ5.out.l (Nat.le_refl _)
        rw [HZs.out, HQs.out, sameS_self] at hs1
        have hne0 : (er == er) = true := beq_self_eq_true er
        obtain ⟨⟨f0, f1, f2, f3, f4⟩, -⟩ := HZ5.out.v
        obtain ⟨⟨d0, d1, d2, d3, d4⟩, -⟩ := HQ5.out.v
        simp only [FileT.agg, PcT.val] at hs1
        go_wp2_with fail
        refine hs1.mono ?_
        rintro e V7 ⟨rfl, hbx⟩
        clear hs1 f0 f1 f2 f3 f4 d0 d1 d2 d3 d4
        have HZ7 := Lib.hid (HZ5.out.later hbx)
        have HQ7 := Lib.hid (HQ5.out.later hbx)
        have HF7 := Lib.hid (HF5.out.later hbx)
        have HT7 := Lib.hid (HT5.out.later hbx)
        have hb10 := hb9.trans (hbx.mono hb9.size)
        have hg6q := Nat.lt_of_lt_of_le hg6p hbx.size
        have hg7q := Nat.lt_of_lt_of_le hg7p hbx.size
        clear HZ5 HQ5 HF5 HT5 hbx hb9 hg6p hg7p hne0
        have hs2 := refSame_any X Y V7.heap.size V7 HF7.out.l HT7.out.l (Nat.le_refl _)
        rw [HYs.out, sameS_self] at hs2
        obtain ⟨⟨f0, f1, f2, f3, f4⟩, -⟩ := HF7.out.v
        obtain ⟨⟨d0, d1, d2, d3, d4⟩, -⟩ := HT7.out.v
        simp only [FileT.agg, PcT.val] at hs2
        go_wp2_with fail
        refine hs2.mono ?_
        rintro e V8 ⟨rfl, hbx⟩
        clear hs2 f0 f1 f2 f3 f4 d0 d1 d2 d3 d4
        have HZ8 := Lib.hid (HZ7.out.later hbx)
        have HQ8 := Lib.hid (HQ7.out.later hbx)
        have HF8 := Lib.hid (HF7.out.later hbx)
        have HT8 := Lib.hid (HT7.out.later hbx)
        have hb11 := hb10.trans (hbx.mono hb10.size)
        have hg6r := Nat.lt_of_lt_of_le hg6q hbx.size
        have hg7r := Nat.lt_of_lt_of_le hg7q hbx.size
        clear HZ7 HQ7 HF7 HT7 hbx hb10 hg6q hg7q
        by_cases her : er = 200 ∨ er = 2
        · clear HR HZs HQs
          have hor : er = 200 ∨ (¬ er = 200 ∧ (er != 200) = true ∧ (er != 2) = false) := by
            rcases her with h | h
            · exact .inl h
            · subst h; exact .inr ⟨by decide, rfl, rfl⟩
          clear her
          rcases hor with rfl | ⟨he0, he1, he2⟩
          all_goals
            go_wp2
            go_roundw
            case rel => exact ⟨i + 1, X, Y, by omega, by go_num, HF8, HT8, HYs, HA, HSX, HSY, hb11, hg6r, hg7r⟩
            case measure => simp [intOf]; omega
        · have he0 : ¬ er = 200 := fun h => her (.inl h)
          have he1 : (er != 200) = true := bne_iff_ne.2 (fun h => her (.inl h))
          have he2 : (er != 2) = true := bne_iff_ne.2 (fun h => her (.inr h))
          have hk2 : er ≠ 200 := fun h => her (.inl h)
          have HSZ := Lib.hid (short_right HZ8.out.l (HR.out hk2 _ _ Z HZ8.out.l HZs.out))
          have HSQ := Lib.hid (short_right HQ8.out.l (HR.out hk2 _ _ Q HQ8.out.l HQs.out))
          clear her hk2 HR
          go_upto_region 17 with fail
          clear he0 he1 he2
          have z0 : ∀ W, STwo g6 g7 V8 W → W.cell? ⟨n10, 0, none⟩ = some (.slice Z.F.A Z.F.n Z.F.c) := fun W h => h.cell HZ8.out.v.1.1 (by omega) (by omega)
          have z1 : ∀ W, STwo g6 g7 V8 W → W.cell? ⟨n10, 1, none⟩ = some (.slice Z.lA Z.ln Z.lc) := fun W h => h.cell HZ8.out.v.1.2.1 (by omega) (by omega)
          have z2 : ∀ W, STwo g6 g7 V8 W → W.cell? ⟨n10, 2, none⟩ = some (.int .i64 Z.fuse) := fun W h => h.cell HZ8.out.v.1.2.2.1 (by omega) (by omega)
          have z3 : ∀ W, STwo g6 g7 V8 W → W.cell? ⟨n10, 3, none⟩ = some (.int .i64 Z.fault) := fun W h => h.cell HZ8.out.v.1.2.2.2.1 (by omega) (by omega)
          have z4 : ∀ W, STwo g6 g7 V8 W → W.cell? ⟨n10, 4, none⟩ = some (.bool Z.off) := fun W h => h.cell HZ8.out.v.1.2.2.2.2 (by omega) (by omega)
          have t0 : ∀ W, STwo g6 g7 V8 W → W.cell? ⟨n12, 0, none⟩ = some (.slice Q.F.A Q.F.n Q.F.c) := fun W h => h.cell HQ8.out.v.1.1 (by omega) (by omega)
          have t1 : ∀ W, STwo g6 g7 V8 W → W.cell? ⟨n12, 1, none⟩ = some (.slice Q.lA Q.ln Q.lc) := fun W h => h.cell HQ8.out.v.1.2.1 (by omega) (by omega)
          have t2 : ∀ W, STwo g6 g7 V8 W → W.cell? ⟨n12, 2, none⟩ = some (.int .i64 Q.fuse) := fun W h => h.cell HQ8.out.v.1.2.2.1 (by omega) (by omega)
          have t3 : ∀ W, STwo g6 g7 V8 W → W.cell? ⟨n12, 3, none⟩ = some (.int .i64 Q.fault) := fun W h => h.cell HQ8.out.v.1.2.2.2.1 (by omega) (by omega)
          have t4 : ∀ W, STwo g6 g7 V8 W → W.cell? ⟨n12, 4, none⟩ = some (.bool Q.off) := fun W h => h.cell HQ8.out.v.1.2.2.2.2 (by omega) (by omega)
          have HcO := Lib.hid (own_any Q V8.heap.size V8.drew (HQ8.out.l.later (below_drewN (Below.refl _ _) 1)) (Nat.le_refl _) HSQ.out.1 HSQ.out.2)
          simp only [FileT.agg, PcT.val] at HcO
          refine wp_region_held_drew (S := fun W => STwo g6 g7 V8 W) (by kernel_rfl) (STwo.drew g6 g7 V8) (fun hHeld => ?_)
          refine rg_in 0 rfl (by kernel_rfl) (by kernel_rfl) (by kernel_rfl) (by rfl) (v := ?_) (fun _ _ _ h => h) hHeld (fun w hSw => ?_) ?_
          rotate_left
          · (try dsimp only at hSw); go_simp <;> (with_reducible rfl)
          (try simp only [Act.put, List.setIfInBounds_toArray, List.set_cons_zero, List.set_cons_succ])
          refine rg_in 1 rfl (by kernel_rfl) (by kernel_rfl) (by kernel_rfl) (by rfl) (v := ?_) (fun _ _ _ h => h) hHeld (fun w hSw => ?_) ?_
          rotate_left
          · (try dsimp only at hSw); go_simp <;> (with_reducible rfl)
          (try simp only [Act.put, List.setIfInBounds_toArray, List.set_cons_zero, List.set_cons_succ])
          refine rg_do 2 rfl (by kernel_rfl) (by rfl) (fun K hK => ?_)
          go_simp
          (go_at_call 12; (with_reducible refine HcO.out.mono ?_); (rintro e w102 ⟨P, rfl, hPs, hPL, hb2, hPa, hPN, hPn⟩))
          refine hK.out _ _ (STwo.next hHeld hb2) (fun hHeld => ?_)
          clear hK K
          (try simp only [Act.put, List.setIfInBounds_toArray, List.set_cons_zero, List.set_cons_succ])
          refine rg_do 3 rfl (by kernel_rfl) (by rfl) (fun K hK => ?_)
          have hbo : Below V8.heap.size V8 w102 := (below_drewN (Below.refl _ _) 1).trans hb2
          have hV3 := Lib.hid (HF8.out.v.later hbo)
          have hV4 := Lib.hid (HT8.out.v.later hbo)
          have hLZ := Lib.hid ((HZ8.out.l.later hbo).more hbo.size)
          have hLP := Lib.hid hPL
          have q0 := hV3.out.1.1
          have q1 := hV3.out.1.2.1
          have q2 := hV3.out.1.2.2.1
          have q3 := hV3.out.1.2.2.2.1
          have q4 := hV3.out.1.2.2.2.2
          have p0 := hV3.out.2.1
          have p1 := hV3.out.2.2.1
          have p2 := hV3.out.2.2.2.1
          have p3 := hV3.out.2.2.2.2.1
          have p4 := hV3.out.2.2.2.2.2
          go_simp
          clear q0 q1 q2 q3 q4 p0 p1 p2 p3 p4
          refine hK.out _ _ (STwo.set hHeld (.inl rfl)) (fun hHeld => ?_)
          clear hK K
          (try simp only [Act.put, List.setIfInBounds_toArray, List.set_cons_zero, List.set_cons_succ])
          refine rg_do 4 rfl (by kernel_rfl) (by rfl) (fun K hK => ?_)
          have hV6 := Lib.hid (FVar.other5 (a' := .slice Z.F.A Z.F.n Z.F.c) (b' := .slice Z.lA Z.ln Z.lc) (c' := .int .i64 Z.fuse) (d' := .int .i64 Z.fault) (e' := .bool Z.off) (Ne.symm Hne.out) hV4.out)
          have q0 := hV6.out.1.1
          have q1 := hV6.out.1.2.1
          have q2 := hV6.out.1.2.2.1
          have q3 := hV6.out.1.2.2.2.1
          have q4 := hV6.out.1.2.2.2.2
          have p0 := hV6.out.2.1
          have p1 := hV6.out.2.2.1
          have p2 := hV6.out.2.2.2.1
          have p3 := hV6.out.2.2.2.2.1
          have p4 := hV6.out.2.2.2.2.2
          unfold set5F at q0 q1 q2 q3 q4 p0 p1 p2 p3 p4
          go_simp
          clear q0 q1 q2 q3 q4 p0 p1 p2 p3 p4
          refine hK.out _ _ (STwo.set hHeld (.inr rfl)) (fun hHeld => ?_)
          clear hK K
          (try simp only [Act.put, List.setIfInBounds_toArray, List.set_cons_zero, List.set_cons_succ])
          refine wpAnyH_done (by kernel_rfl) ?_ _
          have ap6 : AwayF P g6 := hPa _ hg6r
          have ap7 : AwayF P g7 := hPa _ hg7r
          have htd := two_done' (w := w) (Y := Z) (Z := P) hV3.out hV4.out hLZ.out hLP.out HAZ.out.1 HAZ.out.2 ap6 ap7 Hne.out (hb11.trans (hbo.mono hb11.size)) hg6 hg7 (Nat.lt_of_lt_of_le hg6r hbo.size) (Nat.lt_of_lt_of_le hg7r hbo.size)
          have h1 := htd.1
          have h2 := htd.2.1
          have h3 := htd.2.2.1
          have h4 := htd.2.2.2.1
          have h5 := htd.2.2.2.2
          clear htd
          unfold set5F at h1 h2 h3 h4 h5
          have HF9 := Lib.hid h1
          have HT9 := Lib.hid h2
          have HPs := Lib.hid (show P.s = Z.s from hPs.trans (HQs.out.trans HZs.out.symm))
          have HAP := Lib.hid (And.intro HAZ.out.2 ap6)
          have HSP := Lib.hid (show Short P from ⟨hPN, hPn⟩)
          clear hHeld h1 h2 z0 z1 z2 z3 z4 t0 t1 t2 t3 t4 ap6 ap7 hPs hPN hPn hPL hPa hV3 hV4 hV6 hLZ hLP hbo hb2 HF8 HT8 HZ8 HQ8 HcO
          go_wp2
          go_roundw
          case rel => exact ⟨i + 1, Z, P, by omega, by go_num, HF9, HT9, HPs, HAP, HSZ, HSP, h3, h4, h5⟩
          case measure => simp [intOf]; omega
      · clear HF HT HYs HA HSX HSY
        go_wp2
        go_ret
        exact ⟨rfl, hbr⟩
end Go.Proofs.Ythoenmggjbojoaa
