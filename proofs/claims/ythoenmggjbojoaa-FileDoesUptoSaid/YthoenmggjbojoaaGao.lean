import Derived.Test.YthoenmggjbojoaaGan
import Derived.Test.YthoenmggjbojoaaGah
import Derived.Test.YthoenmggjbojoaaGai
import Derived.Test.YthoenmggjbojoaaGaj
import Derived.Deep.CutBlock
/-
  Layer 10: a deed done and what it comes to, of any file.
-/
namespace Go.Proofs.Ythoenmggjbojoaa
open Go.RowKit
set_option linter.unusedVariables false

/-- What a deed comes to, of a file that may be or not. -/
def outB (X : FileT) (x : DeedT) : FileS × Int := if X.right = true then doS X.s X.long x else (X.s, 200)
theorem ought_any (X : FileT) (x : DeedT) (B N : Nat) (w : World) (hL : LieF w B X) (hx : x.Ok w B N) (hB : B ≤ w.heap.size) (hN : ∀ p ∈ X.Q, p.n ≤ 1048576) (h6 : x.bytes.n ≤ 1048576) :
    Calls Try.prog 15 #[X.agg, .agg #[.int .i64 x.kind, .int .i64 x.n, .int .i64 x.tear, .slice x.bytes.A x.bytes.n x.bytes.c, .slice x.keep.A x.keep.n x.keep.c]] w (OpP X (AwayP x.bytes) (outB X x) w) := by
  by_cases hr : X.right = true
  · rw [show outB X x = doS X.s X.long x from if_pos hr]
    by_cases h3 : whichN x.kind = 3
    · exact ought_3 X x B N w hL hx hB hN hr h3
    · by_cases h4 : whichN x.kind = 4
      · cases ho : X.off
        · exact ought_4_on X x B N w hL hx hB hN hr h4 ho
        · exact ought_4_off X x B N w hL hx hB hN hr h4 ho
      · by_cases h5 : whichN x.kind = 5
        · cases ho : X.off
          · exact ought_5_on X x B N w hL hx hB hN hr h5 ho
          · exact ought_5_off X x B N w hL hx hB hN hr h5 ho
        · by_cases h7 : whichN x.kind = 6
          · exact ought_6 X x B N w hL hx hB hN hr h7
          · by_cases h0 : x.bytes.n = 0
            · exact ought_a0 X x B N w hL hx hB hN hr (by omega) h0
            · exact ought_a1 X x B N w hL hx hB hN hr (by omega) h0 h6
  · have hr' : X.right = false := by simpa using hr
    rw [show outB X x = (X.s, 200) from if_neg hr]
    exact ought_bad X x B N w hL hx hB hN hr'
theorem does_all (X : FileT) (x : DeedT) (B N : Nat) (w : World) (hL : LieF w B X) (hx : x.Ok w B N) (hB : B ≤ w.heap.size) (hN : ∀ p ∈ X.Q, p.n ≤ 1048576) :
    Calls Try.prog 14 #[X.agg, .agg #[.int .i64 x.kind, .int .i64 x.n, .int .i64 x.tear, .slice x.bytes.A x.bytes.n x.bytes.c, .slice x.keep.A x.keep.n x.keep.c]] w (OpP X (AwayP x.bytes) (outB X x) w) := by
  by_cases hr : X.right = true
  · rw [show outB X x = doS X.s X.long x from if_pos hr]
    exact does_any X x B N w hL hx hB hr
  · have hr' : X.right = false := by simpa using hr
    rw [show outB X x = (X.s, 200) from if_neg hr]
    exact does_bad X x B N w hL hx hB hN hr'
end Go.Proofs.Ythoenmggjbojoaa
/-
  Layer 10, plain: what a deed comes to hangs on what the file is, not on where it lies.
-/
namespace Go.Proofs.Ythoenmggjbojoaa
open Go.RowKit
set_option linter.unusedVariables false

theorem outB_same {w : World} {B D : Nat} {X Y : FileT} (hX : LieF w B X) (hY : LieF w D Y) (h : Y.s = X.s) (x : DeedT) : outB Y x = outB X x := by
  have hr : Y.right = X.right := by rw [right_s hX, right_s hY, h]
  unfold outB
  rw [hr, h]
  by_cases hx : X.right = true
  · rw [if_pos hx, if_pos hx, long_s hX hx, long_s hY (hr.trans hx), h]
  · rw [if_neg hx, if_neg hx]
/-- Its rows are short. -/
def Short (X : FileT) : Prop := (∀ p ∈ X.Q, p.n ≤ 1048576) ∧ X.ln ≤ 1048576
theorem short_right {w : World} {B : Nat} {X : FileT} (h : LieF w B X) (hr : X.right = true) : Short X := by
  obtain ⟨h1, _, h3⟩ := right_rows h hr
  exact ⟨h1, by omega⟩
/-- A deed that was no error leaves a file that may be. -/
theorem outB_right {w w' : World} {B D N : Nat} {X Y : FileT} {x : DeedT} (hX : LieF w B X) (hx : x.Ok w B N) (hY : LieF w' D Y) (h : Y.s = (outB X x).1) (hk : (outB X x).2 ≠ 200) : Y.right = true := by
  by_cases hr : X.right = true
  · rw [show outB X x = doS X.s X.long x from if_pos hr, long_s hX hr] at h
    rw [right_s hY, h]
    exact doS_right (by rw [← right_s hX]; exact hr) x hx.bytes.len
  · rw [show outB X x = (X.s, 200) from if_neg hr] at hk
    exact absurd rfl hk
theorem two_done' {w V : World} {g h : Nat} {Y Z : FileT} {a b c d e a' b' c' d' e' : Value} (hX : FVar V g a b c d e) (hT : FVar V h a' b' c' d' e') (hY : LieF V V.heap.size Y) (hZ : LieF V V.heap.size Z) (hYg : AwayF Y g) (hYh : AwayF Y h) (hZg : AwayF Z g) (hZh : AwayF Z h) (hne : g ≠ h)
    (hb : Below w.heap.size w V) (hg : w.heap.size ≤ g) (hh : w.heap.size ≤ h) (hgs : g < V.heap.size) (hhs : h < V.heap.size) :
    FAt (set5F (set5F V g (.slice Y.F.A Y.F.n Y.F.c) (.slice Y.lA Y.ln Y.lc) (.int .i64 Y.fuse) (.int .i64 Y.fault) (.bool Y.off)) h (.slice Z.F.A Z.F.n Z.F.c) (.slice Z.lA Z.ln Z.lc) (.int .i64 Z.fuse) (.int .i64 Z.fault) (.bool Z.off)) g Y ∧
    FAt (set5F (set5F V g (.slice Y.F.A Y.F.n Y.F.c) (.slice Y.lA Y.ln Y.lc) (.int .i64 Y.fuse) (.int .i64 Y.fault) (.bool Y.off)) h (.slice Z.F.A Z.F.n Z.F.c) (.slice Z.lA Z.ln Z.lc) (.int .i64 Z.fuse) (.int .i64 Z.fault) (.bool Z.off)) h Z ∧
    Below w.heap.size w (set5F (set5F V g (.slice Y.F.A Y.F.n Y.F.c) (.slice Y.lA Y.ln Y.lc) (.int .i64 Y.fuse) (.int .i64 Y.fault) (.bool Y.off)) h (.slice Z.F.A Z.F.n Z.F.c) (.slice Z.lA Z.ln Z.lc) (.int .i64 Z.fuse) (.int .i64 Z.fault) (.bool Z.off)) ∧
    g < (set5F (set5F V g (.slice Y.F.A Y.F.n Y.F.c) (.slice Y.lA Y.ln Y.lc) (.int .i64 Y.fuse) (.int .i64 Y.fault) (.bool Y.off)) h (.slice Z.F.A Z.F.n Z.F.c) (.slice Z.lA Z.ln Z.lc) (.int .i64 Z.fuse) (.int .i64 Z.fault) (.bool Z.off)).heap.size ∧
    h < (set5F (set5F V g (.slice Y.F.A Y.F.n Y.F.c) (.slice Y.lA Y.ln Y.lc) (.int .i64 Y.fuse) (.int .i64 Y.fault) (.bool Y.off)) h (.slice Z.F.A Z.F.n Z.F.c) (.slice Z.lA Z.ln Z.lc) (.int .i64 Z.fuse) (.int .i64 Z.fault) (.bool Z.off)).heap.size := by
  refine ⟨⟨FVar.other5 hne hX.set5, lie_res (lie_res hY hYg) hYh, hYg⟩, ⟨(FVar.other5 (Ne.symm hne) hT).set5, lie_res (lie_res hZ hZg) hZh, hZh⟩, ?_, by rw [size_set5, size_set5]; exact hgs, by rw [size_set5, size_set5]; exact hhs⟩
  exact fbelow_set5 (fbelow_set5 hb hg) hh
theorem file_info : ∃ i, Try.prog.info? 25 = some i ∧ i.zero = some (.agg #[.slice none 0 0, .slice none 0 0, .int .i64 0, .int .i64 0, .bool false]) := ⟨Try.t25, by kernel_rfl, by kernel_rfl⟩
theorem fvar_blk {W : World} {g : Nat} {a b c d e : Value} {t : TypeId} (h : W.heap[g]? = some (.cells #[a, b, c, d, e] t)) : FVar W g a b c d e :=
  ⟨⟨by simp [World.cell?, h], by simp [World.cell?, h], by simp [World.cell?, h], by simp [World.cell?, h], by simp [World.cell?, h]⟩, frozen_of_row W g 0 _ t h, frozen_of_row W g 1 _ t h, frozen_of_row W g 2 _ t h, frozen_of_row W g 3 _ t h, frozen_of_row W g 4 _ t h⟩
/-- All blocks but two are as they were. -/
structure STwo (g h : Nat) (w W : World) : Prop where
  s : w.heap.size ≤ W.heap.size
  b : ∀ k, k < w.heap.size → k ≠ g → k ≠ h → W.heap[k]? = w.heap[k]?
theorem STwo.drew (g h : Nat) (w : World) : STwo g h w (w.drewN 1) := ⟨Nat.le_refl _, fun _ _ _ _ => rfl⟩
theorem STwo.next {g h : Nat} {w W W' : World} (hs : STwo g h w W) (hb : Below W.heap.size W W') : STwo g h w W' := ⟨Nat.le_trans hs.s hb.size, fun k hk h1 h2 => (hb.block k (Nat.lt_of_lt_of_le hk hs.s)).trans (hs.b k hk h1 h2)⟩
theorem STwo.set {g h k : Nat} {w W : World} {a b c d e : Value} (hs : STwo g h w W) (hk : k = g ∨ k = h) : STwo g h w (set5F W k a b c d e) := by
  refine ⟨by rw [size_set5]; exact hs.s, fun j hj h1 h2 => ?_⟩
  have hne : j ≠ k := by rcases hk with rfl | rfl <;> assumption
  unfold set5F
  rw [Below.heap_setCell _ _ _ _ hne, Below.heap_setCell _ _ _ _ hne, Below.heap_setCell _ _ _ _ hne, Below.heap_setCell _ _ _ _ hne, Below.heap_setCell _ _ _ _ hne]
  exact hs.b j hj h1 h2
theorem STwo.cell {g h k i : Nat} {w W : World} {v : Value} (hs : STwo g h w W) (hc : w.cell? ⟨k, i, none⟩ = some v) (h1 : k ≠ g) (h2 : k ≠ h) : W.cell? ⟨k, i, none⟩ = some v :=
  (World.cell?_of_block (hs.b k (World.block_lt_of_cell? w _ hc) h1 h2)).trans hc
end Go.Proofs.Ythoenmggjbojoaa
/-
  Layer 10, the law FileTells: the walk.
-/
namespace Go.Proofs.Ythoenmggjbojoaa
open Go.RowKit
set_option linter.unusedVariables false

theorem sameS_self (S : FileS) : sameS S S = true := by
  unfold sameS
  rw [beq_self_eq_true, beq_self_eq_true, beq_self_eq_true, same_yes' rfl, decide_eq_true rfl]
  rfl
theorem sameS_iff {S T : FileS} : sameS S T = true ↔ S = T := by
  constructor
  · intro h
    unfold sameS at h
    simp only [Bool.and_eq_true, beq_iff_eq, decide_eq_true_eq] at h
    obtain ⟨h1, h2, h3, h4, h5⟩ := h
    unfold sameB at h4
    have h6 := of_decide_eq_true h4
    clear h4
    cases S; cases T
    simp only at h1 h2 h3 h6 h5
    subst h1 h2 h3 h6 h5
    rfl
  · rintro rfl
    exact sameS_self S
theorem sameS_comm (S T : FileS) : sameS S T = sameS T S := by
  rw [Bool.eq_iff_iff, sameS_iff, sameS_iff]
  exact ⟨Eq.symm, Eq.symm⟩
set_option maxRecDepth 100000 in
set_option maxHeartbeats 16000000 in
theorem fileTells_walk (w : World) (X : FileT) (hX : LieF w w.heap.size X) (hN1 : ∀ p ∈ X.Q, p.n ≤ 1048576) (Y : FileT) (hY : LieF w w.heap.size Y) (hN2 : ∀ p ∈ Y.Q, p.n ≤ 1048576) (a : Int) (wa : (Lit.int .i64 a).wf = true) (n : Int) (wn : (Lit.int .i64 n).wf = true) :
    Calls Try.prog 4 #[X.agg, Y.agg, .int .i64 a, .int .i64 n] w fun e w' => e = .returned (.bool true) ∧ Below w.heap.size w w' := by
  have hb := bel_alloc (bel_alloc (Below.refl w.heap.size w) (.cells #[.slice X.F.A X.F.n X.F.c, .slice X.lA X.ln X.lc, .int .i64 X.fuse, .int .i64 X.fault, .bool X.off] 25)) (.cells #[.slice Y.F.A Y.F.n Y.F.c, .slice Y.lA Y.ln Y.lc, .int .i64 Y.fuse, .int .i64 Y.fault, .bool Y.off] 25)
  have HFX := Lib.hid ((FBox.new w X 25).later (bel_alloc (Below.refl _ _) (.cells #[.slice Y.F.A Y.F.n Y.F.c, .slice Y.lA Y.ln Y.lc, .int .i64 Y.fuse, .int .i64 Y.fault, .bool Y.off] 25)))
  have hY1 := FBox.new (w.alloc (.cells #[.slice X.F.A X.F.n X.F.c, .slice X.lA X.ln X.lc, .int .i64 X.fuse, .int .i64 X.fault, .bool X.off] 25)) Y 25
  rw [World.size_alloc] at hY1
  have HFY := Lib.hid hY1
  have HX := Lib.hid (fun W (h : Below w.heap.size w W) => (hX.later h).more h.size)
  have HY := Lib.hid (fun W (h : Below w.heap.size w W) => (hY.later h).more h.size)
  have HW := Lib.hid (fun W (h : Below w.heap.size w W) => lwakes_any W)
  have HcR := Lib.hid (fun W (h : Below w.heap.size w W) => refRight_any X _ W (HX.out W h) (Nat.le_refl _) hN1)
  have HcQ := Lib.hid (fun W (h : Below w.heap.size w W) => refRight_any Y _ W (HY.out W h) (Nat.le_refl _) hN2)
  have HcC := Lib.hid (fun W (h : Below w.heap.size w W) => checkF_any X _ W (HX.out W h) (Nat.le_refl _) hN1)
  have HcS := Lib.hid (fun W (h : Below w.heap.size w W) => refSame_any X Y _ W (HX.out W h) (HY.out W h) (Nat.le_refl _))
  have HXY := Lib.hid (fun W (h : Below w.heap.size w W) => sameF_any X Y _ W (HX.out W h) (HY.out W h) (Nat.le_refl _) hN1 hN2)
  have HYX := Lib.hid (fun W (h : Below w.heap.size w W) => sameF_any Y X _ W (HY.out W h) (HX.out W h) (Nat.le_refl _) hN2 hN1)
  have HXX := Lib.hid (fun W (h : Below w.heap.size w W) => sameF_any X X _ W (HX.out W h) (HX.out W h) (Nat.le_refl _) hN1 hN1)
  have HcL := Lib.hid (fun W (h : Below w.heap.size w W) => lenF_any X _ W (HX.out W h) (Nat.le_refl _) hN1)
  have HN1 := Lib.hid hN1
  simp only [sameS_comm Y.s X.s, sameS_self] at HYX HXX
  obtain ⟨q, hq⟩ : ∃ q, Y.right = q := ⟨_, rfl⟩
  obtain ⟨s, hs⟩ : ∃ s, sameS X.s Y.s = s := ⟨_, rfl⟩
  rw [hq] at HcQ HXY HYX
  rw [hs] at HcS HXY HYX
  clear hq hs hN2 hY hY1
  cases hr : X.right
  · have HRd := Lib.hid (fun W (h : Below w.heap.size w W) => readF_bad X a n _ W (HX.out W h) (Nat.le_refl _) hN1 hr)
    simp only [hr, Bool.false_and, Bool.and_false] at HcR HcC HXY HYX HXX HcL
    simp only [show (false = true) = False from by simp, if_false] at HcC HcL
    simp only [FileT.agg, PcT.val] at HcR HcQ HcC HcS HXY HYX HXX HcL HRd ⊢
    clear hr hN1 hX wa wn
    go_enter Try.func4, Try.ntmps4
    obtain ⟨f0, f1, f2, f3, f4⟩ := HFX.out
    obtain ⟨g0, g1, g2, g3, g4⟩ := HFY.out
    go_upto_region 1 with fail
    generalize (w.alloc (.cells #[.slice X.F.A X.F.n X.F.c, .slice X.lA X.ln X.lc, .int .i64 X.fuse, .int .i64 X.fault, .bool X.off] 25)).alloc (.cells #[.slice Y.F.A Y.F.n Y.F.c, .slice Y.lA Y.ln Y.lc, .int .i64 Y.fuse, .int .i64 Y.fault, .bool Y.off] 25) = W1 at *
    go_wp2_with fail
    refine (HW.out _ hb).mono ?_
    rintro e V ⟨rfl, hbn⟩
    clear f0 f1 f2 f3 f4 g0 g1 g2 g3 g4
    have HFX := Lib.hid (HFX.out.later hbn)
    have HFY := Lib.hid (HFY.out.later hbn)
    have hb := bel_next hb hbn
    clear hbn HW
    obtain ⟨f0, f1, f2, f3, f4⟩ := HFX.out
    obtain ⟨g0, g1, g2, g3, g4⟩ := HFY.out
    go_wp2_with fail
    refine (HcR.out _ hb).mono ?_
    rintro e V ⟨rfl, hbn⟩
    clear f0 f1 f2 f3 f4 g0 g1 g2 g3 g4
    have HFX := Lib.hid (HFX.out.later hbn)
    have HFY := Lib.hid (HFY.out.later hbn)
    have hb := bel_next hb hbn
    clear hbn HcR
    obtain ⟨f0, f1, f2, f3, f4⟩ := HFX.out
    obtain ⟨g0, g1, g2, g3, g4⟩ := HFY.out
    go_wp2_with fail
    refine (HcC.out _ hb).mono ?_
    rintro e V ⟨rfl, hbn⟩
    clear f0 f1 f2 f3 f4 g0 g1 g2 g3 g4
    have HFX := Lib.hid (HFX.out.later hbn)
    have HFY := Lib.hid (HFY.out.later hbn)
    have hb := bel_next hb hbn
    clear hbn HcC
    obtain ⟨f0, f1, f2, f3, f4⟩ := HFX.out
    obtain ⟨g0, g1, g2, g3, g4⟩ := HFY.out
    go_wp2_with fail
    refine (HXY.out _ hb).mono ?_
    rintro e V ⟨rfl, hbn⟩
    clear f0 f1 f2 f3 f4 g0 g1 g2 g3 g4
    have HFX := Lib.hid (HFX.out.later hbn)
    have HFY := Lib.hid (HFY.out.later hbn)
    have hb := bel_next hb hbn
    clear hbn HXY
    obtain ⟨f0, f1, f2, f3, f4⟩ := HFX.out
    obtain ⟨g0, g1, g2, g3, g4⟩ := HFY.out
    go_wp2_with fail
    refine (HYX.out _ hb).mono ?_
    rintro e V ⟨rfl, hbn⟩
    clear f0 f1 f2 f3 f4 g0 g1 g2 g3 g4
    have HFX := Lib.hid (HFX.out.later hbn)
    have HFY := Lib.hid (HFY.out.later hbn)
    have hb := bel_next hb hbn
    clear hbn HYX
    obtain ⟨f0, f1, f2, f3, f4⟩ := HFX.out
    obtain ⟨g0, g1, g2, g3, g4⟩ := HFY.out
    go_wp2_with fail
    refine (HXX.out _ hb).mono ?_
    rintro e V ⟨rfl, hbn⟩
    clear f0 f1 f2 f3 f4 g0 g1 g2 g3 g4
    have HFX := Lib.hid (HFX.out.later hbn)
    have HFY := Lib.hid (HFY.out.later hbn)
    have hb := bel_next hb hbn
    clear hbn HXX
    obtain ⟨f0, f1, f2, f3, f4⟩ := HFX.out
    obtain ⟨g0, g1, g2, g3, g4⟩ := HFY.out
    go_wp2_with fail
    refine (HRd.out _ hb).mono ?_
    rintro e V ⟨rfl, hbn⟩
    clear f0 f1 f2 f3 f4 g0 g1 g2 g3 g4
    have HFX := Lib.hid (HFX.out.later hbn)
    have HFY := Lib.hid (HFY.out.later hbn)
    have hb := bel_next hb hbn
    clear hbn HRd
    obtain ⟨f0, f1, f2, f3, f4⟩ := HFX.out
    obtain ⟨g0, g1, g2, g3, g4⟩ := HFY.out
    go_wp2_with fail
    refine (HcL.out _ hb).mono ?_
    rintro e V ⟨rfl, hbn⟩
    clear f0 f1 f2 f3 f4 g0 g1 g2 g3 g4
    have HFX := Lib.hid (HFX.out.later hbn)
    have HFY := Lib.hid (HFY.out.later hbn)
    have hb := bel_next hb hbn
    clear hbn HcL
    obtain ⟨f0, f1, f2, f3, f4⟩ := HFX.out
    obtain ⟨g0, g1, g2, g3, g4⟩ := HFY.out
    go_wp2
    go_ret
    exact ⟨rfl, hb⟩
  · have hl := (right_rows hX hr).2.1
    have HcA := Lib.hid (fun W (h : Below w.heap.size w W) => refAll_any X _ W (HX.out W h) (Nat.le_refl _) hr)
    obtain ⟨hlong, hmax⟩ := right_all hX hr
    have HR := Lib.hid hr
    simp only [hr, Bool.true_and, Bool.and_true] at HcR HcC HXY HYX HXX HcL
    simp only [if_true] at HcC HcL
    simp only [FileT.agg, PcT.val] at HcR HcQ HcC HcS HXY HYX HXX HcL HcA ⊢
    have Hlong := Lib.hid hlong
    clear hr hN1 hX hlong hmax
    go_enter Try.func4, Try.ntmps4
    obtain ⟨f0, f1, f2, f3, f4⟩ := HFX.out
    obtain ⟨g0, g1, g2, g3, g4⟩ := HFY.out
    go_upto_region 1 with fail
    generalize (w.alloc (.cells #[.slice X.F.A X.F.n X.F.c, .slice X.lA X.ln X.lc, .int .i64 X.fuse, .int .i64 X.fault, .bool X.off] 25)).alloc (.cells #[.slice Y.F.A Y.F.n Y.F.c, .slice Y.lA Y.ln Y.lc, .int .i64 Y.fuse, .int .i64 Y.fault, .bool Y.off] 25) = W1 at *
    go_wp2_with fail
    refine (HW.out _ hb).mono ?_
    rintro e V ⟨rfl, hbn⟩
    clear f0 f1 f2 f3 f4 g0 g1 g2 g3 g4
    have HFX := Lib.hid (HFX.out.later hbn)
    have HFY := Lib.hid (HFY.out.later hbn)
    have hb := bel_next hb hbn
    clear hbn HW
    obtain ⟨f0, f1, f2, f3, f4⟩ := HFX.out
    obtain ⟨g0, g1, g2, g3, g4⟩ := HFY.out
    go_wp2_with fail
    refine (HcR.out _ hb).mono ?_
    rintro e V ⟨rfl, hbn⟩
    clear f0 f1 f2 f3 f4 g0 g1 g2 g3 g4
    have HFX := Lib.hid (HFX.out.later hbn)
    have HFY := Lib.hid (HFY.out.later hbn)
    have hb := bel_next hb hbn
    clear hbn HcR
    obtain ⟨f0, f1, f2, f3, f4⟩ := HFX.out
    obtain ⟨g0, g1, g2, g3, g4⟩ := HFY.out
    go_wp2_with fail
    refine (HcC.out _ hb).mono ?_
    rintro e V ⟨rfl, hbn⟩
    clear f0 f1 f2 f3 f4 g0 g1 g2 g3 g4
    have HFX := Lib.hid (HFX.out.later hbn)
    have HFY := Lib.hid (HFY.out.later hbn)
    have hb := bel_next hb hbn
    clear hbn HcC
    obtain ⟨f0, f1, f2, f3, f4⟩ := HFX.out
    obtain ⟨g0, g1, g2, g3, g4⟩ := HFY.out
    go_upto_region 7 with fail
    go_cut [11] (fun sv wx => sv = .bool (q && s) ∧ Below w.heap.size w wx ∧ Hid (FBox wx w.heap.size X) ∧ Hid (FBox wx (w.heap.size + 1) Y))
    case first =>
      cases q
      · go_wp2_with fail
        refine (HcQ.out _ hb).mono ?_
        rintro e V ⟨rfl, hbn⟩
        clear f0 f1 f2 f3 f4 g0 g1 g2 g3 g4
        have HFX := Lib.hid (HFX.out.later hbn)
        have HFY := Lib.hid (HFY.out.later hbn)
        have hb := bel_next hb hbn
        clear hbn HcQ
        obtain ⟨f0, f1, f2, f3, f4⟩ := HFX.out
        obtain ⟨g0, g1, g2, g3, g4⟩ := HFY.out
        go_wp2
        all_goals
          go_meet
          case rel => exact ⟨rfl, hb, HFX, HFY⟩
      · go_wp2_with fail
        refine (HcQ.out _ hb).mono ?_
        rintro e V ⟨rfl, hbn⟩
        clear f0 f1 f2 f3 f4 g0 g1 g2 g3 g4
        have HFX := Lib.hid (HFX.out.later hbn)
        have HFY := Lib.hid (HFY.out.later hbn)
        have hb := bel_next hb hbn
        clear hbn HcQ
        obtain ⟨f0, f1, f2, f3, f4⟩ := HFX.out
        obtain ⟨g0, g1, g2, g3, g4⟩ := HFY.out
        go_wp2_with fail
        refine (HcS.out _ hb).mono ?_
        rintro e V ⟨rfl, hbn⟩
        clear f0 f1 f2 f3 f4 g0 g1 g2 g3 g4
        have HFX := Lib.hid (HFX.out.later hbn)
        have HFY := Lib.hid (HFY.out.later hbn)
        have hb := bel_next hb hbn
        clear hbn HcS
        obtain ⟨f0, f1, f2, f3, f4⟩ := HFX.out
        obtain ⟨g0, g1, g2, g3, g4⟩ := HFY.out
        go_wp2
        all_goals
          go_meet
          case rel => exact ⟨by cases s <;> rfl, hb, HFX, HFY⟩
    case rest =>
      clear HcQ HcS hb HFX HFY f0 f1 f2 f3 f4 g0 g1 g2 g3 g4
      obtain ⟨rfl, hb, HFX, HFY⟩ := hcut
      obtain ⟨f0, f1, f2, f3, f4⟩ := HFX.out
      obtain ⟨g0, g1, g2, g3, g4⟩ := HFY.out
      have e7 : (q && s) = (s && q) := Bool.and_comm ..
      obtain ⟨b, hqs⟩ : ∃ b, (q && s) = b := ⟨_, rfl⟩
      rw [hqs] at HXY HYX ⊢
      clear hqs e7
      go_wp2_with fail
      refine (HXY.out _ hb).mono ?_
      rintro e V ⟨rfl, hbn⟩
      clear f0 f1 f2 f3 f4 g0 g1 g2 g3 g4
      have HFX := Lib.hid (HFX.out.later hbn)
      have HFY := Lib.hid (HFY.out.later hbn)
      have hb := bel_next hb hbn
      clear hbn HXY
      obtain ⟨f0, f1, f2, f3, f4⟩ := HFX.out
      obtain ⟨g0, g1, g2, g3, g4⟩ := HFY.out
      go_wp2_with fail
      refine (HYX.out _ hb).mono ?_
      rintro e V ⟨rfl, hbn⟩
      clear f0 f1 f2 f3 f4 g0 g1 g2 g3 g4
      have HFX := Lib.hid (HFX.out.later hbn)
      have HFY := Lib.hid (HFY.out.later hbn)
      have hb := bel_next hb hbn
      clear hbn HYX
      obtain ⟨f0, f1, f2, f3, f4⟩ := HFX.out
      obtain ⟨g0, g1, g2, g3, g4⟩ := HFY.out
      go_wp2_with fail
      refine (HXX.out _ hb).mono ?_
      rintro e V ⟨rfl, hbn⟩
      clear f0 f1 f2 f3 f4 g0 g1 g2 g3 g4
      have HFX := Lib.hid (HFX.out.later hbn)
      have HFY := Lib.hid (HFY.out.later hbn)
      have hb := bel_next hb hbn
      clear hbn HXX
      obtain ⟨f0, f1, f2, f3, f4⟩ := HFX.out
      obtain ⟨g0, g1, g2, g3, g4⟩ := HFY.out
      have hmx := Hlong.out
      obtain ⟨-, hmax⟩ := right_all (HX.out _ hb) HR.out
      rw [← hmx] at hmax
      clear hmx
      by_cases ha : a < 0
      · have HRd := Lib.hid (fun W (h : Below w.heap.size w W) => readF_arg X a n _ W (HX.out W h) (Nat.le_refl _) HN1.out HR.out (.inl ha))
        simp only [FileT.agg, PcT.val] at HRd
        generalize X.long = lo at *
        clear wa wn
        go_wp2_with fail
        refine (HRd.out _ hb).mono ?_
        rintro e V ⟨rfl, hbn⟩
        clear f0 f1 f2 f3 f4 g0 g1 g2 g3 g4
        have HFX := Lib.hid (HFX.out.later hbn)
        have HFY := Lib.hid (HFY.out.later hbn)
        have hb := bel_next hb hbn
        clear hbn HRd
        obtain ⟨f0, f1, f2, f3, f4⟩ := HFX.out
        obtain ⟨g0, g1, g2, g3, g4⟩ := HFY.out
        go_wp2_with fail
        refine (HcA.out _ hb).mono ?_
        rintro e V ⟨A, c, rfl, hO, hbn⟩
        clear f0 f1 f2 f3 f4 g0 g1 g2 g3 g4
        have HFX := Lib.hid (HFX.out.later hbn)
        have HFY := Lib.hid (HFY.out.later hbn)
        have hb := bel_next hb hbn
        have HO := Lib.hid hO
        clear hO
        clear hbn HcA
        obtain ⟨f0, f1, f2, f3, f4⟩ := HFX.out
        obtain ⟨g0, g1, g2, g3, g4⟩ := HFY.out
        go_wp2_with fail
        refine (HcL.out _ hb).mono ?_
        rintro e V ⟨rfl, hbn⟩
        clear f0 f1 f2 f3 f4 g0 g1 g2 g3 g4
        have HFX := Lib.hid (HFX.out.later hbn)
        have HFY := Lib.hid (HFY.out.later hbn)
        have hb := bel_next hb hbn
        clear hbn HcL
        obtain ⟨f0, f1, f2, f3, f4⟩ := HFX.out
        obtain ⟨g0, g1, g2, g3, g4⟩ := HFY.out
        go_wp2
        all_goals
          go_ret
          exact ⟨rfl, hb⟩
      · by_cases hn : n < 0
        · have HRd := Lib.hid (fun W (h : Below w.heap.size w W) => readF_arg X a n _ W (HX.out W h) (Nat.le_refl _) HN1.out HR.out (.inr hn))
          simp only [FileT.agg, PcT.val] at HRd
          have ha' : (a < 0) = False := by simp; omega
          clear ha wa wn
          generalize X.long = lo at *
          go_wp2_with fail
          refine (HRd.out _ hb).mono ?_
          rintro e V ⟨rfl, hbn⟩
          clear f0 f1 f2 f3 f4 g0 g1 g2 g3 g4
          have HFX := Lib.hid (HFX.out.later hbn)
          have HFY := Lib.hid (HFY.out.later hbn)
          have hb := bel_next hb hbn
          clear hbn HRd
          obtain ⟨f0, f1, f2, f3, f4⟩ := HFX.out
          obtain ⟨g0, g1, g2, g3, g4⟩ := HFY.out
          go_wp2_with fail
          refine (HcA.out _ hb).mono ?_
          rintro e V ⟨A, c, rfl, hO, hbn⟩
          clear f0 f1 f2 f3 f4 g0 g1 g2 g3 g4
          have HFX := Lib.hid (HFX.out.later hbn)
          have HFY := Lib.hid (HFY.out.later hbn)
          have hb := bel_next hb hbn
          have HO := Lib.hid hO
          clear hO
          clear hbn HcA
          obtain ⟨f0, f1, f2, f3, f4⟩ := HFX.out
          obtain ⟨g0, g1, g2, g3, g4⟩ := HFY.out
          go_wp2_with fail
          refine (HcL.out _ hb).mono ?_
          rintro e V ⟨rfl, hbn⟩
          clear f0 f1 f2 f3 f4 g0 g1 g2 g3 g4
          have HFX := Lib.hid (HFX.out.later hbn)
          have HFY := Lib.hid (HFY.out.later hbn)
          have hb := bel_next hb hbn
          clear hbn HcL
          obtain ⟨f0, f1, f2, f3, f4⟩ := HFX.out
          obtain ⟨g0, g1, g2, g3, g4⟩ := HFY.out
          go_wp2
          all_goals
            go_ret
            exact ⟨rfl, hb⟩
        · obtain ⟨k, rfl⟩ : ∃ k : Nat, a = (k : Int) := ⟨a.toNat, by omega⟩
          obtain ⟨m, rfl⟩ : ∃ k : Nat, n = (k : Int) := ⟨n.toNat, by omega⟩
          have ha' : ((k : Int) < 0) = False := by simp
          have hn' : ((m : Int) < 0) = False := by simp
          clear ha hn
          by_cases hs : X.long < k + m
          · have HRd := Lib.hid (fun W (h : Below w.heap.size w W) => readF_short X k m _ W (HX.out W h) (Nat.le_refl _) HN1.out HR.out wa wn hs)
            simp only [FileT.agg, PcT.val] at HRd
            clear wa wn
            generalize X.long = lo at *
            by_cases hk : lo < k
            · have h1 : ((lo : Int) < (k : Int)) = True := by simp; omega
              clear hk hs
              go_wp2_with fail
              refine (HRd.out _ hb).mono ?_
              rintro e V ⟨rfl, hbn⟩
              clear f0 f1 f2 f3 f4 g0 g1 g2 g3 g4
              have HFX := Lib.hid (HFX.out.later hbn)
              have HFY := Lib.hid (HFY.out.later hbn)
              have hb := bel_next hb hbn
              clear hbn HRd
              obtain ⟨f0, f1, f2, f3, f4⟩ := HFX.out
              obtain ⟨g0, g1, g2, g3, g4⟩ := HFY.out
              go_wp2_with fail
              refine (HcA.out _ hb).mono ?_
              rintro e V ⟨A, c, rfl, hO, hbn⟩
              clear f0 f1 f2 f3 f4 g0 g1 g2 g3 g4
              have HFX := Lib.hid (HFX.out.later hbn)
              have HFY := Lib.hid (HFY.out.later hbn)
              have hb := bel_next hb hbn
              have HO := Lib.hid hO
              clear hO
              clear hbn HcA
              obtain ⟨f0, f1, f2, f3, f4⟩ := HFX.out
              obtain ⟨g0, g1, g2, g3, g4⟩ := HFY.out
              go_wp2_with fail
              refine (HcL.out _ hb).mono ?_
              rintro e V ⟨rfl, hbn⟩
              clear f0 f1 f2 f3 f4 g0 g1 g2 g3 g4
              have HFX := Lib.hid (HFX.out.later hbn)
              have HFY := Lib.hid (HFY.out.later hbn)
              have hb := bel_next hb hbn
              clear hbn HcL
              obtain ⟨f0, f1, f2, f3, f4⟩ := HFX.out
              obtain ⟨g0, g1, g2, g3, g4⟩ := HFY.out
              go_wp2
              all_goals
                go_ret
                exact ⟨rfl, hb⟩
            · have h1 : ((lo : Int) < (k : Int)) = False := by simp; omega
              have h2 : ((lo : Int) - (k : Int) < (m : Int)) = True := by simp; omega
              have e1 : IntKind.i64.wrap ((lo : Int) - (k : Int)) = (lo : Int) - (k : Int) := by rw [IntKind.wrap_i64]; omega
              have e2 : wrap64 ((lo : Int) - (k : Int)) = (lo : Int) - (k : Int) := by unfold wrap64; omega
              clear hk hs
              go_wp2_with fail
              refine (HRd.out _ hb).mono ?_
              rintro e V ⟨rfl, hbn⟩
              clear f0 f1 f2 f3 f4 g0 g1 g2 g3 g4
              have HFX := Lib.hid (HFX.out.later hbn)
              have HFY := Lib.hid (HFY.out.later hbn)
              have hb := bel_next hb hbn
              clear hbn HRd
              obtain ⟨f0, f1, f2, f3, f4⟩ := HFX.out
              obtain ⟨g0, g1, g2, g3, g4⟩ := HFY.out
              go_wp2_with fail
              refine (HcA.out _ hb).mono ?_
              rintro e V ⟨A, c, rfl, hO, hbn⟩
              clear f0 f1 f2 f3 f4 g0 g1 g2 g3 g4
              have HFX := Lib.hid (HFX.out.later hbn)
              have HFY := Lib.hid (HFY.out.later hbn)
              have hb := bel_next hb hbn
              have HO := Lib.hid hO
              clear hO
              clear hbn HcA
              obtain ⟨f0, f1, f2, f3, f4⟩ := HFX.out
              obtain ⟨g0, g1, g2, g3, g4⟩ := HFY.out
              go_wp2_with fail
              refine (HcL.out _ hb).mono ?_
              rintro e V ⟨rfl, hbn⟩
              clear f0 f1 f2 f3 f4 g0 g1 g2 g3 g4
              have HFX := Lib.hid (HFX.out.later hbn)
              have HFY := Lib.hid (HFY.out.later hbn)
              have hb := bel_next hb hbn
              clear hbn HcL
              obtain ⟨f0, f1, f2, f3, f4⟩ := HFX.out
              obtain ⟨g0, g1, g2, g3, g4⟩ := HFY.out
              go_wp2
              all_goals
                go_ret
                exact ⟨rfl, hb⟩
          · have HRd := Lib.hid (fun W (h : Below w.heap.size w W) => readF_ok X k m _ W (HX.out W h) (Nat.le_refl _) HN1.out HR.out (by omega))
            simp only [FileT.agg, PcT.val] at HRd
            clear wa wn
            generalize X.long = lo at *
            have h1 : ((lo : Int) < (k : Int)) = False := by simp; omega
            have h2 : ((lo : Int) - (k : Int) < (m : Int)) = False := by simp; omega
            have e1 : IntKind.i64.wrap ((lo : Int) - (k : Int)) = (lo : Int) - (k : Int) := by rw [IntKind.wrap_i64]; omega
            have e2 : wrap64 ((lo : Int) - (k : Int)) = (lo : Int) - (k : Int) := by unfold wrap64; omega
            have e3 : IntKind.i64.wrap ((k : Int) + (m : Int)) = ((k + m : Nat) : Int) := by rw [IntKind.wrap_i64]; omega
            have e4 : wrap64 ((k : Int) + (m : Int)) = ((k + m : Nat) : Int) := by unfold wrap64; omega
            go_wp2_with fail
            refine (HRd.out _ hb).mono ?_
            rintro e V ⟨p, rfl, hpl, hpo, hbn, -⟩
            clear f0 f1 f2 f3 f4 g0 g1 g2 g3 g4
            have HFX := Lib.hid (HFX.out.later hbn)
            have HFY := Lib.hid (HFY.out.later hbn)
            have hb := bel_next hb hbn
            have HP := Lib.hid (And.intro hpl hpo)
            clear hpl hpo
            clear hbn HRd
            obtain ⟨f0, f1, f2, f3, f4⟩ := HFX.out
            obtain ⟨g0, g1, g2, g3, g4⟩ := HFY.out
            go_wp2_with fail
            refine (HcA.out _ hb).mono ?_
            rintro e V ⟨A, c, rfl, hO, hbn⟩
            clear f0 f1 f2 f3 f4 g0 g1 g2 g3 g4
            have HFX := Lib.hid (HFX.out.later hbn)
            have HFY := Lib.hid (HFY.out.later hbn)
            have hb := bel_next hb hbn
            obtain ⟨-, hlc, -⟩ := own_facts hO.out
            have HO := Lib.hid hO
            have HP := Lib.hid (And.intro HP.out.1 ((HP.out.2.later hbn).more hbn.size))
            clear hO
            clear hbn HcA
            obtain ⟨f0, f1, f2, f3, f4⟩ := HFX.out
            obtain ⟨g0, g1, g2, g3, g4⟩ := HFY.out
            go_wp2_with fail
            refine (HcL.out _ hb).mono ?_
            rintro e V ⟨rfl, hbn⟩
            clear f0 f1 f2 f3 f4 g0 g1 g2 g3 g4
            have HFX := Lib.hid (HFX.out.later hbn)
            have HFY := Lib.hid (HFY.out.later hbn)
            have hb := bel_next hb hbn
            have HO := Lib.hid (Bytes.below (Bytes.own HO.out.out) hbn)
            have HP := Lib.hid (And.intro HP.out.1 ((HP.out.2.later hbn).more hbn.size))
            clear hbn HcL
            obtain ⟨f0, f1, f2, f3, f4⟩ := HFX.out
            obtain ⟨g0, g1, g2, g3, g4⟩ := HFY.out
            have hct := (HO.out.first (show k + m ≤ lo by omega)).cut (k := k) (cap := c) (by omega) (by omega)
            rw [show k + m - k = m by omega] at hct
            have i1 : (k : Int) ≤ ((k + m : Nat) : Int) := by omega
            have i2 : ((k + m : Nat) : Int) ≤ (c : Int) := by omega
            have i3 : (0 : Int) ≤ (k : Int) := by omega
            by_cases hck : c = k
            · rw [if_pos hck] at hct
              subst hck
              have hc := fun cc => bequal_any p.A A p.n p.c m cc p.l _ _ _ V HP.out.2.here hct true (same_yes' HP.out.1)
              clear hct hs
              go_wp2_with fail
              refine (hc _).mono ?_
              rintro e V9 ⟨rfl, rfl⟩
              clear hc
              go_wp2
              all_goals
                go_ret
                exact ⟨rfl, hb⟩
            · rw [if_neg hck] at hct
              have hc := fun cc => bequal_any p.A _ p.n p.c m cc p.l _ _ _ V HP.out.2.here hct true (same_yes' HP.out.1)
              clear hct hs
              go_wp2_with fail
              refine (hc _).mono ?_
              rintro e V9 ⟨rfl, rfl⟩
              clear hc
              go_wp2
              all_goals
                go_ret
                exact ⟨rfl, hb⟩
end Go.Proofs.Ythoenmggjbojoaa
