import Derived.Test.YtghmehfmchadoaaDoorGag
import Derived.Test.YtghmehfmchadoaaDoorGai
import Derived.Deep.DeepCutAuto
import Derived.Test.YtghmehfmchadoaaDoorGac
import Derived.RangeFuncBound
import Derived.RangeFuncCalls
import Derived.RangeFuncLeaves
import Derived.Shelf.Abstract
import Derived.Shelf.RegionOpen
import Derived.OwnWalkIn
import Derived.TacticsInMore
import Derived.LoopNIn
import Derived.LoopIn
import Derived.Stop.RegionWithIn
import Derived.RangeFuncBox
import Derived.Lib.OwnKind
/-
  Layer 11: Put and Size.
-/
namespace Go.Proofs.YtghmehfmchadoaaDoor
open Go.RowKit
set_option linter.unusedVariables false

/-- What Put gives. -/
def PutP (X : FileT) (S : FileS) (a : Nat) (k : Int) (w : World) (e : Ending) (w' : World) : Prop :=
  ∃ Y : FileT, e = .returned (.tuple #[Y.agg, .int .i64 (a : Nat), .int .i64 k]) ∧ Y.s = S ∧ LieF w' w'.heap.size Y ∧ Below w.heap.size w w' ∧ (∀ g, g < w.heap.size → AwayF X g → AwayF Y g)
def allowB (n : Int) : Bool := decide (1 ≤ n) && decide (n ≤ 4096)
set_option maxRecDepth 20000 in
theorem allowed_any (n : Int) (w : World) : Calls Tryd.prog 30 #[.int .i64 n] w fun e w' => e = .returned (.bool (allowB n)) ∧ w = w' := by
  by_cases h1 : 1 ≤ n
  · have h1' : decide ((1 : Int) ≤ n) = true := decide_eq_true h1
    by_cases h2 : n ≤ 4096
    · rw [show allowB n = true by unfold allowB; simp [h1, h2]]
      go_enter Tryd.func30, Tryd.ntmps30
      go_wp2
      go_ret
      exact ⟨by simp, rfl⟩
    · have h2' : (n ≤ 4096) = False := by simp; omega
      rw [show allowB n = false by unfold allowB; simp [h1, h2]]
      go_enter Tryd.func30, Tryd.ntmps30
      go_wp2
      go_ret
      exact ⟨by simp, rfl⟩
  · rw [show allowB n = false by unfold allowB; simp [h1]]
    have h1' : ((1 : Int) ≤ n) = False := by simp; omega
    go_enter Tryd.func30, Tryd.ntmps30
    go_wp2
    go_ret
    exact ⟨by simp, rfl⟩
set_option maxRecDepth 20000 in
set_option maxHeartbeats 2000000 in
theorem put_bad (X : FileT) (p : PcT) (B : Nat) (w : World) (hL : LieF w B X) (hB : B ≤ w.heap.size) (hN : ∀ p ∈ X.Q, p.n ≤ 1048576) (hr : X.right = false) :
    Calls Tryd.prog 11 #[X.agg, .slice p.A p.n p.c] w (PutP X X.s 0 200 w) := by
  have hb1 := bel_alloc (bel_alloc (Below.refl w.heap.size w) (.cells #[.slice X.F.A X.F.n X.F.c, .slice X.lA X.ln X.lc, .int .i64 X.fuse, .int .i64 X.fault, .bool X.off] 25)) (.cells #[.slice none 0 0, .slice none 0 0, .int .i64 0, .int .i64 0, .bool false] 25)
  have HX := (FBox.new w X 25).later (bel_alloc (Below.refl _ _) (.cells #[.slice none 0 0, .slice none 0 0, .int .i64 0, .int .i64 0, .bool false] 25))
  have hch := checkF_any X B _ (hL.later (hb1.mono hB)) (Nat.le_trans hB hb1.size) hN
  rw [hr] at hch
  have HV := FVar.new (w.alloc (.cells #[.slice X.F.A X.F.n X.F.c, .slice X.lA X.ln X.lc, .int .i64 X.fuse, .int .i64 X.fault, .bool X.off] 25)) (.slice none 0 0) (.slice none 0 0) (.int .i64 0) (.int .i64 0) (.bool false) 25
  rw [World.size_alloc] at HV
  simp only [FileT.agg, PcT.val] at hch ⊢
  obtain ⟨f0, f1, f2, f3, f4⟩ := HX
  clear hN hr
  go_enter Tryd.func11, Tryd.ntmps11
  go_wp2_with fail
  generalize ((w.alloc (.cells #[.slice X.F.A X.F.n X.F.c, .slice X.lA X.ln X.lc, .int .i64 X.fuse, .int .i64 X.fault, .bool X.off] 25)).alloc (.cells #[.slice none 0 0, .slice none 0 0, .int .i64 0, .int .i64 0, .bool false] 25)) = W1 at *
  refine hch.mono ?_
  rintro e W2 ⟨rfl, hb2⟩
  have hb3 := bel_next hb1 hb2
  have f0' := kept_later hb2 f0
  have f1' := kept_later hb2 f1
  have f2' := kept_later hb2 f2
  have f3' := kept_later hb2 f3
  have f4' := kept_later hb2 f4
  obtain ⟨⟨j0, j1, j2, j3, j4⟩, k0, k1, k2, k3, k4⟩ := HV.later hb2
  have hbe := fbelow_set5 (a := .slice X.F.A X.F.n X.F.c) (b := .slice X.lA X.ln X.lc) (c := .int .i64 X.fuse) (d := .int .i64 X.fault) (e := .bool X.off) hb3 (show w.heap.size ≤ w.heap.size + 1 by omega)
  have hLe := (hL.later (hbe.mono hB)).more (Nat.le_trans hB hbe.size)
  clear hch f0 f1 f2 f3 f4 HV hb1 hb2 hL
  go_wp2
  (try rw [Exit.noGoto_ret])
  refine bodyPost_ret (v := .tuple #[.agg #[.slice X.F.A X.F.n X.F.c, .slice X.lA X.ln X.lc, .int .i64 X.fuse, .int .i64 X.fault, .bool X.off], .int .i64 0, .int .i64 200]) ?_ rfl ⟨X, rfl, rfl, hLe, hbe, fun _ _ h => h⟩
  simp [results, Tryd.results11, go_sem, *]
set_option maxRecDepth 20000 in
set_option maxHeartbeats 2000000 in
theorem put_arg (X : FileT) (p : PcT) (B : Nat) (w : World) (hL : LieF w B X) (hB : B ≤ w.heap.size) (hr : X.right = true) (hn : allowB (p.n : Int) = false) :
    Calls Tryd.prog 11 #[X.agg, .slice p.A p.n p.c] w (PutP X X.s 0 2 w) := by
  have hb1 := bel_alloc (bel_alloc (Below.refl w.heap.size w) (.cells #[.slice X.F.A X.F.n X.F.c, .slice X.lA X.ln X.lc, .int .i64 X.fuse, .int .i64 X.fault, .bool X.off] 25)) (.cells #[.slice none 0 0, .slice none 0 0, .int .i64 0, .int .i64 0, .bool false] 25)
  have HX := (FBox.new w X 25).later (bel_alloc (Below.refl _ _) (.cells #[.slice none 0 0, .slice none 0 0, .int .i64 0, .int .i64 0, .bool false] 25))
  have hch := checkF_any X B _ (hL.later (hb1.mono hB)) (Nat.le_trans hB hb1.size) (right_rows hL hr).1
  rw [if_pos hr] at hch
  have hal := fun W => allowed_any (p.n : Int) W
  rw [hn] at hal
  have HV := FVar.new (w.alloc (.cells #[.slice X.F.A X.F.n X.F.c, .slice X.lA X.ln X.lc, .int .i64 X.fuse, .int .i64 X.fault, .bool X.off] 25)) (.slice none 0 0) (.slice none 0 0) (.int .i64 0) (.int .i64 0) (.bool false) 25
  rw [World.size_alloc] at HV
  simp only [FileT.agg, PcT.val] at hch ⊢
  obtain ⟨f0, f1, f2, f3, f4⟩ := HX
  clear hr hn
  go_enter Tryd.func11, Tryd.ntmps11
  go_wp2_with fail
  generalize ((w.alloc (.cells #[.slice X.F.A X.F.n X.F.c, .slice X.lA X.ln X.lc, .int .i64 X.fuse, .int .i64 X.fault, .bool X.off] 25)).alloc (.cells #[.slice none 0 0, .slice none 0 0, .int .i64 0, .int .i64 0, .bool false] 25)) = W1 at *
  refine hch.mono ?_
  rintro e W2 ⟨rfl, hb2⟩
  have hb3 := bel_next hb1 hb2
  have f0' := kept_later hb2 f0
  have f1' := kept_later hb2 f1
  have f2' := kept_later hb2 f2
  have f3' := kept_later hb2 f3
  have f4' := kept_later hb2 f4
  obtain ⟨⟨j0, j1, j2, j3, j4⟩, k0, k1, k2, k3, k4⟩ := HV.later hb2
  have hbe := fbelow_set5 (a := .slice X.F.A X.F.n X.F.c) (b := .slice X.lA X.ln X.lc) (c := .int .i64 X.fuse) (d := .int .i64 X.fault) (e := .bool X.off) hb3 (show w.heap.size ≤ w.heap.size + 1 by omega)
  have hLe := (hL.later (hbe.mono hB)).more (Nat.le_trans hB hbe.size)
  clear hch f0 f1 f2 f3 f4 HV hb1 hb2 hL
  go_wp2_with fail
  refine (hal _).mono ?_
  rintro e W3 ⟨rfl, rfl⟩
  clear hal
  go_wp2
  (try rw [Exit.noGoto_ret])
  refine bodyPost_ret (v := .tuple #[.agg #[.slice X.F.A X.F.n X.F.c, .slice X.lA X.ln X.lc, .int .i64 X.fuse, .int .i64 X.fault, .bool X.off], .int .i64 0, .int .i64 2]) ?_ rfl ⟨X, rfl, rfl, hLe, hbe, fun _ _ h => h⟩
  simp [results, Tryd.results11, go_sem, *]
/-- What a record's piece becomes of a file. -/
def putO (S : FileS) (long : Nat) (b : List UInt8) : FileS × Int := S.append long (Fra.pieceL S.all (Fra.encL b))
set_option maxRecDepth 100000 in
set_option maxHeartbeats 4000000 in
theorem put_ok (X : FileT) (p : PcT) (B : Nat) (w : World) (htab : Tab w) (hL : LieF w B X) (hp : p.Ok w B) (hB : B ≤ w.heap.size) (hr : X.right = true) (hn : 1 ≤ p.n ∧ p.n ≤ 4096) :
    Calls Tryd.prog 11 #[X.agg, .slice p.A p.n p.c] w (PutP X (putO X.s X.long p.l).1 (if (putO X.s X.long p.l).2 = 0 then Fra.atN X.all else 0) (putO X.s X.long p.l).2 w) := by
  obtain ⟨S, k, hSk⟩ : ∃ S k, putO X.s X.long p.l = (S, k) := ⟨_, _, rfl⟩
  obtain ⟨a, ha⟩ : ∃ a, (if k = 0 then Fra.atN X.all else 0) = a := ⟨_, rfl⟩
  rw [hSk]
  simp only
  rw [ha]
  have hb1 := bel_alloc (bel_alloc (Below.refl w.heap.size w) (.cells #[.slice X.F.A X.F.n X.F.c, .slice X.lA X.ln X.lc, .int .i64 X.fuse, .int .i64 X.fault, .bool X.off] 25)) (.cells #[.slice none 0 0, .slice none 0 0, .int .i64 0, .int .i64 0, .bool false] 25)
  have HX := Lib.hid ((FBox.new w X 25).later (bel_alloc (Below.refl _ _) (.cells #[.slice none 0 0, .slice none 0 0, .int .i64 0, .int .i64 0, .bool false] 25)))
  obtain ⟨hlong, hmax⟩ := right_all hL hr
  have hch := checkF_any X B _ (hL.later (hb1.mono hB)) (Nat.le_trans hB hb1.size) (right_rows hL hr).1
  rw [if_pos hr] at hch
  have hal := fun W => allowed_any (p.n : Int) W
  rw [show allowB (p.n : Int) = true by unfold allowB; simp; omega] at hal
  have hV := FVar.new (w.alloc (.cells #[.slice X.F.A X.F.n X.F.c, .slice X.lA X.ln X.lc, .int .i64 X.fuse, .int .i64 X.fault, .bool X.off] 25)) (.slice none 0 0) (.slice none 0 0) (.int .i64 0) (.int .i64 0) (.bool false) 25
  rw [World.size_alloc] at hV
  have HV := Lib.hid hV
  have hbg := Lib.hid (fun W (h : Below w.heap.size w W) => begin_any X B W (hL.later (h.mono hB)) (Nat.le_trans hB h.size) hr)
  have hwr := Lib.hid (fun W b s l (h : Below w.heap.size w W) (hw : Wt W b s l) (h1 : s ≤ 600000) (h2 : l.length ≤ 1000) => write_any b s l p B W (htab.below h htab.lt) hw (hp.later (h.mono hB)) (Nat.le_trans hB h.size) hn.2 h1 h2)
  have hap := Lib.hid (fun W (h : Below w.heap.size w W) (q : PcT) (hq : q.Ok W W.heap.size) (hql : q.l = Fra.pieceL X.all (Fra.encL p.l)) => show Calls Tryd.prog 18 #[X.agg, q.val] W (OpP X (AwayP q) (S, k) W) from by
    have h1 := appendF_any X q W.heap.size W ((hL.later (h.mono hB)).more (Nat.le_trans hB h.size)) hq (Nat.le_refl _) hr
    have hqn : ¬ q.n = 0 := by
      rw [← hq.len, hql]
      unfold Fra.pieceL
      rw [List.length_append]
      have := (Fra.layP_ge (Fra.encL p.l) (Fra.atN X.all)).1
      rw [Fra.encL_len] at this
      omega
    rw [if_neg hqn, hql] at h1
    have e : X.s.append X.long (Fra.pieceL X.all (Fra.encL p.l)) = (S, k) := by rw [← hSk]; unfold putO; rw [all_s]
    rw [e] at h1
    exact h1)
  have hXA := Lib.hid (fun g (hg : B ≤ g) => hL.away hg)
  simp only [FileT.agg, PcT.val] at hch hbg hap ⊢
  have Ha := Lib.hid ha
  have hal0 : (X.all).length ≤ 524288 := hmax
  have hel := Lib.hid (show Fra.aheadL X.all ++ Fra.layP (X.all.length + (Fra.aheadL X.all).length) (Fra.encL p.l) = Fra.pieceL X.all (Fra.encL p.l) ∧ (X.all.length + (Fra.aheadL X.all).length) = Fra.atN X.all ∧ (Fra.aheadL X.all).length ≤ 1000 ∧ (Fra.pieceL X.all (Fra.encL p.l)).length ≤ 8300 from by
    have e := Fra.piece_at X.all []
    rw [List.length_append] at e
    refine ⟨by rw [e]; rfl, e, ?_, Fra.piece_len X.all _ (by rw [Fra.encL_len, hp.len]; omega)⟩
    rw [Fra.aheadL_len]
    unfold Fra.atN Fra.frontN Fra.padN
    split <;> split <;> omega)
  generalize Fra.pieceL X.all (Fra.encL p.l) = pc at *
  clear hp hn hlong hmax hr htab ha hSk hV
  obtain ⟨f0, f1, f2, f3, f4⟩ := HX.out
  obtain ⟨iF, hiF, hzF⟩ := file_info
  go_enter Tryd.func11, Tryd.ntmps11
  go_wp2_with fail
  generalize ((w.alloc (.cells #[.slice X.F.A X.F.n X.F.c, .slice X.lA X.ln X.lc, .int .i64 X.fuse, .int .i64 X.fault, .bool X.off] 25)).alloc (.cells #[.slice none 0 0, .slice none 0 0, .int .i64 0, .int .i64 0, .bool false] 25)) = W1 at *
  refine hch.mono ?_
  rintro e W2 ⟨rfl, hb2⟩
  have hb3 := bel_next hb1 hb2
  have HX2 := Lib.hid (HX.out.later hb2)
  have HV2 := Lib.hid (HV.out.later hb2)
  clear hch f0 f1 f2 f3 f4 HX HV hb1 hb2
  obtain ⟨f0, f1, f2, f3, f4⟩ := HX2.out
  go_wp2_with fail
  refine (hal _).mono ?_
  rintro e W3 ⟨rfl, rfl⟩
  clear hal
  go_wp2_with fail
  refine (hbg.out _ hb3).mono ?_
  rintro e W4 ⟨b, rfl, hbge, hw4, hb4⟩
  have hb5 := bel_next hb3 hb4
  have HX4 := Lib.hid (HX2.out.later hb4)
  have HV4 := Lib.hid (HV2.out.later hb4)
  have hw := hb3.size
  have hgb : w.heap.size ≤ b := by omega
  have hb2s : w.heap.size + 2 ≤ W2.heap.size := by
    have := World.block_lt_of_cell? _ _ HV2.out.1.1
    have : w.heap.size + 1 < W2.heap.size := this
    omega
  clear f0 f1 f2 f3 f4 HX2 HV2 hb4 hb3 hbg
  go_wp2_with fail
  refine (hwr.out _ b _ _ hb5 hw4 (by omega) hel.out.2.2.1).mono ?_
  rintro e W5 ⟨rfl, hw5, hb6⟩
  rw [hel.out.1] at hw5
  rw [hel.out.2.1]
  obtain ⟨A, c, w50, w51, w52, w53⟩ := hw5
  have hb7 := hb5.trans (hb6.mono hgb)
  have HX5 := Lib.hid (show FBox W5 w.heap.size X from by
    obtain ⟨g0, g1, g2, g3, g4⟩ := HX4.out
    have hlt : w.heap.size < b := by omega
    exact ⟨(hb6.cell (p := ⟨w.heap.size, 0, none⟩) hlt).trans g0, (hb6.cell (p := ⟨w.heap.size, 1, none⟩) hlt).trans g1, (hb6.cell (p := ⟨w.heap.size, 2, none⟩) hlt).trans g2, (hb6.cell (p := ⟨w.heap.size, 3, none⟩) hlt).trans g3, (hb6.cell (p := ⟨w.heap.size, 4, none⟩) hlt).trans g4⟩)
  have HV5 := Lib.hid (HV4.out.low (B := b) (by omega) hb6)
  have hpo : PcT.Ok W5 W5.heap.size ⟨A, pc.length, c, pc⟩ := ⟨Bytes.own w53, (own_facts w53).1, (own_facts w53).2.1, (own_facts w53).2.2⟩
  have HcA := Lib.hid (fun W (h : Below W5.heap.size W5 W) => hap.out W (hb7.trans (h.mono hb7.size)) ⟨A, pc.length, c, pc⟩ ((hpo.later h).more h.size) rfl)
  have hPA := Lib.hid (fun g (hg : g < b + 1) => (own_away w53 hg : ∀ b' off, A = some ⟨b', off, none⟩ → 0 < pc.length → b' ≠ g))
  have hPA2 := Lib.hid (fun g (hg : W5.heap.size ≤ g) => (hpo.away hg : AwayP _ g))
  have hgw := Lib.hid hb7.size
  have hbl := World.block_lt_of_cell? _ _ w51
  have hz5 : w.heap.size + 2 ≤ b ∧ b < W5.heap.size := ⟨Nat.le_trans hb2s hbge, hbl⟩
  clear hbl
  have hbs := hb6.size
  clear hel hwr hap w50 w52 w53 hb6 hb5 hw4 HX4 HV4 hpo
  go_upto_region 7 with fail
  have x0 : ∀ W, Below W5.heap.size W5 W → W.cell? ⟨w.heap.size, 0, none⟩ = some (.slice X.F.A X.F.n X.F.c) := fun W h => (HX5.out.later h).1
  have x1 : ∀ W, Below W5.heap.size W5 W → W.cell? ⟨w.heap.size, 1, none⟩ = some (.slice X.lA X.ln X.lc) := fun W h => (HX5.out.later h).2.1
  have x2 : ∀ W, Below W5.heap.size W5 W → W.cell? ⟨w.heap.size, 2, none⟩ = some (.int .i64 X.fuse) := fun W h => (HX5.out.later h).2.2.1
  have x3 : ∀ W, Below W5.heap.size W5 W → W.cell? ⟨w.heap.size, 3, none⟩ = some (.int .i64 X.fault) := fun W h => (HX5.out.later h).2.2.2.1
  have x4 : ∀ W, Below W5.heap.size W5 W → W.cell? ⟨w.heap.size, 4, none⟩ = some (.bool X.off) := fun W h => (HX5.out.later h).2.2.2.2
  have y1 : ∀ W, Below W5.heap.size W5 W → W.cell? ⟨b, 1, none⟩ = some (.slice A pc.length c) := fun W h => kept_later h w51
  clear w51
  go_cut [9, 10] (fun s9 s10 wx => ∃ (g9 : Nat) (Y : FileT), s9 = .pointer (some ⟨g9, 0, none⟩) ∧ s10 = .int .i64 k ∧ Hid (FAt wx g9 Y) ∧ Y.s = S ∧ Below W5.heap.size W5 wx ∧ W5.heap.size ≤ g9 ∧ Hid (∀ g, g < b → AwayF X g → AwayF Y g))
  case first =>
    refine wp_region_held_drew (S := fun W => Below W5.heap.size W5 W) (by kernel_rfl) (below_drewN (Below.refl _ _) 1) (fun hHeld => ?_)
    refine rg_in 0 rfl (by kernel_rfl) (by kernel_rfl) (by kernel_rfl) (by rfl) (v := ?_) (fun _ _ _ h => h) hHeld (fun w hSw => ?_) ?_
    rotate_left
    · (try dsimp only at hSw); go_simp <;> (with_reducible rfl)
    (try simp only [Act.put, List.setIfInBounds_toArray, List.set_cons_zero, List.set_cons_succ])
    refine rg_in 1 rfl (by kernel_rfl) (by kernel_rfl) (by kernel_rfl) (by rfl) (v := ?_) (fun _ _ _ h => h) hHeld (fun w hSw => ?_) ?_
    rotate_left
    · (try dsimp only at hSw); go_simp <;> (with_reducible rfl)
    (try simp only [Act.put, List.setIfInBounds_toArray, List.set_cons_zero, List.set_cons_succ])
    refine rg_in 2 rfl (by kernel_rfl) (by kernel_rfl) (by kernel_rfl) (by rfl) (v := ?_) (fun _ _ _ h => h) hHeld (fun w hSw => ?_) ?_
    rotate_left
    · (try dsimp only at hSw); go_simp <;> (with_reducible rfl)
    (try simp only [Act.put, List.setIfInBounds_toArray, List.set_cons_zero, List.set_cons_succ])
    refine rg_in 3 rfl (by kernel_rfl) (by kernel_rfl) (by kernel_rfl) (by rfl) (v := ?_) (fun _ _ _ h => h) hHeld (fun w hSw => ?_) ?_
    rotate_left
    · (try dsimp only at hSw); go_simp <;> (with_reducible rfl)
    (try simp only [Act.put, List.setIfInBounds_toArray, List.set_cons_zero, List.set_cons_succ])
    refine rg_in 4 rfl (by kernel_rfl) (by kernel_rfl) (by kernel_rfl) (by rfl) (v := ?_) (fun _ _ _ h => h) hHeld (fun w hSw => ?_) ?_
    rotate_left
    · (try dsimp only at hSw); go_simp <;> (with_reducible rfl)
    (try simp only [Act.put, List.setIfInBounds_toArray, List.set_cons_zero, List.set_cons_succ])
    refine rg_in 5 rfl (by kernel_rfl) (by kernel_rfl) (by kernel_rfl) (by rfl) (v := ?_) (fun _ _ _ h => h) hHeld (fun w hSw => ?_) ?_
    rotate_left
    · (try dsimp only at hSw); go_simp <;> (with_reducible rfl)
    (try simp only [Act.put, List.setIfInBounds_toArray, List.set_cons_zero, List.set_cons_succ])
    refine wpAnyH_ready (rs := [6, 10]) (by kernel_rfl) (by simp) ?_
    refine rg_cons rfl (by rfl) (fun K hK => ?_) ?_
    · have hgw6 := hHeld.size
      go_simp
      (go_at_call 18; (with_reducible refine (HcA.out _ hHeld).mono ?_); (rintro e w106 ⟨Y, rfl, hYs, hYL, hb6, hYa⟩))
      simp only [FileT.agg, PcT.val]
      refine hK.out _ _ (S_call hb6 hHeld rfl) (fun hHeld => ?_)
      clear hK K
      (try simp only [Act.put, List.setIfInBounds_toArray, List.set_cons_zero, List.set_cons_succ])
      refine rg_in 7 rfl (by kernel_rfl) (by kernel_rfl) (by kernel_rfl) (by rfl) (v := ?_) (fun _ _ _ h => h) hHeld (fun w hSw => ?_) ?_
      rotate_left
      · (try dsimp only at hSw); go_simp <;> (with_reducible rfl)
      (try simp only [Act.put, List.setIfInBounds_toArray, List.set_cons_zero, List.set_cons_succ])
      refine rg_in 8 rfl (by kernel_rfl) (by kernel_rfl) (by kernel_rfl) (by rfl) (v := ?_) (fun _ _ _ h => h) hHeld (fun w hSw => ?_) ?_
      rotate_left
      · (try dsimp only at hSw); go_simp <;> (with_reducible rfl)
      (try simp only [Act.put, List.setIfInBounds_toArray, List.set_cons_zero, List.set_cons_succ])
      refine rg_in 9 rfl (by kernel_rfl) (by kernel_rfl) (by kernel_rfl) (by rfl) (v := ?_) (fun _ _ _ h => h) hHeld (fun w hSw => ?_) ?_
      rotate_left
      · (try dsimp only at hSw); go_simp <;> (with_reducible rfl)
      (try simp only [Act.put, List.setIfInBounds_toArray, List.set_cons_zero, List.set_cons_succ])
      refine rg_do 10 rfl (by kernel_rfl) (by rfl) (fun K hK => ?_)
      have hgw10 := hHeld.size
      refine step_alloc 25 rfl iF _ hiF hzF ?_
      intro g110 w110 hge10 hbox10 hb10
      refine hK.out _ _ (S_call hb10 hHeld rfl) (fun hHeld => ?_)
      clear hK K
      (try simp only [Act.put, List.setIfInBounds_toArray, List.set_cons_zero, List.set_cons_succ])
      refine rg_do 11 rfl (by kernel_rfl) (by rfl) (fun K hK => ?_)
      have hV10 := Lib.hid (FVar.later (fvar_blk hbox10) (Below.refl _ _))
      have hLY := Lib.hid ((hYL.later hb10).more (Below.size hb10))
      have hHb := Lib.hid hHeld
      have q0 := hV10.out.1.1
      have q1 := hV10.out.1.2.1
      have q2 := hV10.out.1.2.2.1
      have q3 := hV10.out.1.2.2.2.1
      have q4 := hV10.out.1.2.2.2.2
      have p0 := hV10.out.2.1
      have p1 := hV10.out.2.2.1
      have p2 := hV10.out.2.2.2.1
      have p3 := hV10.out.2.2.2.2.1
      have p4 := hV10.out.2.2.2.2.2
      go_simp
      clear q0 q1 q2 q3 q4 p0 p1 p2 p3 p4
      refine hK.out _ _ (fbelow_set5 hHeld (show W5.heap.size ≤ g110 by (have := hge10; omega))) (fun hHeld => ?_)
      clear hK K
      (try simp only [Act.put, List.setIfInBounds_toArray, List.set_cons_zero, List.set_cons_succ])
      refine rg_in 12 rfl (by kernel_rfl) (by kernel_rfl) (by kernel_rfl) (by rfl) (v := ?_) (fun _ _ _ h => h) hHeld (fun w hSw => ?_) ?_
      rotate_left
      · (try dsimp only at hSw); go_simp <;> (with_reducible rfl)
      (try simp only [Act.put, List.setIfInBounds_toArray, List.set_cons_zero, List.set_cons_succ])
      refine wpAnyH_done (by kernel_rfl) ?_ _
      have ay : AwayF Y g110 := by have z6 := hb6.size; have z10 := hb10.size; have l10 := blk_lt hbox10; exact hYL.away (by omega)
      have hfa := FAt.set hV10.out hLY.out ay
      have hbX := hHeld
      clear hHeld
      unfold set5F at hfa
      go_wp2
      go_meet
      case rel => exact ⟨g110, Y, rfl, rfl, Lib.hid hfa, hYs, hbX, by have := hge10; omega, Lib.hid (fun g h1 h2 => hYa g (by have z6 := hb6.size; have z10 := hb10.size; have l10 := blk_lt hbox10; omega) h2 (hPA.out g (by omega)))⟩
    refine rg_cons rfl (by rfl) (fun K hK => ?_) ?_
    · have hgw10 := hHeld.size
      refine step_alloc 25 rfl iF _ hiF hzF ?_
      intro g110 w110 hge10 hbox10 hb10
      refine hK.out _ _ (S_call hb10 hHeld rfl) (fun hHeld => ?_)
      clear hK K
      (try simp only [Act.put, List.setIfInBounds_toArray, List.set_cons_zero, List.set_cons_succ])
      refine rg_do 6 rfl (by kernel_rfl) (by rfl) (fun K hK => ?_)
      have hgw6 := hHeld.size
      go_simp
      (go_at_call 18; (with_reducible refine (HcA.out _ hHeld).mono ?_); (rintro e w106 ⟨Y, rfl, hYs, hYL, hb6, hYa⟩))
      simp only [FileT.agg, PcT.val]
      refine hK.out _ _ (S_call hb6 hHeld rfl) (fun hHeld => ?_)
      clear hK K
      (try simp only [Act.put, List.setIfInBounds_toArray, List.set_cons_zero, List.set_cons_succ])
      refine rg_in 7 rfl (by kernel_rfl) (by kernel_rfl) (by kernel_rfl) (by rfl) (v := ?_) (fun _ _ _ h => h) hHeld (fun w hSw => ?_) ?_
      rotate_left
      · (try dsimp only at hSw); go_simp <;> (with_reducible rfl)
      (try simp only [Act.put, List.setIfInBounds_toArray, List.set_cons_zero, List.set_cons_succ])
      refine rg_in 8 rfl (by kernel_rfl) (by kernel_rfl) (by kernel_rfl) (by rfl) (v := ?_) (fun _ _ _ h => h) hHeld (fun w hSw => ?_) ?_
      rotate_left
      · (try dsimp only at hSw); go_simp <;> (with_reducible rfl)
      (try simp only [Act.put, List.setIfInBounds_toArray, List.set_cons_zero, List.set_cons_succ])
      refine rg_in 9 rfl (by kernel_rfl) (by kernel_rfl) (by kernel_rfl) (by rfl) (v := ?_) (fun _ _ _ h => h) hHeld (fun w hSw => ?_) ?_
      rotate_left
      · (try dsimp only at hSw); go_simp <;> (with_reducible rfl)
      (try simp only [Act.put, List.setIfInBounds_toArray, List.set_cons_zero, List.set_cons_succ])
      refine rg_do 11 rfl (by kernel_rfl) (by rfl) (fun K hK => ?_)
      have hV10 := Lib.hid (FVar.later (fvar_blk hbox10) hb6)
      have hLY := Lib.hid hYL
      have hHb := Lib.hid hHeld
      have q0 := hV10.out.1.1
      have q1 := hV10.out.1.2.1
      have q2 := hV10.out.1.2.2.1
      have q3 := hV10.out.1.2.2.2.1
      have q4 := hV10.out.1.2.2.2.2
      have p0 := hV10.out.2.1
      have p1 := hV10.out.2.2.1
      have p2 := hV10.out.2.2.2.1
      have p3 := hV10.out.2.2.2.2.1
      have p4 := hV10.out.2.2.2.2.2
      go_simp
      clear q0 q1 q2 q3 q4 p0 p1 p2 p3 p4
      refine hK.out _ _ (fbelow_set5 hHeld (show W5.heap.size ≤ g110 by (have := hge10; omega))) (fun hHeld => ?_)
      clear hK K
      (try simp only [Act.put, List.setIfInBounds_toArray, List.set_cons_zero, List.set_cons_succ])
      refine rg_in 12 rfl (by kernel_rfl) (by kernel_rfl) (by kernel_rfl) (by rfl) (v := ?_) (fun _ _ _ h => h) hHeld (fun w hSw => ?_) ?_
      rotate_left
      · (try dsimp only at hSw); go_simp <;> (with_reducible rfl)
      (try simp only [Act.put, List.setIfInBounds_toArray, List.set_cons_zero, List.set_cons_succ])
      refine wpAnyH_done (by kernel_rfl) ?_ _
      have ay : AwayF Y g110 := by have z6 := hb6.size; have z10 := hb10.size; have l10 := blk_lt hbox10; exact hYa _ (by omega) (hXA.out _ (by omega)) (hPA2.out _ (by omega))
      have hfa := FAt.set hV10.out hLY.out ay
      have hbX := hHeld
      clear hHeld
      unfold set5F at hfa
      go_wp2
      go_meet
      case rel => exact ⟨g110, Y, rfl, rfl, Lib.hid hfa, hYs, hbX, by have := hge10; omega, Lib.hid (fun g h1 h2 => hYa g (by have z6 := hb6.size; have z10 := hb10.size; have l10 := blk_lt hbox10; omega) h2 (hPA.out g (by omega)))⟩
    exact AllReadyH.nil
  case rest =>
    obtain ⟨g9, Y, rfl, rfl, HF, hYs, hbx, hg9, hYA⟩ := hcut
    clear x0 x1 x2 x3 x4 y1 HcA hPA hPA2 HX5 hiF hzF
    have HV6 := HV5.out.later hbx
    have hb8 := hb7.trans (hbx.mono hb7.size)
    obtain ⟨⟨j0, j1, j2, j3, j4⟩, k0, k1, k2, k3, k4⟩ := HV6
    obtain ⟨⟨y0, y1, y2, y3, y4⟩, -⟩ := HF.out.v
    have hne : g9 ≠ w.heap.size + 1 := by omega
    have hbe := fbelow_set5 (a := .slice Y.F.A Y.F.n Y.F.c) (b := .slice Y.lA Y.ln Y.lc) (c := .int .i64 Y.fuse) (d := .int .i64 Y.fault) (e := .bool Y.off) hb8 (show w.heap.size ≤ w.heap.size + 1 by omega)
    have hLe := Lib.hid (show LieF (set5F wc (w.heap.size + 1) (.slice Y.F.A Y.F.n Y.F.c) (.slice Y.lA Y.ln Y.lc) (.int .i64 Y.fuse) (.int .i64 Y.fault) (.bool Y.off)) (set5F wc (w.heap.size + 1) (.slice Y.F.A Y.F.n Y.F.c) (.slice Y.lA Y.ln Y.lc) (.int .i64 Y.fuse) (.int .i64 Y.fault) (.bool Y.off)).heap.size Y from lie_res HF.out.l (hYA.out _ (by omega) (hXA.out _ (by omega))))
    have Hbe := Lib.hid hbe
    have HYA := Lib.hid (show ∀ g, g < w.heap.size → AwayF X g → AwayF Y g from fun g h1 h2 => hYA.out g (by omega) h2)
    clear hbe HV5 hb8 hXA hYA
    by_cases hk : k = 0
    · subst hk
      have Ha2 := Ha.out
      rw [if_pos rfl] at Ha2
      subst Ha2
      clear Ha
      go_wp2
      (try rw [Exit.noGoto_ret])
      refine bodyPost_ret (v := .tuple #[.agg #[.slice Y.F.A Y.F.n Y.F.c, .slice Y.lA Y.ln Y.lc, .int .i64 Y.fuse, .int .i64 Y.fault, .bool Y.off], .int .i64 (Fra.atN X.all : Nat), .int .i64 0]) ?_ rfl ⟨Y, rfl, hYs, hLe.out, Hbe.out, HYA.out⟩
      simp [results, Tryd.results11, go_sem, *]
    · have hk1 : (k != 0) = true := bne_iff_ne.2 hk
      have Ha2 := Ha.out
      rw [if_neg hk] at Ha2
      subst Ha2
      clear Ha
      go_wp2
      (try rw [Exit.noGoto_ret])
      refine bodyPost_ret (v := .tuple #[.agg #[.slice Y.F.A Y.F.n Y.F.c, .slice Y.lA Y.ln Y.lc, .int .i64 Y.fuse, .int .i64 Y.fault, .bool Y.off], .int .i64 ((0 : Nat) : Int), .int .i64 k]) ?_ rfl ⟨Y, rfl, hYs, hLe.out, Hbe.out, HYA.out⟩
      simp [results, Tryd.results11, go_sem, *]
end Go.Proofs.YtghmehfmchadoaaDoor
/-
  Layer 11: Size.
-/
namespace Go.Proofs.YtghmehfmchadoaaDoor
open Go.RowKit
set_option linter.unusedVariables false

theorem lay_same : ∀ (l m : List UInt8) (n : Nat), l.length = m.length → (Fra.layP n l).length = (Fra.layP n m).length
  | [], [], n, _ => rfl
  | x :: l, y :: m, n, h => by
    by_cases h0 : n % 64 = 0
    · rw [Fra.layP_at x l h0, Fra.layP_at y m h0, List.length_cons, List.length_cons, List.length_cons, List.length_cons, lay_same l m (n + 2) (by simpa using h)]
    · rw [Fra.layP_in x l h0, Fra.layP_in y m h0, List.length_cons, List.length_cons, lay_same l m (n + 1) (by simpa using h)]
  | [], _ :: _, _, h => by simp at h
  | _ :: _, [], _, h => by simp at h
/-- How many bytes a record of n bytes brings. -/
def sizeN (all : List UInt8) (n : Nat) : Nat := (Fra.pieceL all (Fra.encL (List.replicate n 0))).length
theorem size_is (all l : List UInt8) : sizeN all l.length = (Fra.pieceL all (Fra.encL l)).length := by
  unfold sizeN Fra.pieceL
  rw [List.length_append, List.length_append, lay_same _ (Fra.encL l) _ (by rw [Fra.encL_len, Fra.encL_len, List.length_replicate])]
set_option maxRecDepth 20000 in
set_option maxHeartbeats 2000000 in
theorem fsize_no (X : FileT) (n : Int) (B : Nat) (w : World) (hL : LieF w B X) (hB : B ≤ w.heap.size) (hN : ∀ p ∈ X.Q, p.n ≤ 1048576) (hr : X.right = false ∨ allowB n = false) :
    Calls Tryd.prog 12 #[X.agg, .int .i64 n] w fun e w' => e = .returned (.int .i64 0) ∧ Below w.heap.size w w' := by
  have hb1 := bel_alloc (Below.refl w.heap.size w) (.cells #[.slice X.F.A X.F.n X.F.c, .slice X.lA X.ln X.lc, .int .i64 X.fuse, .int .i64 X.fault, .bool X.off] 25)
  obtain ⟨f0, f1, f2, f3, f4⟩ := FBox.new w X 25
  have hch := checkF_any X B _ (hL.later (hb1.mono hB)) (Nat.le_trans hB hb1.size) hN
  have hal := fun W => allowed_any n W
  simp only [FileT.agg, PcT.val] at hch ⊢
  cases hx : X.right
  · rw [hx] at hch
    clear hr hal
    go_enter Tryd.func12, Tryd.ntmps12
    go_wp2_with fail
    refine hch.mono ?_
    rintro e w2 ⟨rfl, hb2⟩
    have hb3 := bel_next hb1 hb2
    clear f0 f1 f2 f3 f4 hch hb1 hb2
    go_wp2
    go_ret
    exact ⟨rfl, hb3⟩
  · rw [hx, if_pos rfl] at hch
    rw [hr.resolve_left (by rw [hx]; simp)] at hal
    clear hr
    go_enter Tryd.func12, Tryd.ntmps12
    go_wp2_with fail
    refine hch.mono ?_
    rintro e w2 ⟨rfl, hb2⟩
    have hb3 := bel_next hb1 hb2
    clear f0 f1 f2 f3 f4 hch hb1 hb2
    go_wp2_with fail
    refine (hal _).mono ?_
    rintro e w3 ⟨rfl, rfl⟩
    clear hal
    go_wp2
    go_ret
    exact ⟨rfl, hb3⟩
set_option maxRecDepth 20000 in
set_option maxHeartbeats 2000000 in
theorem fsize_ok (X : FileT) (n : Nat) (B : Nat) (w : World) (htab : Tab w) (hL : LieF w B X) (hB : B ≤ w.heap.size) (hr : X.right = true) (hn : 1 ≤ n ∧ n ≤ 4096) :
    Calls Tryd.prog 12 #[X.agg, .int .i64 (n : Nat)] w fun e w' => e = .returned (.int .i64 (sizeN X.all n : Nat)) ∧ Below w.heap.size w w' := by
  have hb1 := bel_alloc (Below.refl w.heap.size w) (.cells #[.slice X.F.A X.F.n X.F.c, .slice X.lA X.ln X.lc, .int .i64 X.fuse, .int .i64 X.fault, .bool X.off] 25)
  have HX := Lib.hid (FBox.new w X 25)
  obtain ⟨hlong, hmax⟩ := right_all hL hr
  have hch := checkF_any X B _ (hL.later (hb1.mono hB)) (Nat.le_trans hB hb1.size) (right_rows hL hr).1
  rw [if_pos hr] at hch
  have hal := fun W => allowed_any (n : Int) W
  rw [show allowB (n : Int) = true by unfold allowB; simp; omega] at hal
  have hbg := Lib.hid (fun W (h : Below w.heap.size w W) => begin_any X B W (hL.later (h.mono hB)) (Nat.le_trans hB h.size) hr)
  have hwr := Lib.hid (fun W b s l (q : PcT) (h : Below w.heap.size w W) (hq : q.Ok W W.heap.size) (hq2 : q.n ≤ 4096) (hw : Wt W b s l) (h1 : s ≤ 600000) (h2 : l.length ≤ 1000) => write_any b s l q W.heap.size W (htab.below h htab.lt) hw hq (Nat.le_refl _) hq2 h1 h2)
  obtain ⟨i0, hi, hz0, hz1, hz2⟩ := u8_info
  have hmk := fun W => run_make_one (P := Tryd.prog) Tryd.underlying22 hi hz0 rfl hz1 .i64 .i64 (n : Int) (n : Int) (by omega) (by omega) (by rw [hz2]; omega) (by omega) W
  rw [Int.toNat_natCast] at hmk
  simp only [FileT.agg, PcT.val] at hch hbg ⊢
  have hel := Lib.hid (show Fra.aheadL X.all ++ Fra.layP (X.all.length + (Fra.aheadL X.all).length) (Fra.encL (List.replicate n 0)) = Fra.pieceL X.all (Fra.encL (List.replicate n 0)) ∧ (Fra.aheadL X.all).length ≤ 1000 from by
    have e := Fra.piece_at X.all []
    rw [List.length_append] at e
    refine ⟨by rw [e]; rfl, ?_⟩
    rw [Fra.aheadL_len]
    unfold Fra.atN Fra.frontN Fra.padN
    split <;> split <;> omega)
  have HS := Lib.hid (show (Fra.pieceL X.all (Fra.encL (List.replicate n 0))).length = sizeN X.all n from rfl)
  generalize Fra.pieceL X.all (Fra.encL (List.replicate n 0)) = pc at *
  generalize sizeN X.all n = sz at *
  have hn2 := hn.2
  clear hn hlong hr htab
  obtain ⟨f0, f1, f2, f3, f4⟩ := HX.out
  go_enter Tryd.func12, Tryd.ntmps12
  go_wp2_with fail
  refine hch.mono ?_
  rintro e W2 ⟨rfl, hb2⟩
  have hb3 := bel_next hb1 hb2
  have HX2 := Lib.hid (HX.out.later hb2)
  clear hch f0 f1 f2 f3 f4 HX hb1 hb2
  obtain ⟨f0, f1, f2, f3, f4⟩ := HX2.out
  go_wp2_with fail
  refine (hal _).mono ?_
  rintro e W3 ⟨rfl, rfl⟩
  clear hal
  go_wp2_with fail
  refine (hbg.out _ hb3).mono ?_
  rintro e W4 ⟨b, rfl, hbge, hw4, hb4⟩
  have hb5 := bel_next hb3 hb4
  have hw := hb3.size
  have hgb : w.heap.size ≤ b := by omega
  have hb6 := bel_alloc hb5 (.cells (madeCells #[.int .u8 0] n) 5)
  have hw5 := hw4.later (bel_alloc (Below.refl _ _) (.cells (madeCells #[.int .u8 0] n) 5))
  have own0 := own_zeros (base := w.heap.size) (e := 5) W4 (.int .u8 0) n n hb5.size (Nat.le_refl _) (by unfold maxLen; omega)
  have e0 : List.replicate n (Value.int .u8 0) = (List.replicate n (0 : UInt8)).map bv := by rw [List.map_replicate]; rfl
  rw [e0] at own0
  have hq : PcT.Ok (W4.alloc (.cells (madeCells #[.int .u8 0] n) 5)) (W4.alloc (.cells (madeCells #[.int .u8 0] n) 5)).heap.size ⟨some ⟨W4.heap.size, 0, none⟩, n, n, List.replicate n 0⟩ := ⟨Bytes.own own0, nofun, Nat.le_refl _, by unfold maxLen; show n ≤ _; omega⟩
  have hwc := hwr.out _ b _ _ _ hb6 hq hn2 hw5 (by omega) hel.out.2
  have Hwc := Lib.hid hwc
  clear f0 f1 f2 f3 f4 HX2 hb4 hb3 hbg own0 e0 hq hwc hwr hb5 hw4 hw5
  go_wp2_with fail
  refine Hwc.out.mono ?_
  rintro e W5 ⟨rfl, hw5, hb7⟩
  rw [hel.out.1] at hw5
  obtain ⟨A, c, w50, w51, w52, w53⟩ := hw5
  rw [HS.out] at w51
  have hb8 := hb6.trans (hb7.mono hgb)
  clear w50 w52 w53 hb7 hb6 Hwc hel hmk
  go_wp2
  go_ret
  exact ⟨rfl, hb8⟩
end Go.Proofs.YtghmehfmchadoaaDoor
/-
  Layer 11: the iterator over data bytes.
-/
namespace Go.Proofs.YtghmehfmchadoaaDoor
open Go.RowKit Go.Shelf
set_option linter.unusedVariables false
attribute [local go_sem] Oper.semAt_some

set_option maxRecDepth 20000 in
theorem data_any (X : FileT) (a : Int) (w : World) :
    Calls Tryd.prog 62 #[X.agg, .int .i64 a] w fun e w' => e = .returned (.func (.func 70) #[] #[.pointer (some ⟨w.heap.size + 1, 0, none⟩), .pointer (some ⟨w.heap.size, 0, none⟩)]) ∧ (w.alloc (.cells #[.slice X.F.A X.F.n X.F.c, .slice X.lA X.ln X.lc, .int .i64 X.fuse, .int .i64 X.fault, .bool X.off] 25)).alloc (.cells #[.int .i64 a] 3) = w' := by
  simp only [FileT.agg, PcT.val]
  go_enter Tryd.func62, Tryd.ntmps62
  go_wp2
  go_ret
  exact ⟨by simp, rfl⟩

/-- What a round answers: go on, or not. -/
def YesNo (Y N : World → Prop) (e : Ending) (w' : World) : Prop := ∃ g : Bool, e = .returned (.bool g) ∧ (g = true → Y w') ∧ (g = false → N w')
/-- The bytes that were read. -/
def rowR (X : FileT) (a : Nat) : List UInt8 := (X.all.drop (a - a % 64)).take (min 4288 (X.all.length - (a - a % 64)))
theorem row_len (X : FileT) (a : Nat) : (rowR X a).length = min 4288 (X.all.length - (a - a % 64)) := by
  unfold rowR
  rw [List.length_take, List.length_drop]
  omega
theorem row_between (X : FileT) (a : Nat) (ha : a < X.all.length) : between X.all (a - a % 64) ((a - a % 64) + min 4288 (X.all.length - (a - a % 64))) = rowR X a := by
  unfold between rowR
  rw [List.drop_take, show (a - a % 64) + min 4288 (X.all.length - (a - a % 64)) - (a - a % 64) = min 4288 (X.all.length - (a - a % 64)) by omega]
theorem row_head (X : FileT) (a : Nat) (ha : a < X.all.length) : at8 (rowR X a) 0 = at8 X.all (a - a % 64) := by
  unfold at8 rowR
  have e : ((X.all.drop (a - a % 64)).take (min 4288 (X.all.length - (a - a % 64)))).getD 0 0 = X.all.getD (a - a % 64) 0 := by
    rw [List.getD_eq_getElem?_getD, List.getElem?_take_of_lt (by omega), List.getElem?_drop, Nat.add_zero, ← List.getD_eq_getElem?_getD]
  rw [e]

set_option maxRecDepth 100000 in
set_option maxHeartbeats 4000000 in
theorem data_in (n : Nat) (hn : 1 ≤ n) (ln Bf Ba G : Nat) (X : FileT) (a : Nat) (J0 : World → Prop) (J : PcT → Nat → World → Prop) (Jx : World → Prop) (hr : X.right = true) (ha : a < X.all.length) (ha64 : a % 64 ≠ 0)
    (h0 : ∀ W, J0 W → FBox W Bf X ∧ W.cell? ⟨Ba, 0, none⟩ = some (.int .i64 (a : Nat)) ∧ LieF W W.heap.size X ∧ G ≤ W.heap.size)
    (hB : ∀ W W' p, J0 W → Below W.heap.size W W' → p.Ok W' W'.heap.size → p.l = rowR X a → (∀ g, g < G → AwayF X g → AwayP p g) → at8 X.all (a - a % 64) = 0 → J p (a % 64) W')
    (hZ : ∀ W W', J0 W → Below W.heap.size W W' → at8 X.all (a - a % 64) ≠ 0 → Jx W')
    (h3 : ∀ p i W, J p i W → p.Ok W W.heap.size ∧ p.l = rowR X a)
    (hS : ∀ p i W, J p i W → i < p.n → i % 64 = 0 → at8 p.l i = 0 → J p (i + 1) W)
    (hE : ∀ p i W, J p i W → (p.n ≤ i ∨ (i % 64 = 0 ∧ at8 p.l i ≠ 0)) → Jx W)
    (hY : ∀ p i W, J p i W → i < p.n → i % 64 ≠ 0 → YieldAt Fence.wide (n - 1) Tryd.prog ln #[.agg #[.int .u8 (at8 p.l i), .int .i64 ((a - a % 64 + i + 1 : Nat) : Int)]] W (YesNo (J p (i + 1)) Jx))
    (W0 : World) (hj : J0 W0) :
    CallsIn Fence.wide n Tryd.prog 70 #[.func (.yield ln) #[] #[], .pointer (some ⟨Ba, 0, none⟩), .pointer (some ⟨Bf, 0, none⟩)] W0 fun e W' => (∃ v, e = .returned v) ∧ Jx W' := by
  obtain ⟨f, c0, hL, hG⟩ := h0 W0 hj
  obtain ⟨hlong, hmax⟩ := right_all hL hr
  obtain ⟨s, hs⟩ : ∃ s, a - a % 64 = s := ⟨_, rfl⟩
  obtain ⟨m, hm⟩ : ∃ m, min 4288 (X.all.length - s) = m := ⟨_, rfl⟩
  have hln := Lib.hid (fun W (h : Below W0.heap.size W0 W) => lenF_any X W0.heap.size W (hL.later h) h.size (right_rows hL hr).1)
  have hrd := Lib.hid (fun W (h : Below W0.heap.size W0 W) => readF_ok X s m W0.heap.size W (hL.later h) h.size (right_rows hL hr).1 hr (by rw [hlong]; omega))
  rw [hr, hlong] at hln
  simp only [if_true] at hln
  simp only [FileT.agg, PcT.val] at hln hrd
  have hrb := row_between X a ha
  rw [hs, hm] at hrb
  have HRB := Lib.hid hrb
  have hh := row_head X a ha
  rw [hs] at hh
  have HH := Lib.hid hh
  have hrl := row_len X a
  rw [hs, hm] at hrl
  have hsi : (a : Int) - (a : Int) % 64 = (s : Int) := by omega
  have hsi2 : (a : Int) - (a : Int).tmod 64 = (s : Int) := by rw [Int.tmod_eq_emod_of_nonneg (by omega)]; omega
  have hai : (a : Int) - (s : Int) = ((a % 64 : Nat) : Int) := by omega
  have hmn : min (4288 : Int) ((X.all.length : Int) - (s : Int)) = (m : Int) := by omega
  have hms : 0 < m ∧ m ≤ 4288 ∧ s + m ≤ 524288 ∧ a % 64 < 64 ∧ s ≤ a := by omega
  have hw1 : IntKind.i64.wrap ((X.all.length : Int) - (s : Int)) = (X.all.length : Int) - (s : Int) := by rw [IntKind.wrap_i64]; omega
  have hw2 : RowKit.wrap64 ((X.all.length : Int) - (s : Int)) = (X.all.length : Int) - (s : Int) := by unfold RowKit.wrap64; omega
  have hif : (if (X.all.length : Int) - (s : Int) < 4288 then (X.all.length : Int) - (s : Int) else 4288) = (m : Int) := by split <;> omega
  have hif2 : (if (4288 : Int) < (X.all.length : Int) - (s : Int) then 4288 else (X.all.length : Int) - (s : Int)) = (m : Int) := by split <;> omega
  have hif3 : (if (4288 : Int) ≤ (X.all.length : Int) - (s : Int) then 4288 else (X.all.length : Int) - (s : Int)) = (m : Int) := by split <;> omega
  rw [hs] at hB hZ hY
  have HB := Lib.hid hB
  have HZ := Lib.hid hZ
  have H3 := Lib.hid h3
  have HS := Lib.hid hS
  have HE := Lib.hid hE
  have HY := Lib.hid hY
  have HJ := Lib.hid hj
  have Hrl := Lib.hid hrl
  have Ha := Lib.hid (And.intro ha ha64)
  have Hs64 := Lib.hid (show s % 64 = 0 by omega)
  clear hB hZ h3 hS hE hY hj h0 hL hlong hrb hh hrl ha ha64 hs hm hr
  generalize X.all.length = L at *
  refine callsIn_of_wp Tryd.func70 rfl trivial ?_ rfl
  simp only [Tryd.ntmps70, List.size_toArray, List.length_cons, List.length_nil, Nat.reduceAdd, Nat.reduceSub, Array.replicate_succ, Array.replicate_zero, List.push_toArray, List.append_toArray, List.nil_append, List.cons_append]
  refine wpIn_wide.2 ?_
  have x0 : ∀ W, Below W0.heap.size W0 W → W.cell? ⟨Bf, 0, none⟩ = some (.slice X.F.A X.F.n X.F.c) := fun W h => (f.later h).1
  have x1 : ∀ W, Below W0.heap.size W0 W → W.cell? ⟨Bf, 1, none⟩ = some (.slice X.lA X.ln X.lc) := fun W h => (f.later h).2.1
  have x2 : ∀ W, Below W0.heap.size W0 W → W.cell? ⟨Bf, 2, none⟩ = some (.int .i64 X.fuse) := fun W h => (f.later h).2.2.1
  have x3 : ∀ W, Below W0.heap.size W0 W → W.cell? ⟨Bf, 3, none⟩ = some (.int .i64 X.fault) := fun W h => (f.later h).2.2.2.1
  have x4 : ∀ W, Below W0.heap.size W0 W → W.cell? ⟨Bf, 4, none⟩ = some (.bool X.off) := fun W h => (f.later h).2.2.2.2
  have y0 : ∀ W, Below W0.heap.size W0 W → W.cell? ⟨Ba, 0, none⟩ = some (.int .i64 (a : Nat)) := fun W h => kept_later h c0
  have c0' := c0
  clear f
  go_upto_region 1 with fail
  clear c0 c0'
  refine wp_region_held_drew (S := fun W => Below W0.heap.size W0 W) (by kernel_rfl) (below_drewN (Below.refl _ _) 1) (fun hHeld => ?_)
  refine rg_in 0 rfl (by kernel_rfl) (by kernel_rfl) (by kernel_rfl) (by rfl) (v := ?_) (fun _ _ _ h => h) hHeld (fun w hSw => ?_) ?_
  rotate_left
  · (try dsimp only at hSw); go_simp <;> (with_reducible rfl)
  (try simp only [Act.put, List.setIfInBounds_toArray, List.set_cons_zero, List.set_cons_succ])
  refine rg_in 1 rfl (by kernel_rfl) (by kernel_rfl) (by kernel_rfl) (by rfl) (v := ?_) (fun _ _ _ h => h) hHeld (fun w hSw => ?_) ?_
  rotate_left
  · (try dsimp only at hSw); go_simp <;> (with_reducible rfl)
  (try simp only [Act.put, List.setIfInBounds_toArray, List.set_cons_zero, List.set_cons_succ])
  refine rg_in 2 rfl (by kernel_rfl) (by kernel_rfl) (by kernel_rfl) (by rfl) (v := ?_) (fun _ _ _ h => h) hHeld (fun w hSw => ?_) ?_
  rotate_left
  · (try dsimp only at hSw); go_simp <;> (with_reducible rfl)
  (try simp only [Act.put, List.setIfInBounds_toArray, List.set_cons_zero, List.set_cons_succ])
  refine rg_in 4 rfl (by kernel_rfl) (by kernel_rfl) (by kernel_rfl) (by rfl) (v := ?_) (fun _ _ _ h => h) hHeld (fun w hSw => ?_) ?_
  rotate_left
  · (try dsimp only at hSw); go_simp <;> (with_reducible rfl)
  (try simp only [Act.put, List.setIfInBounds_toArray, List.set_cons_zero, List.set_cons_succ])
  refine rg_do 3 rfl (by kernel_rfl) (by rfl) (fun K hK => ?_)
  go_simp
  (go_at_call 24; (with_reducible refine (hln.out _ hHeld).mono ?_); (rintro e w103 ⟨rfl, hb3⟩))
  refine hK.out _ _ (S_call hb3 hHeld rfl) (fun hHeld => ?_)
  clear hK K
  (try simp only [Act.put, List.setIfInBounds_toArray, List.set_cons_zero, List.set_cons_succ])
  refine rg_in 5 rfl (by kernel_rfl) (by kernel_rfl) (by kernel_rfl) (by rfl) (v := ?_) (fun _ _ _ h => h) hHeld (fun w hSw => ?_) ?_
  rotate_left
  · (try dsimp only at hSw); go_simp <;> (with_reducible rfl)
  (try simp only [Act.put, List.setIfInBounds_toArray, List.set_cons_zero, List.set_cons_succ])
  refine rg_in 6 rfl (by kernel_rfl) (by kernel_rfl) (by kernel_rfl) (by rfl) (v := ?_) (fun _ _ _ h => h) hHeld (fun w hSw => ?_) ?_
  rotate_left
  · (try dsimp only at hSw); go_simp <;> (with_reducible rfl)
  (try simp only [Act.put, List.setIfInBounds_toArray, List.set_cons_zero, List.set_cons_succ])
  refine rg_do 7 rfl (by kernel_rfl) (by rfl) (fun K hK => ?_)
  go_simp
  (go_at_call 45; (with_reducible refine (hrd.out _ hHeld).mono ?_); (rintro e w107 ⟨p, rfl, hpl, hpo, hb7, hpa⟩))
  refine hK.out _ _ (S_call hb7 hHeld rfl) (fun hHeld => ?_)
  clear hK K
  (try simp only [Act.put, List.setIfInBounds_toArray, List.set_cons_zero, List.set_cons_succ])
  refine rg_in 8 rfl (by kernel_rfl) (by kernel_rfl) (by kernel_rfl) (by rfl) (v := ?_) (fun _ _ _ h => h) hHeld (fun w hSw => ?_) ?_
  rotate_left
  · (try dsimp only at hSw); go_simp <;> (with_reducible rfl)
  (try simp only [Act.put, List.setIfInBounds_toArray, List.set_cons_zero, List.set_cons_succ])
  refine rg_in 9 rfl (by kernel_rfl) (by kernel_rfl) (by kernel_rfl) (by rfl) (v := ?_) (fun _ _ _ h => h) hHeld (fun w hSw => ?_) ?_
  rotate_left
  · (try dsimp only at hSw); go_simp <;> (with_reducible rfl)
  (try simp only [Act.put, List.setIfInBounds_toArray, List.set_cons_zero, List.set_cons_succ])
  refine rg_in 10 rfl (by kernel_rfl) (by kernel_rfl) (by kernel_rfl) (by rfl) (v := ?_) (fun _ _ _ h => h) hHeld (fun w hSw => ?_) ?_
  rotate_left
  · (try dsimp only at hSw); go_simp <;> (with_reducible rfl)
  (try simp only [Act.put, List.setIfInBounds_toArray, List.set_cons_zero, List.set_cons_succ])
  refine rg_in 11 rfl (by kernel_rfl) (by kernel_rfl) (by kernel_rfl) (by rfl) (v := ?_) (fun _ _ _ h => h) hHeld (fun w hSw => ?_) ?_
  rotate_left
  · (try dsimp only at hSw); go_simp <;> (with_reducible rfl)
  (try simp only [Act.put, List.setIfInBounds_toArray, List.set_cons_zero, List.set_cons_succ])
  refine rg_in 12 rfl (by kernel_rfl) (by kernel_rfl) (by kernel_rfl) (by rfl) (v := ?_) (fun _ _ _ h => h) hHeld (fun w hSw => ?_) ?_
  rotate_left
  · (try dsimp only at hSw); go_simp <;> (with_reducible rfl)
  (try simp only [Act.put, List.setIfInBounds_toArray, List.set_cons_zero, List.set_cons_succ])
  refine wpAnyH_done (by kernel_rfl) ?_ _
  have hb7' : Below W0.heap.size W0 w107 := hHeld
  have hpn : p.n = m := by rw [← hpo.len, hpl, HRB.out, Hrl.out]
  have hpl2 : p.l = rowR X a := hpl.trans HRB.out
  have hpA : ∀ g, g < G → AwayF X g → AwayP p g := fun g h1 h2 => hpa g (by have := Nat.le_trans hG hb3.size; have : G ≤ w103.heap.size := this; omega) h2
  obtain ⟨b, off, hA, hbB, hc⟩ := hpo.here.cell (k := 0) (by omega)
  rw [Nat.add_zero, hpl2, HH.out] at hc
  have c0 := y0 _ hHeld
  have HPO := Lib.hid hpo
  have HPL := Lib.hid hpl2
  have HPA := Lib.hid hpA
  have HPN := Lib.hid hpn
  have HPAA := Lib.hid hA
  rw [hA, hpn]
  clear hHeld x0 x1 x2 x3 x4 y0 hln hrd hpo hpl hpl2 hpa hpA hpn hb3 hb7 hsi2 hmn hw1 hw2 hif hif2 hif3 HRB Hrl hA
  obtain ⟨v, hv⟩ : ∃ v, at8 X.all s = v := ⟨_, rfl⟩
  rw [hv] at hc
  have HV := Lib.hid hv
  clear hv
  have hm0 : (0 : Int) < (m : Int) := by omega
  by_cases hv0 : v = 0
  · subst hv0
    have HJ1 := Lib.hid (HB.out W0 w107 p HJ.out hb7' HPO.out HPL.out HPA.out HV.out)
    clear HB HZ HH HJ HPO HPA HV hb7'
    have hak := hms.2.2.2.1
    have hsm := hms.2.2.1
    have hm2 := hms.2.1
    have hEq := Lib.hid hms
    clear hms
    go_upto_block 0 with fail
    refine (wpIn_wide (n := n)).1 ?_
    gi_wp2_with fail
    generalize hq : a % 64 = q0 at *
    gi_loopw [7] (fun iv wr => ∃ i : Nat, iv = .int .i64 i ∧ i ≤ 4288 ∧ Hid (J p i wr)) (fun iv _ => m - (intOf iv).toNat)
    case atStart => exact ⟨q0, congrArg (Value.int .i64) (by omega), by omega, HJ1⟩
    case round =>
      obtain ⟨i, rfl, hi, HJi⟩ := hrel
      obtain ⟨hpo, hpl⟩ := H3.out p i _ HJi.out
      have hi0 : (0 : Int) ≤ (i : Int) := by omega
      by_cases him : i < m
      · have hlt : (i : Int) < (m : Int) := by omega
        obtain ⟨b', off', hA', hb', hci⟩ := hpo.here.cell (k := i) (by rw [HPN.out]; exact him)
        rw [HPAA.out] at hA'
        injection hA' with hA'
        injection hA' with e1 e2
        subst e1 e2
        have him2 := Lib.hid (show i < p.n by rw [HPN.out]; exact him)
        have hyl := Lib.hid (HY.out p i _ HJi.out him2.out)
        have hss := Lib.hid (HS.out p i _ HJi.out him2.out)
        have hee := Lib.hid (HE.out p i _ HJi.out)
        clear hpo hpl
        obtain ⟨u, hu⟩ : ∃ u, at8 p.l i = u := ⟨_, rfl⟩
        rw [hu] at hci
        have hu' := Lib.hid hu
        by_cases h64 : i % 64 = 0
        · have h64' : ((i : Int) % 64 == 0) = true := by rw [beq_iff_eq]; omega
          by_cases hu0 : u = 0
          · subst hu0
            have HJn := Lib.hid (hss.out h64 hu'.out)
            clear hyl hss hee hu hu' h64 HY HS HE H3 HJi HJ1
            gi_wp2
            go_roundw
            case rel => exact ⟨i + 1, by go_num, by omega, HJn⟩
            case measure => simp [intOf]; omega
          · have hx := Lib.hid (hee.out (.inr ⟨h64, by rw [hu'.out]; exact hu0⟩))
            have hu1 : (u == 0) = false := beq_eq_false_iff_ne.2 hu0
            have hu2 : (u != 0) = true := bne_iff_ne.2 hu0
            clear hyl hss hee hu hu' h64 HY HS HE H3 HJi HJ1
            gi_wp2
            refine bodyPost_ret (results_none rfl _ _ _) rfl ?_
            exact ⟨⟨_, rfl⟩, hx.out⟩
        · have h64' : ((i : Int) % 64 == 0) = false := by rw [beq_eq_false_iff_ne]; omega
          obtain ⟨fn, tmps, assign, body, hy, hR⟩ := hyl.out h64
          rw [hu] at hy
          obtain ⟨z, hz⟩ : ∃ z, s + i + 1 = z := ⟨_, rfl⟩
          rw [hz] at hy
          have hadd : (s : Int) + (i : Int) + 1 = (z : Int) := by omega
          have hz2 : z ≤ 600000 := by omega
          clear hyl hss hee hu hu' h64 HY HS HE H3 HJ1 hz
          gi_wp2
          refine hR.mono ?_
          rintro e W3 ⟨gg, rfl, hyes, hno⟩
          clear hy hR
          cases gg
          · have hx := Lib.hid (hno rfl)
            clear hno hyes HJi hci
            gi_wp2
            refine bodyPost_ret (results_none rfl _ _ _) rfl ?_
            exact ⟨⟨_, rfl⟩, hx.out⟩
          · have HJn := Lib.hid (hyes rfl)
            clear hno hyes HJi hci
            gi_wp2
            go_roundw
            case rel => exact ⟨i + 1, by go_num, by omega, HJn⟩
            case measure => simp [intOf]; omega
      · have hx := Lib.hid (HE.out p i _ HJi.out (.inl (by rw [HPN.out]; omega)))
        clear hpo hpl HY HS HE H3 HJi HJ1
        gi_wp2
        go_end0
        exact ⟨⟨_, rfl⟩, hx.out⟩
  · have hx := Lib.hid (HZ.out W0 w107 HJ.out hb7' (by rw [HV.out]; exact hv0))
    have hv1 : (v == 0) = false := beq_eq_false_iff_ne.2 hv0
    have hv2 : (v != 0) = true := bne_iff_ne.2 hv0
    clear HB HZ H3 HS HE HY HJ HPO HPL HPA hb7'
    go_wp2
    refine bodyPost_ret (results_none rfl _ _ _) rfl ?_
    exact ⟨⟨_, rfl⟩, hx.out⟩
end Go.Proofs.YtghmehfmchadoaaDoor
/-
  Layer 11: what lies in memory between two data bytes that are read.
-/
namespace Go.Proofs.YtghmehfmchadoaaDoor
open Go.RowKit Go.Shelf
set_option linter.unusedVariables false

/-- Bytes stay where their block does. -/
theorem pc_keep {W W' : World} {p : PcT} (h : p.Ok W W.heap.size) (hs : W.heap.size ≤ W'.heap.size) (hk : ∀ b off, p.A = some ⟨b, off, none⟩ → 0 < p.n → b < W.heap.size → W'.heap[b]? = W.heap[b]?) : p.Ok W' W'.heap.size := by
  refine ⟨⟨h.here.1, fun hn => ?_⟩, h.nil, h.fits, h.most⟩
  obtain ⟨b, off, e, hb, hc⟩ := h.here.2 hn
  exact ⟨b, off, e, Nat.lt_of_lt_of_le hb hs, fun j u hj => (World.cell?_of_block (hk b off e hn hb)).trans (hc j u hj)⟩
/-- The bytes that are read lie apart from a row of one's own. -/
def Apt (p : PcT) (v : Value) : Prop := ∀ b off, p.A = some ⟨b, off, none⟩ → 0 < p.n → v.ownBlock ≠ some b
/-- .. and apart from the variables. -/
def Awy (p : PcT) (n : Nat) : Prop := ∀ g, n ≤ g → g ≤ n + 7 → AwayP p g
/-- The memory between two rounds: n blocks lay when read began. -/
structure RM (n : Nat) (w : World) (lp : Obj) (v : Value) (out : List UInt8) (next size : Nat) (W : World) : Prop where
  b1 : Boxed W (n + 1) 22 v
  own : W.ownsRow (n + 6) 5 1 v out.length (out.map bv)
  b2 : Boxed W (n + 1 + 1) 3 (.int .i64 (next : Nat))
  b3 : Boxed W (n + 1 + 1 + 1) 3 (.int .i64 (size : Nat))
  d : W.heap[n + 6]? = some (.deferred (some []))
  r : W.heap[n + 7]? = some lp
  bel : Below n w W
theorem no_rowF {W : World} {base : Nat} {e : TypeId} {v : Value} {k : Nat} {xs : List Value} (h : W.ownsRow base e 1 v k xs) {S : Nat} {o : Obj} (hS : W.heap[S]? = some o) (ho : ∀ c fz, o ≠ .cells c e fz) : some S ≠ v.ownBlock := fun e' => by
  obtain ⟨c', fz, h2⟩ := Lib.ownsRow_kind h S e'.symm
  rw [hS] at h2
  injection h2 with h2
  exact ho _ _ h2
section
variable {n : Nat} {w : World} {lp : Obj} {v : Value} {out : List UInt8} {next size : Nat} {W W' : World}
theorem RM.lt (h : RM n w lp v out next size W) : n + 7 < W.heap.size := (Array.getElem?_eq_some_iff.1 h.r).1
theorem RM.drew (h : RM n w lp v out next size W) : RM n w lp v out next size W.drew := ⟨h.b1, h.own, h.b2, h.b3, h.d, h.r, below_drewN h.bel 1⟩
theorem RM.later (h : RM n w lp v out next size W) (hb : Below W.heap.size W W') : RM n w lp v out next size W' := by
  have l : ∀ {k : Nat} {o : Obj}, W.heap[k]? = some o → W'.heap[k]? = some o := fun hk => blk_later hk hb
  exact ⟨l h.b1, own_below h.own hb, l h.b2, l h.b3, l h.d, l h.r, h.bel.trans (hb.mono (by have := h.lt; omega))⟩
theorem RM.turn (h : RM n w lp v out next size W) (hl : lp.isCells = false) (lp' : Obj) : RM n w lp' v out next size (W.putObj (n + 7) lp') := by
  have o : ∀ {k : Nat} {x : Obj}, W.heap[k]? = some x → k ≠ n + 7 → (W.putObj (n + 7) lp').heap[k]? = some x := fun hk hne => (World.putObj_heap_other hne).trans hk
  have hlt := h.lt
  exact ⟨o h.b1 (by omega), ownsRow_putObj h.own _ h.r hl, o h.b2 (by omega), o h.b3 (by omega), o h.d (by omega), World.putObj_heap_same hlt, h.bel.grown (grownBy_putObj' W (n + 7) lp') (by omega) (fun k e => by cases e; omega)⟩
/-- The size is set. -/
theorem RM.sized (h : RM n w lp v out next size W) (size' : Nat) : RM n w lp v out next size' (W.setCell ⟨n + 1 + 1 + 1, 0, none⟩ (.int .i64 (size' : Nat))) := by
  have o : ∀ {k : Nat} {x : Obj}, W.heap[k]? = some x → k ≠ n + 1 + 1 + 1 → (W.setCell ⟨n + 1 + 1 + 1, 0, none⟩ (.int .i64 (size' : Nat))).heap[k]? = some x := fun hk hne => (Below.heap_setCell _ _ _ _ hne).trans hk
  exact ⟨o h.b1 (by omega), ownsRow_setCell_below h.own (by show n + 1 + 1 + 1 < n + 6; omega) _, o h.b2 (by omega), h.b3.set _, o h.d (by omega), o h.r (by omega), h.bel.setCell (by show n ≤ n + 1 + 1 + 1; omega) _⟩
/-- One more byte has been taken. -/
theorem RM.took {x : UInt8} {S : Nat} {C : Array Value} {t : TypeId} {v' : Value} {W1 w7 : World} (h : RM n w lp v out next size W) (hlp : lp.isCells = false) (hS : W.heap[S]? = some (.cells C t (0, 0))) (ht : t ≠ 5) (hSn : n + 7 < S) (hb : Below W.heap.size W W1)
    (hg : W1.grownBy w7 v.ownBlock) (hown : w7.ownsRow (n + 6) 5 1 v' (out.length + 1) (out.map bv ++ [bv x])) (next' : Nat) :
    Boxed w7 (n + 1) 22 v ∧ w7.heap[S]? = some (.cells C t (0, 0)) ∧ (w7.setCell ⟨n + 1, 0, none⟩ v').heap[S]? = some (.cells C t (0, 0)) ∧ Boxed (w7.setCell ⟨n + 1, 0, none⟩ v') (n + 1 + 1) 3 (.int .i64 (next : Nat)) ∧
      RM n w lp v' (out ++ [x]) next' size ((w7.setCell ⟨n + 1, 0, none⟩ v').setCell ⟨n + 1 + 1, 0, none⟩ (.int .i64 (next' : Nat))) := by
  have hlt := h.lt
  have h1 := h.later hb
  have nl : ∀ c fz, lp ≠ .cells c 5 fz := fun c fz e => by rw [e] at hlp; cases hlp
  have ha : ∀ {k : Nat} {o : Obj}, W1.heap[k]? = some o → (k < n + 6 ∨ ∀ c fz, o ≠ .cells c 5 fz) → w7.heap[k]? = some o := fun {k o} hk hne =>
    (hg.block k (Array.getElem?_eq_some_iff.1 hk).1 (by rcases hne with h | h; exact (fun e => by have := (h1.own.lt k e.symm).1; omega); exact no_rowF h1.own hk h)).trans hk
  have g1 := ha h1.b1 (.inl (by omega))
  have g2 := ha h1.b2 (.inl (by omega))
  have g3 := ha h1.b3 (.inl (by omega))
  have gd := ha h1.d (.inr (fun _ _ e => by cases e))
  have gr := ha h1.r (.inr nl)
  have gS := ha (blk_later hS hb) (.inr (fun _ _ e => by injection e with _ e; exact ht e))
  have hb7 : Below n w w7 := h1.bel.grown hg (by have := h1.lt; omega) (fun k e => by have := (h1.own.lt k e).1; omega)
  have f : ∀ {k : Nat} {o : Obj} (a : Nat) (u : Value) (X : World), X.heap[k]? = some o → k ≠ a → (X.setCell ⟨a, 0, none⟩ u).heap[k]? = some o := fun {k o} a u X hX hne => (Below.heap_setCell X _ u k hne).trans hX
  refine ⟨g1, gS, f _ _ _ gS (by omega), f _ _ _ g2 (by omega), ⟨?_, ?_, ?_, f _ _ _ (f _ _ _ g3 (by omega)) (by omega), f _ _ _ (f _ _ _ gd (by omega)) (by omega), f _ _ _ (f _ _ _ gr (by omega)) (by omega), (hb7.setCell (by show n ≤ n + 1; omega) _).setCell (by show n ≤ n + 1 + 1; omega) _⟩⟩
  · have : Boxed (w7.setCell ⟨n + 1, 0, none⟩ v') (n + 1) 22 v' := Boxed.set _ g1
    exact f _ _ _ this (by omega)
  · rw [List.length_append, List.map_append]
    exact ownsRow_setCell_below (ownsRow_setCell_below hown (by show n + 1 < n + 6; omega) _) (by show n + 1 + 1 < n + 6; omega) _
  · have : Boxed (w7.setCell ⟨n + 1, 0, none⟩ v') (n + 1 + 1) 3 (.int .i64 (next : Nat)) := f _ _ _ g2 (by omega)
    exact Boxed.set _ this
/-- The bytes that are read stay too. -/
theorem pc_took {p : PcT} {v' : Value} {W1 w7 : World} {u : Value} (hp : p.Ok W W.heap.size) (ha : Apt p v) (hw : Awy p n) (hb : Below W.heap.size W W1) (hg : W1.grownBy w7 v.ownBlock) (hor : v'.ownBlock = v.ownBlock ∨ v'.ownBlock = some W1.heap.size) :
    p.Ok ((w7.setCell ⟨n + 1, 0, none⟩ v').setCell ⟨n + 1 + 1, 0, none⟩ u) ((w7.setCell ⟨n + 1, 0, none⟩ v').setCell ⟨n + 1 + 1, 0, none⟩ u).heap.size ∧ Apt p v' := by
  have hs := Nat.le_trans hb.size hg.size
  refine ⟨pc_keep hp (by rw [size_set, size_set]; exact hs) (fun b off e hn hlt => ?_), fun b off e hn => ?_⟩
  · have h1 := hw (n + 1) (by omega) (by omega) b off e hn
    have h2 := hw (n + 1 + 1) (by omega) (by omega) b off e hn
    refine (Below.heap_setCell _ _ _ _ h2).trans ((Below.heap_setCell _ _ _ _ h1).trans ?_)
    exact (hg.block b (Nat.lt_of_lt_of_le hlt hb.size) (fun q => ha b off e hn q.symm)).trans (hb.block b hlt)
  · rcases hor with h | h
    · rw [h]; exact ha b off e hn
    · rw [h]
      obtain ⟨b', off', e', hb', _⟩ := hp.here.2 hn
      rw [e] at e'
      injection e' with e'
      injection e' with e1 e2
      have := hb.size
      intro q
      injection q with q
      omega
theorem pc_turn {p : PcT} {lp' : Obj} (hp : p.Ok W W.heap.size) (hw : Awy p n) : p.Ok (W.putObj (n + 7) lp') (W.putObj (n + 7) lp').heap.size := by
  refine pc_keep hp (grownBy_putObj' W (n + 7) lp').size (fun b off e hn hlt => ?_)
  exact World.putObj_heap_other (hw (n + 7) (by omega) (by omega) b off e hn)
theorem pc_sized {p : PcT} {u : Value} (hp : p.Ok W W.heap.size) (hw : Awy p n) : p.Ok (W.setCell ⟨n + 1 + 1 + 1, 0, none⟩ u) (W.setCell ⟨n + 1 + 1 + 1, 0, none⟩ u).heap.size :=
  pc_keep hp (by rw [size_set]; exact Nat.le_refl _) (fun b off e hn hlt => Below.heap_setCell _ _ _ _ (hw (n + 1 + 1 + 1) (by omega) (by omega) b off e hn))
end
end Go.Proofs.YtghmehfmchadoaaDoor
