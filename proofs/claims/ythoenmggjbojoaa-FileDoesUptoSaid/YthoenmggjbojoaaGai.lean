import Derived.Test.YthoenmggjbojoaaGah
import Derived.Test.YthoenmggjbojoaaGaf
/-
  Layer 10: operations whose outcome is known; does the layer do anything?
-/
namespace Go.Proofs.Ythoenmggjbojoaa
open Go.RowKit
set_option linter.unusedVariables false

/-- What an operation that was done gives. -/
def OkP (X : FileT) (Z : Nat → Prop) (S : FileS) (w : World) (e : Ending) (w' : World) : Prop :=
  ∃ Y : FileT, e = .returned (.tuple #[Y.agg, .int .i64 0]) ∧ Y.s = S ∧ LieF w' w'.heap.size Y ∧ Below w.heap.size w w' ∧ (∀ g, g < w.heap.size → AwayF X g → Z g → AwayF Y g)
theorem ok_of {X : FileT} {Z : Nat → Prop} {S : FileS} {out : FileS × Int} {w : World} {e : Ending} {w' : World} (h : OpP X Z out w e w') (ho : out = (S, 0)) : OkP X Z S w e w' := by
  subst ho
  exact h
theorem appendS (X : FileT) (p : PcT) (S T : FileS) (w : World) (hL : LieF w w.heap.size X) (hp : p.Ok w w.heap.size) (hs : X.s = S) (hS : S.right = true) (ho : (if p.l.length = 0 then (S, 2) else S.append S.all.length p.l) = (T, 0)) :
    Calls Try.prog 29 #[X.agg, .slice p.A p.n p.c] w (OkP X (AwayP p) T w) := by
  have hr : X.right = true := by rw [right_s hL, hs]; exact hS
  refine (appendF_any X p _ w hL hp (Nat.le_refl _) hr).mono fun e w' h => ok_of h ?_
  rw [← ho, long_s hL hr, hs, ← hp.len]
theorem syncS (X : FileT) (S T : FileS) (w : World) (hL : LieF w w.heap.size X) (hs : X.s = S) (hS : S.right = true) (ho : S.sync S.all.length = (T, 0)) :
    Calls Try.prog 30 #[X.agg] w (OkP X (fun _ => True) T w) := by
  have hr : X.right = true := by rw [right_s hL, hs]; exact hS
  refine (syncF_any X _ w hL (Nat.le_refl _) hr).mono fun e w' h => ok_of h ?_
  rw [← ho, long_s hL hr, hs]
theorem crashS (X : FileT) (k : BoT) (tear cut : Int) (S : FileS) (w : World) (hL : LieF w w.heap.size X) (hk : k.Ok w w.heap.size) (hs : X.s = S) (hS : S.right = true) :
    Calls Try.prog 26 #[X.agg, .slice k.A k.n k.c, .int .i64 tear, .int .i64 cut] w (OkP X (fun _ => True) (S.crash k.l tear cut) w) := by
  have hr : X.right = true := by rw [right_s hL, hs]; exact hS
  refine (crashF_any X k tear cut _ w hL hk (Nat.le_refl _) hr).mono fun e w' h => ok_of h ?_
  rw [hs]
theorem all_of {X : FileT} {S : FileS} (hs : X.s = S) : X.all = S.all := by rw [← all_s, hs]
theorem readS (X : FileT) (a n : Nat) (S : FileS) (w : World) (hL : LieF w w.heap.size X) (hs : X.s = S) (hS : S.right = true) (h : a + n ≤ S.all.length) :
    Calls Try.prog 19 #[X.agg, .int .i64 a, .int .i64 n] w (ReadP X a n w) := by
  have hr : X.right = true := by rw [right_s hL, hs]; exact hS
  exact readF_ok X a n _ w hL (Nat.le_refl _) (right_rows hL hr).1 hr (by rw [long_s hL hr, hs]; exact h)
theorem lenS (X : FileT) (S : FileS) (w : World) (hL : LieF w w.heap.size X) (hs : X.s = S) (hS : S.right = true) :
    Calls Try.prog 20 #[X.agg] w fun e w' => e = .returned (.int .i64 (S.all.length : Nat)) ∧ Below w.heap.size w w' := by
  have hr : X.right = true := by rw [right_s hL, hs]; exact hS
  refine (lenF_any X _ w hL (Nat.le_refl _) (right_rows hL hr).1).mono ?_
  rintro e w' ⟨rfl, hb⟩
  exact ⟨by rw [if_pos hr, long_s hL hr, hs], hb⟩
theorem piece_new (w : World) (l : List UInt8) (C : Array Value) (hC : C.toList = l.map bv) : PcT.Ok (w.alloc (.cells C 5)) (w.alloc (.cells C 5)).heap.size ⟨some ⟨w.heap.size, 0, none⟩, l.length, l.length, l⟩ ∨ 9223372036854775807 < l.length := by
  by_cases h : l.length ≤ 9223372036854775807
  · refine .inl ⟨?_, fun h => (by cases h), Nat.le_refl _, by unfold maxLen; exact h⟩
    rw [World.size_alloc]
    exact bytes_new w l C _ _ hC
  · exact .inr (by omega)
theorem piece_at (w : World) (l : List UInt8) (C : Array Value) (hC : C.toList = l.map bv) (h : l.length ≤ 100) : PcT.Ok (w.alloc (.cells C 5)) (w.alloc (.cells C 5)).heap.size ⟨some ⟨w.heap.size, 0, none⟩, l.length, l.length, l⟩ := by
  rcases piece_new w l C hC with h1 | h1
  · exact h1
  · omega
theorem bools_at (w : World) (l : List Bool) (C : Array Value) (t : TypeId) (hC : C.toList = l.map Value.bool) (h : l.length ≤ 100) : BoT.Ok (w.alloc (.cells C t)) (w.alloc (.cells C t)).heap.size ⟨some ⟨w.heap.size, 0, none⟩, l.length, l.length, l⟩ := by
  refine ⟨⟨by simp, fun _ => ⟨w.heap.size, 0, rfl, by simp, fun j u hu => ?_⟩⟩, fun h => (by cases h), Nat.le_refl _, by unfold maxLen; show l.length ≤ _; omega⟩
  rw [Nat.zero_add, World.cell?_alloc_new]
  rw [← hC] at hu
  simpa using hu
theorem eq_yes (A1 A2 : Option Addr) (n1 c1 n2 c2 : Nat) (l : List UInt8) (B1 B2 : Nat) (w : World) (h1 : Bytes w B1 A1 n1 l) (h2 : Bytes w B2 A2 n2 l) (hm : n1 ≤ maxLen) :
    Calls Try.prog 31 #[.slice A1 n1 c1, .slice A2 n2 c2] w fun e w' => e = .returned (.bool true) ∧ Below w.heap.size w w' := by
  refine (equal_any A1 A2 n1 c1 n2 c2 l l B1 B2 w h1 h2 hm (by rw [← h2.len, h1.len]; exact hm)).mono ?_
  rintro e w' ⟨rfl, k, rfl⟩
  exact ⟨by rw [show sameB l l = true by unfold sameB; exact decide_eq_true rfl], below_drewN (Below.refl _ _) k⟩
def newF : FileT := ⟨⟨none, 0, 0, []⟩, none, 0, 0, [], -1, -1, false⟩
theorem newF_lies (w : World) : LieF w w.heap.size newF := lie_syn ⟨Bytes.zero _, fun _ => rfl, Nat.le_refl _, by unfold maxLen; exact Nat.zero_le _⟩ (by decide) (by decide)
def S1 : FileS := ⟨[], [[1, 2]], -1, -1, false⟩
def S2 : FileS := ⟨[1, 2], [], -1, -1, false⟩
def S3 : FileS := ⟨[1, 2], [[4]], -1, -1, false⟩
def S4 : FileS := ⟨[1, 2], [[4], [5, 6]], -1, -1, false⟩
def S5 : FileS := ⟨[1, 2, 0, 5, 6], [], -1, -1, false⟩
set_option maxRecDepth 20000 in
set_option maxHeartbeats 4000000 in
theorem lwakes_any (w : World) :
    Calls Try.prog 9 #[] w fun e w' => e = .returned (.bool true) ∧ Below w.heap.size w w' := by
  go_enter Try.func9, Try.ntmps9
  go_wp2_with fail
  refine (newF_any _).mono ?_
  rintro e W1 ⟨rfl, hb1⟩
  have hc1 := (appendS newF ⟨some ⟨W1.heap.size, 0, none⟩, 2, 2, [1, 2]⟩ newF.s S1 (W1.alloc (.cells #[.int .u8 1, .int .u8 2] 5)) (newF_lies _) (piece_at W1 [1, 2] #[.int .u8 1, .int .u8 2] rfl (by decide)) rfl (by kernel_rfl) (by kernel_rfl))
  simp only [newF, FileT.agg, PcT.val] at hc1
  go_wp2_with fail
  refine hc1.mono ?_
  rintro e W2 ⟨Y1, rfl, hs1, hL1, hb2, -⟩
  clear hc1
  have hb3 := hb1.trans ((bel_alloc (Below.refl _ _) (.cells #[.int .u8 1, .int .u8 2] 5)).trans (hb2.mono (by simp)) |>.mono hb1.size)
  have hF1 := FAt.new hL1 25
  have hb4 := bel_alloc hb3 (.cells #[.slice Y1.F.A Y1.F.n Y1.F.c, .slice Y1.lA Y1.ln Y1.lc, .int .i64 Y1.fuse, .int .i64 Y1.fault, .bool Y1.off] 25)
  have hg1 : w.heap.size ≤ W2.heap.size := hb3.size
  have Hs1 := Lib.hid hs1
  clear hs1 hL1 hb2 hb3 hb1
  simp only [FileT.agg, PcT.val]
  go_upto_region 2 with fail
  generalize W2.alloc (.cells #[.slice Y1.F.A Y1.F.n Y1.F.c, .slice Y1.lA Y1.ln Y1.lc, .int .i64 Y1.fuse, .int .i64 Y1.fault, .bool Y1.off] 25) = V1 at *
  generalize W2.heap.size = g at *
  obtain ⟨⟨f0, f1, f2, f3, f4⟩, k0, k1, k2, k3, k4⟩ := hF1.v
  have hc := syncS Y1 S1 S2 V1 hF1.l Hs1.out (by kernel_rfl) (by kernel_rfl)
  simp only [FileT.agg, PcT.val] at hc
  go_wp2_with fail
  refine hc.mono ?_
  rintro e W ⟨Y2, rfl, hs, hL, hb, ha⟩
  clear hc f0 f1 f2 f3 f4 k0 k1 k2 k3 k4
  have hbV : Below V1.heap.size V1 W := hb
  have hv := hF1.v.later hbV
  have haw : AwayF Y2 g := ha g (World.block_lt_of_cell? _ _ hF1.v.1.1) hF1.a trivial
  have hF2 := FAt.set hv hL haw
  have hbn := fbelow_set5 (a := .slice Y2.F.A Y2.F.n Y2.F.c) (b := .slice Y2.lA Y2.ln Y2.lc) (c := .int .i64 Y2.fuse) (d := .int .i64 Y2.fault) (e := .bool Y2.off) (hb4.trans (hbV.mono hb4.size)) hg1
  have Hs2 := Lib.hid hs
  unfold set5F at hF2
  clear hs hL hb ha hF1 hb4 haw
  obtain ⟨⟨f0, f1, f2, f3, f4⟩, k0, k1, k2, k3, k4⟩ := hv
  have hb4 := hbn
  clear hbn hbV
  simp only [FileT.agg, PcT.val]
  go_upto_region 3 with fail
  clear f0 f1 f2 f3 f4 k0 k1 k2 k3 k4
  generalize (((((W.setCell ⟨g, 0, none⟩ (.slice Y2.F.A Y2.F.n Y2.F.c)).setCell ⟨g, 1, none⟩ (.slice Y2.lA Y2.ln Y2.lc)).setCell ⟨g, 2, none⟩ (.int .i64 Y2.fuse)).setCell ⟨g, 3, none⟩ (.int .i64 Y2.fault)).setCell ⟨g, 4, none⟩ (.bool Y2.off)) = V2 at *
  obtain ⟨⟨f0, f1, f2, f3, f4⟩, k0, k1, k2, k3, k4⟩ := hF2.v
  have hc := appendS Y2 ⟨some ⟨V2.heap.size, 0, none⟩, 1, 1, [4]⟩ S2 S3 (V2.alloc (.cells #[.int .u8 4] 5)) ((hF2.l.later (bel_alloc (Below.refl _ _) _)).more (by simp)) (piece_at V2 [4] #[.int .u8 4] rfl (by decide)) Hs2.out (by kernel_rfl) (by kernel_rfl)
  simp only [FileT.agg, PcT.val] at hc
  go_wp2_with fail
  refine hc.mono ?_
  rintro e W ⟨Y3, rfl, hs, hL, hb, ha⟩
  clear hc f0 f1 f2 f3 f4 k0 k1 k2 k3 k4
  have hbV : Below V2.heap.size V2 W := (bel_alloc (Below.refl _ _) (.cells #[.int .u8 4] 5)).trans (hb.mono (by simp))
  have hv := hF2.v.later hbV
  have haw : AwayF Y3 g := ha g (by have := World.block_lt_of_cell? _ _ hF2.v.1.1; simp at this ⊢; omega) hF2.a (fun b off hA _ => by have := World.block_lt_of_cell? _ _ hF2.v.1.1; simp at hA this; omega)
  have hF3 := FAt.set hv hL haw
  have hbn := fbelow_set5 (a := .slice Y3.F.A Y3.F.n Y3.F.c) (b := .slice Y3.lA Y3.ln Y3.lc) (c := .int .i64 Y3.fuse) (d := .int .i64 Y3.fault) (e := .bool Y3.off) (hb4.trans (hbV.mono hb4.size)) hg1
  have Hs3 := Lib.hid hs
  unfold set5F at hF3
  clear hs hL hb ha hF2 hb4 haw
  obtain ⟨⟨f0, f1, f2, f3, f4⟩, k0, k1, k2, k3, k4⟩ := hv
  have hb4 := hbn
  clear hbn hbV
  simp only [FileT.agg, PcT.val]
  go_upto_region 4 with fail
  clear f0 f1 f2 f3 f4 k0 k1 k2 k3 k4
  generalize (((((W.setCell ⟨g, 0, none⟩ (.slice Y3.F.A Y3.F.n Y3.F.c)).setCell ⟨g, 1, none⟩ (.slice Y3.lA Y3.ln Y3.lc)).setCell ⟨g, 2, none⟩ (.int .i64 Y3.fuse)).setCell ⟨g, 3, none⟩ (.int .i64 Y3.fault)).setCell ⟨g, 4, none⟩ (.bool Y3.off)) = V3 at *
  obtain ⟨⟨f0, f1, f2, f3, f4⟩, k0, k1, k2, k3, k4⟩ := hF3.v
  have hc := appendS Y3 ⟨some ⟨V3.heap.size, 0, none⟩, 2, 2, [5, 6]⟩ S3 S4 (V3.alloc (.cells #[.int .u8 5, .int .u8 6] 5)) ((hF3.l.later (bel_alloc (Below.refl _ _) _)).more (by simp)) (piece_at V3 [5, 6] #[.int .u8 5, .int .u8 6] rfl (by decide)) Hs3.out (by kernel_rfl) (by kernel_rfl)
  simp only [FileT.agg, PcT.val] at hc
  go_wp2_with fail
  refine hc.mono ?_
  rintro e W ⟨Y4, rfl, hs, hL, hb, ha⟩
  clear hc f0 f1 f2 f3 f4 k0 k1 k2 k3 k4
  have hbV : Below V3.heap.size V3 W := (bel_alloc (Below.refl _ _) (.cells #[.int .u8 5, .int .u8 6] 5)).trans (hb.mono (by simp))
  have hv := hF3.v.later hbV
  have haw : AwayF Y4 g := ha g (by have := World.block_lt_of_cell? _ _ hF3.v.1.1; simp at this ⊢; omega) hF3.a (fun b off hA _ => by have := World.block_lt_of_cell? _ _ hF3.v.1.1; simp at hA this; omega)
  have hF4 := FAt.set hv hL haw
  have hbn := fbelow_set5 (a := .slice Y4.F.A Y4.F.n Y4.F.c) (b := .slice Y4.lA Y4.ln Y4.lc) (c := .int .i64 Y4.fuse) (d := .int .i64 Y4.fault) (e := .bool Y4.off) (hb4.trans (hbV.mono hb4.size)) hg1
  have Hs4 := Lib.hid hs
  unfold set5F at hF4
  clear hs hL hb ha hF3 hb4 haw
  obtain ⟨⟨f0, f1, f2, f3, f4⟩, k0, k1, k2, k3, k4⟩ := hv
  have hb4 := hbn
  clear hbn hbV
  simp only [FileT.agg, PcT.val]
  go_upto_region 5 with fail
  clear f0 f1 f2 f3 f4 k0 k1 k2 k3 k4
  generalize (((((W.setCell ⟨g, 0, none⟩ (.slice Y4.F.A Y4.F.n Y4.F.c)).setCell ⟨g, 1, none⟩ (.slice Y4.lA Y4.ln Y4.lc)).setCell ⟨g, 2, none⟩ (.int .i64 Y4.fuse)).setCell ⟨g, 3, none⟩ (.int .i64 Y4.fault)).setCell ⟨g, 4, none⟩ (.bool Y4.off)) = V4 at *
  obtain ⟨⟨f0, f1, f2, f3, f4⟩, k0, k1, k2, k3, k4⟩ := hF4.v
  have hc := readS Y4 1 3 S4 V4 hF4.l Hs4.out (by kernel_rfl) (by decide)
  simp only [FileT.agg, PcT.val, show ((1 : Nat) : Int) = 1 from rfl, show ((3 : Nat) : Int) = 3 from rfl] at hc
  go_wp2_with fail
  refine hc.mono ?_
  rintro e W5 ⟨q, rfl, hql, hqo, hb5, -⟩
  clear hc
  have hql2 : q.l = [2, 4, 5] := by rw [hql, all_of Hs4.out]; kernel_rfl
  have hF5 := hF4.later hb5
  have hb6 := hb4.trans (hb5.mono hb4.size)
  clear f0 f1 f2 f3 f4 k0 k1 k2 k3 k4 hF4 hb4 hb5 hql
  obtain ⟨⟨f0, f1, f2, f3, f4⟩, k0, k1, k2, k3, k4⟩ := hF5.v
  have hc := crashS Y4 ⟨some ⟨W5.heap.size, 0, none⟩, 2, 2, [false, true]⟩ (-1) 0 S4 (W5.alloc (.cells #[.bool false, .bool true] 4)) ((hF5.l.later (bel_alloc (Below.refl _ _) _)).more (by simp)) (bools_at W5 [false, true] #[.bool false, .bool true] _ rfl (by decide)) Hs4.out (by kernel_rfl)
  simp only [FileT.agg, PcT.val] at hc
  go_wp2_with fail
  refine hc.mono ?_
  rintro e W6 ⟨Y5, rfl, hs5, hL5, hb7, -⟩
  have hb8 : Below W5.heap.size W5 W6 := (bel_alloc (Below.refl _ _) (.cells #[.bool false, .bool true] 4)).trans (hb7.mono (by simp))
  have hF6 := hF5.later hb8
  have hb9 := hb6.trans (hb8.mono hb6.size)
  have hq6 := (hqo.later hb8).more hb8.size
  have hC := FAt.new hL5 25
  have hF7 := hF6.later (bel_alloc (Below.refl _ _) (.cells #[.slice Y5.F.A Y5.F.n Y5.F.c, .slice Y5.lA Y5.ln Y5.lc, .int .i64 Y5.fuse, .int .i64 Y5.fault, .bool Y5.off] 25))
  have hq7 := (hq6.later (bel_alloc (Below.refl _ _) (.cells #[.slice Y5.F.A Y5.F.n Y5.F.c, .slice Y5.lA Y5.ln Y5.lc, .int .i64 Y5.fuse, .int .i64 Y5.fault, .bool Y5.off] 25))).more (bel_alloc (Below.refl W6.heap.size W6) (.cells #[.slice Y5.F.A Y5.F.n Y5.F.c, .slice Y5.lA Y5.ln Y5.lc, .int .i64 Y5.fuse, .int .i64 Y5.fault, .bool Y5.off] 25)).size
  have hbA := bel_alloc hb9 (.cells #[.slice Y5.F.A Y5.F.n Y5.F.c, .slice Y5.lA Y5.ln Y5.lc, .int .i64 Y5.fuse, .int .i64 Y5.fault, .bool Y5.off] 25)
  have hs5' : Y5.F.l = [1, 2, 0, 5, 6] := by
    have h : Y5.s.firm = (S4.crash [false, true] (-1) 0).firm := by rw [hs5]
    exact h.trans (by kernel_rfl)
  have hg2 : W6.heap.size = W6.heap.size := rfl
  clear hc f0 f1 f2 f3 f4 k0 k1 k2 k3 k4 hF5 hb6 hb7 hb8 hF6 hb9 hq6 hqo hs5 hL5 hg2
  simp only [FileT.agg, PcT.val]
  go_upto_region 7 with fail
  generalize W6.alloc (.cells #[.slice Y5.F.A Y5.F.n Y5.F.c, .slice Y5.lA Y5.ln Y5.lc, .int .i64 Y5.fuse, .int .i64 Y5.fault, .bool Y5.off] 25) = V5 at *
  generalize W6.heap.size = g2 at *
  go_upto_region 9 with fail
  obtain ⟨⟨f0, f1, f2, f3, f4⟩, k0, k1, k2, k3, k4⟩ := hF7.v
  obtain ⟨⟨j0, j1, j2, j3, j4⟩, m0, m1, m2, m3, m4⟩ := hC.v
  have x1 := bel_alloc (Below.refl V5.heap.size V5) (.cells #[.int .u8 2, .int .u8 4, .int .u8 5] 5)
  have he1 := eq_yes q.A (some ⟨V5.heap.size, 0, none⟩) q.n q.c 3 3 [2, 4, 5] V5.heap.size (V5.heap.size + 1) (V5.alloc (.cells #[.int .u8 2, .int .u8 4, .int .u8 5] 5)) (by rw [← hql2]; exact (hq7.later x1).here) (bytes_new V5 [2, 4, 5] _ _ _ rfl) (Nat.le_trans hq7.fits hq7.most)
  clear f0 f1 f2 f3 f4 k0 k1 k2 k3 k4 j0 j1 j2 j3 j4 m0 m1 m2 m3 m4
  go_wp2_with fail
  refine he1.mono ?_
  rintro e V6 ⟨rfl, hbB⟩
  have hbC := bel_next x1 hbB
  have hF8 := hF7.later hbC
  have hC8 := hC.later hbC
  have hbD := hbA.trans (hbC.mono hbA.size)
  clear he1 x1 hF7 hC hbA hbB hbC hq7
  obtain ⟨⟨j0, j1, j2, j3, j4⟩, -⟩ := hC8.v
  have x1 := bel_alloc (Below.refl V6.heap.size V6) (.cells #[.int .u8 1, .int .u8 2, .int .u8 0, .int .u8 5, .int .u8 6] 5)
  have he1 := eq_yes Y5.F.A (some ⟨V6.heap.size, 0, none⟩) Y5.F.n Y5.F.c 5 5 [1, 2, 0, 5, 6] V6.heap.size (V6.heap.size + 1) (V6.alloc (.cells #[.int .u8 1, .int .u8 2, .int .u8 0, .int .u8 5, .int .u8 6] 5)) (by rw [← hs5']; exact (hC8.l.firm.later x1).here) (bytes_new V6 [1, 2, 0, 5, 6] _ _ _ rfl) (Nat.le_trans hC8.l.firm.fits hC8.l.firm.most)
  go_wp2_with fail
  refine he1.mono ?_
  rintro e V7 ⟨rfl, hbB⟩
  have hbC := bel_next x1 hbB
  have hF9 := hF8.later hbC
  have hbE := hbD.trans (hbC.mono hbD.size)
  clear he1 x1 hF8 hC8 hbB hbC hbD j0 j1 j2 j3 j4
  obtain ⟨⟨f0, f1, f2, f3, f4⟩, -⟩ := hF9.v
  have he1 := lenS Y4 S4 V7 hF9.l Hs4.out (by kernel_rfl)
  simp only [FileT.agg, PcT.val, show ((S4.all.length : Nat) : Int) = 5 from by kernel_rfl] at he1
  go_wp2_with fail
  refine he1.mono ?_
  rintro e V8 ⟨rfl, hbB⟩
  have hbF := hbE.trans (hbB.mono hbE.size)
  clear he1 hF9 hbB hbE f0 f1 f2 f3 f4
  have he1 := checkF_any ⟨⟨none, 0, 0, []⟩, none, 0, 0, [], -2, 0, false⟩ V8.heap.size V8 (lie_syn ⟨Bytes.zero _, fun _ => rfl, Nat.le_refl _, by unfold maxLen; exact Nat.zero_le _⟩ (by decide) (by decide)) (Nat.le_refl _) (by intro p hp; simp [FileT.Q] at hp; subst hp; decide)
  rw [show (⟨⟨none, 0, 0, []⟩, none, 0, 0, [], -2, 0, false⟩ : FileT).right = false from by kernel_rfl] at he1
  simp only [FileT.agg, PcT.val] at he1
  go_wp2_with fail
  refine he1.mono ?_
  rintro e V9 ⟨rfl, hbB⟩
  have hbG := hbF.trans (hbB.mono hbF.size)
  clear he1 hbB hbF
  go_wp2
  all_goals
    go_ret
    exact ⟨rfl, hbG⟩
end Go.Proofs.Ythoenmggjbojoaa
/-
  Layer 10: a deed of a row, cell by cell; deeds done to files that are right.
-/
namespace Go.Proofs.Ythoenmggjbojoaa
open Go.RowKit
set_option linter.unusedVariables false

theorem deed_at {w : World} {B n : Nat} {A : Option Addr} {l : List DeedT} (h : Deeds w B A n l) {k : Nat} (hk : k < n) : ∃ b off x, A = some ⟨b, off, none⟩ ∧ b < B ∧ l[k]? = some x ∧
    w.cell? ⟨b, off + k * 5, none⟩ = some (.int .i64 x.kind) ∧ w.cell? ⟨b, off + k * 5 + 1, none⟩ = some (.int .i64 x.n) ∧ w.cell? ⟨b, off + k * 5 + 2, none⟩ = some (.int .i64 x.tear) ∧ w.cell? ⟨b, off + k * 5 + 3, none⟩ = some (.slice x.bytes.A x.bytes.n x.bytes.c) ∧ w.cell? ⟨b, off + k * 5 + 4, none⟩ = some (.slice x.keep.A x.keep.n x.keep.c) := by
  obtain ⟨b, off, rfl, hb, hc⟩ := h.2 (by omega)
  have hl : l.length = n := by have := h.1; rw [flat_len DeedT.cells 5 (fun _ => rfl)] at this; omega
  have hk' : k < l.length := by omega
  have hg := fun j hj => flat_get DeedT.cells 5 (fun _ => rfl) l k j hk' hj
  refine ⟨b, off, l[k], rfl, hb, List.getElem?_eq_getElem hk', ?_, ?_, ?_, ?_, ?_⟩
  · exact hc (k * 5 + 0) _ (hg 0 (by decide))
  · rw [Nat.add_assoc]; exact hc (k * 5 + 1) _ (hg 1 (by decide))
  · rw [Nat.add_assoc]; exact hc (k * 5 + 2) _ (hg 2 (by decide))
  · rw [Nat.add_assoc]; exact hc (k * 5 + 3) _ (hg 3 (by decide))
  · rw [Nat.add_assoc]; exact hc (k * 5 + 4) _ (hg 4 (by decide))
theorem doesR (X : FileT) (x : DeedT) (N : Nat) (w : World) (hL : LieF w w.heap.size X) (hx : x.Ok w w.heap.size N) (hr : X.s.right = true) :
    Calls Try.prog 14 #[X.agg, .agg #[.int .i64 x.kind, .int .i64 x.n, .int .i64 x.tear, .slice x.bytes.A x.bytes.n x.bytes.c, .slice x.keep.A x.keep.n x.keep.c]] w (OpP X (AwayP x.bytes) (doS X.s X.s.all.length x) w) := by
  have hr' : X.right = true := by rw [right_s hL]; exact hr
  have h := does_any X x w.heap.size N w hL hx (Nat.le_refl _) hr'
  rw [long_s hL hr'] at h
  exact h
theorem doR {X Y : FileT} {x : DeedT} {w : World} {B N : Nat} (hx : x.Ok w B N) (hr : X.s.right = true) (hs : Y.s = (doS X.s X.s.all.length x).1) : Y.s.right = true := by
  rw [hs]; exact doS_right hr x hx.bytes.len
theorem checkR (X : FileT) (w : World) (hL : LieF w w.heap.size X) (hr : X.s.right = true) :
    Calls Try.prog 17 #[X.agg] w fun e w' => e = .returned (.int .i64 0) ∧ Below w.heap.size w w' := by
  have hr' : X.right = true := by rw [right_s hL]; exact hr
  refine (checkF_any X _ w hL (Nat.le_refl _) (right_rows hL hr').1).mono ?_
  rintro e w' ⟨rfl, hb⟩
  exact ⟨by rw [if_pos hr'], hb⟩
end Go.Proofs.Ythoenmggjbojoaa
/-
  Layer 10: all that a file has.
-/
namespace Go.Proofs.Ythoenmggjbojoaa
open Go.RowKit
set_option linter.unusedVariables false

/-- A row that came back. -/
def RowP (X : FileT) (l : List UInt8) (w : World) (e : Ending) (w' : World) : Prop :=
  ∃ p : PcT, e = .returned (.slice p.A p.n p.c) ∧ p.l = l ∧ p.Ok w' w'.heap.size ∧ Below w.heap.size w w' ∧ ∀ g, g < w.heap.size → AwayF X g → AwayP p g
set_option maxRecDepth 20000 in
set_option maxHeartbeats 2000000 in
theorem contentR (X : FileT) (w : World) (hL : LieF w w.heap.size X) (hr : X.s.right = true) :
    Calls Try.prog 25 #[X.agg] w (RowP X X.s.all w) := by
  have hb1 := bel_alloc (Below.refl w.heap.size w) (.cells #[.slice X.F.A X.F.n X.F.c, .slice X.lA X.ln X.lc, .int .i64 X.fuse, .int .i64 X.fault, .bool X.off] 25)
  have hbox := FBox.new w X 25
  have Hle := Lib.hid (fun W (h : Below (w.alloc (.cells #[.slice X.F.A X.F.n X.F.c, .slice X.lA X.ln X.lc, .int .i64 X.fuse, .int .i64 X.fault, .bool X.off] 25)).heap.size (w.alloc (.cells #[.slice X.F.A X.F.n X.F.c, .slice X.lA X.ln X.lc, .int .i64 X.fuse, .int .i64 X.fault, .bool X.off] 25)) W) => lenS X X.s W ((hL.later ((bel_next hb1 h))).more (bel_next hb1 h).size) rfl hr)
  have Hrd := Lib.hid (fun W (h : Below (w.alloc (.cells #[.slice X.F.A X.F.n X.F.c, .slice X.lA X.ln X.lc, .int .i64 X.fuse, .int .i64 X.fault, .bool X.off] 25)).heap.size (w.alloc (.cells #[.slice X.F.A X.F.n X.F.c, .slice X.lA X.ln X.lc, .int .i64 X.fuse, .int .i64 X.fault, .bool X.off] 25)) W) => readS X 0 X.s.all.length X.s W ((hL.later ((bel_next hb1 h))).more (bel_next hb1 h).size) rfl hr (by omega))
  simp only [FileT.agg, PcT.val, show ((0 : Nat) : Int) = 0 from rfl] at Hle Hrd ⊢
  have HQ := Lib.hid (show between X.all 0 (0 + X.s.all.length) = X.s.all by
    unfold between
    rw [Nat.zero_add, all_s, List.drop_zero, List.take_of_length_le (Nat.le_refl _)])
  clear hL hr
  go_enter Try.func25, Try.ntmps25
  go_upto_region 1 with fail
  generalize w.alloc (.cells #[.slice X.F.A X.F.n X.F.c, .slice X.lA X.ln X.lc, .int .i64 X.fuse, .int .i64 X.fault, .bool X.off] 25) = W1 at *
  have x0 : ∀ W, Below W1.heap.size W1 W → W.cell? ⟨w.heap.size, 0, none⟩ = some (.slice X.F.A X.F.n X.F.c) := fun W hb => (hbox.later hb).1
  have x1 : ∀ W, Below W1.heap.size W1 W → W.cell? ⟨w.heap.size, 1, none⟩ = some (.slice X.lA X.ln X.lc) := fun W hb => (hbox.later hb).2.1
  have x2 : ∀ W, Below W1.heap.size W1 W → W.cell? ⟨w.heap.size, 2, none⟩ = some (.int .i64 X.fuse) := fun W hb => (hbox.later hb).2.2.1
  have x3 : ∀ W, Below W1.heap.size W1 W → W.cell? ⟨w.heap.size, 3, none⟩ = some (.int .i64 X.fault) := fun W hb => (hbox.later hb).2.2.2.1
  have x4 : ∀ W, Below W1.heap.size W1 W → W.cell? ⟨w.heap.size, 4, none⟩ = some (.bool X.off) := fun W hb => (hbox.later hb).2.2.2.2
  generalize X.s.all.length = lo at *
  refine wp_region_held_drew (S := fun W => Below W1.heap.size W1 W) (by kernel_rfl) (below_drewN (Below.refl _ _) 1) (fun hHeld => ?_)
  refine rg_in 0 rfl (by kernel_rfl) (by kernel_rfl) (by kernel_rfl) (by rfl) (v := ?_) (fun _ _ _ h => h) hHeld (fun w hSw => ?_) ?_
  rotate_left
  · (try dsimp only at hSw); go_simp <;> (with_reducible rfl)
  (try simp only [Act.put, List.setIfInBounds_toArray, List.set_cons_zero, List.set_cons_succ])
  refine rg_in 1 rfl (by kernel_rfl) (by kernel_rfl) (by kernel_rfl) (by rfl) (v := ?_) (fun _ _ _ h => h) hHeld (fun w hSw => ?_) ?_
  rotate_left
  · (try dsimp only at hSw); go_simp <;> (with_reducible rfl)
  (try simp only [Act.put, List.setIfInBounds_toArray, List.set_cons_zero, List.set_cons_succ])
  refine rg_do 2 rfl (by kernel_rfl) (by rfl) (fun K hK => ?_)
  go_simp
  (go_at_call 20; (with_reducible refine (Hle.out _ hHeld).mono ?_); (rintro e w102 ⟨rfl, hb2⟩))
  refine hK.out _ _ (S_call hb2 hHeld rfl) (fun hHeld => ?_)
  clear hK K
  (try simp only [Act.put, List.setIfInBounds_toArray, List.set_cons_zero, List.set_cons_succ])
  refine rg_do 3 rfl (by kernel_rfl) (by rfl) (fun K hK => ?_)
  go_simp
  (go_at_call 19; (with_reducible refine (Hrd.out _ hHeld).mono ?_); (rintro e w103 ⟨p, rfl, hpl, hpo, hb3, hpa⟩))
  refine hK.out _ _ (S_call hb3 hHeld rfl) (fun hHeld => ?_)
  clear hK K
  (try simp only [Act.put, List.setIfInBounds_toArray, List.set_cons_zero, List.set_cons_succ])
  refine rg_in 4 rfl (by kernel_rfl) (by kernel_rfl) (by kernel_rfl) (by rfl) (v := ?_) (fun _ _ _ h => h) hHeld (fun w hSw => ?_) ?_
  rotate_left
  · (try dsimp only at hSw); go_simp <;> (with_reducible rfl)
  (try simp only [Act.put, List.setIfInBounds_toArray, List.set_cons_zero, List.set_cons_succ])
  refine rg_in 5 rfl (by kernel_rfl) (by kernel_rfl) (by kernel_rfl) (by rfl) (v := ?_) (fun _ _ _ h => h) hHeld (fun w hSw => ?_) ?_
  rotate_left
  · (try dsimp only at hSw); go_simp <;> (with_reducible rfl)
  (try simp only [Act.put, List.setIfInBounds_toArray, List.set_cons_zero, List.set_cons_succ])
  refine rg_in 6 rfl (by kernel_rfl) (by kernel_rfl) (by kernel_rfl) (by rfl) (v := ?_) (fun _ _ _ h => h) hHeld (fun w hSw => ?_) ?_
  rotate_left
  · (try dsimp only at hSw); go_simp <;> (with_reducible rfl)
  (try simp only [Act.put, List.setIfInBounds_toArray, List.set_cons_zero, List.set_cons_succ])
  refine rg_in 7 rfl (by kernel_rfl) (by kernel_rfl) (by kernel_rfl) (by rfl) (v := ?_) (fun _ _ _ h => h) hHeld (fun w hSw => ?_) ?_
  rotate_left
  · (try dsimp only at hSw); go_simp <;> (with_reducible rfl)
  (try simp only [Act.put, List.setIfInBounds_toArray, List.set_cons_zero, List.set_cons_succ])
  refine rg_in 8 rfl (by kernel_rfl) (by kernel_rfl) (by kernel_rfl) (by rfl) (v := ?_) (fun _ _ _ h => h) hHeld (fun w hSw => ?_) ?_
  rotate_left
  · (try dsimp only at hSw); go_simp <;> (with_reducible rfl)
  (try simp only [Act.put, List.setIfInBounds_toArray, List.set_cons_zero, List.set_cons_succ])
  refine wpAnyH_done (by kernel_rfl) ?_ _
  have hbe := bel_next hb1 hHeld
  have hs9 : w.heap.size ≤ w102.heap.size := Nat.le_trans hb1.size hb2.size
  clear x0 x1 x2 x3 x4
  have HP := Lib.hid (And.intro hpl hpo)
  have HA := Lib.hid (show ∀ k, k < w.heap.size → AwayF X k → AwayP p k from fun k hk ha => hpa k (by omega) ha)
  clear hpl hpo hpa
  go_wp2
  go_ret
  exact ⟨p, rfl, by rw [HP.out.1]; exact HQ.out, HP.out.2, hbe, HA.out⟩
end Go.Proofs.Ythoenmggjbojoaa
/-
  Layer 10, plain: the counts of operations before the power is lost, and before one is refused.
-/
namespace Go.Proofs.Ythoenmggjbojoaa
open Go.RowKit
set_option linter.unusedVariables false

/-- An operation: what is asked, and what is then done. -/
def opS (S : FileS) (long more : Nat) (f : FileS → FileS) : FileS × Int := if (S.asked long more).2 = 0 then (f (S.asked long more).1, 0) else S.asked long more
/-- An Append or a Sync. -/
theorem doS_op (x : DeedT) (h3 : whichN x.kind ≤ 3) (hb : whichN x.kind < 3 → x.bytes.n ≠ 0) (fi : List UInt8) (lo : List (List UInt8)) (long : Nat) :
    ∃ more fi' lo', ∀ u v b, doS ⟨fi, lo, u, v, b⟩ long x = opS ⟨fi, lo, u, v, b⟩ long more (fun r => ⟨fi', lo', r.fuse, r.fault, r.off⟩) := by
  by_cases h : whichN x.kind = 3
  · refine ⟨0, fi ++ lo.flatten, [], fun u v b => ?_⟩
    unfold doS
    rw [if_pos h]
    rfl
  · refine ⟨x.bytes.l.length, fi, lo ++ [x.bytes.l], fun u v b => ?_⟩
    unfold doS
    rw [if_neg h, if_neg (by omega), if_neg (by omega), if_neg (by omega), if_neg (hb (by omega))]
    have e := asked_same ⟨fi, lo, u, v, b⟩ long x.bytes.l.length
    unfold FileS.append opS
    split
    · refine Prod.ext ?_ rfl
      dsimp only
      rw [e.1]
    · rfl
theorem asked_plain (fi : List UInt8) (lo : List (List UInt8)) (long more : Nat) : FileS.asked ⟨fi, lo, -1, -1, false⟩ long more = if 524288 < long + more then (⟨fi, lo, -1, -1, false⟩, 8) else (⟨fi, lo, -1, -1, false⟩, 0) := by
  unfold FileS.asked
  rw [if_neg (by show ¬ false = true; decide)]
  split
  · rfl
  · rfl
theorem asked_fuse (fi : List UInt8) (lo : List (List UInt8)) (k long more : Nat) : FileS.asked ⟨fi, lo, (k : Nat), -1, false⟩ long more = if 524288 < long + more then (⟨fi, lo, (k : Nat), -1, false⟩, 8) else if k = 0 then (⟨fi, lo, -1, -1, true⟩, 10) else (⟨fi, lo, ((k - 1 : Nat) : Int), -1, false⟩, 0) := by
  unfold FileS.asked
  rw [if_neg (by show ¬ false = true; decide)]
  split
  · rfl
  · rw [if_neg (by show ¬ (-1 : Int) = 0; decide)]
    dsimp only
    by_cases h : k = 0
    · rw [if_pos (by omega), if_pos h]; rfl
    · rw [if_neg (by omega), if_neg h, if_pos (by omega : (0 : Int) < (k : Int)), show ((k : Nat) : Int) - 1 = ((k - 1 : Nat) : Int) by omega]; rfl
theorem asked_fault (fi : List UInt8) (lo : List (List UInt8)) (k long more : Nat) : FileS.asked ⟨fi, lo, -1, (k : Nat), false⟩ long more = if 524288 < long + more then (⟨fi, lo, -1, (k : Nat), false⟩, 8) else if k = 0 then (⟨fi, lo, -1, -1, false⟩, 9) else (⟨fi, lo, -1, ((k - 1 : Nat) : Int), false⟩, 0) := by
  unfold FileS.asked
  rw [if_neg (by show ¬ false = true; decide)]
  split
  · rfl
  · by_cases h : k = 0
    · rw [if_pos (by show ((k : Nat) : Int) = 0; omega), if_pos h]
    · rw [if_neg (by show ¬ ((k : Nat) : Int) = 0; omega), if_neg h]
      dsimp only
      rw [if_neg (by decide), if_pos (by omega : (0 : Int) < (k : Int)), show ((k : Nat) : Int) - 1 = ((k - 1 : Nat) : Int) by omega]
      rfl
theorem asked_off (fi : List UInt8) (lo : List (List UInt8)) (u v : Int) (long more : Nat) : (FileS.asked ⟨fi, lo, u, v, true⟩ long more).2 = 10 := by
  unfold FileS.asked
  rw [if_pos rfl]
/-- An operation on a file that neither count holds back, and on one that so many are left to. -/
theorem counts_step (fi : List UInt8) (lo : List (List UInt8)) (k long : Nat) (x : DeedT) (h3 : whichN x.kind ≤ 3) (hb : whichN x.kind < 3 → x.bytes.n ≠ 0) :
    ((doS ⟨fi, lo, -1, -1, false⟩ long x).2 = 8 ∧ (doS ⟨fi, lo, (k : Nat), -1, false⟩ long x).2 = 8) ∨
    ((doS ⟨fi, lo, -1, -1, false⟩ long x).2 = 0 ∧ k = 0 ∧ doS ⟨fi, lo, (k : Nat), -1, false⟩ long x = (⟨fi, lo, -1, -1, true⟩, 10) ∧ (doS ⟨fi, lo, -1, -1, true⟩ long x).2 = 10) ∨
    (0 < k ∧ ∃ fi' lo', doS ⟨fi, lo, -1, -1, false⟩ long x = (⟨fi', lo', -1, -1, false⟩, 0) ∧ doS ⟨fi, lo, (k : Nat), -1, false⟩ long x = (⟨fi', lo', ((k - 1 : Nat) : Int), -1, false⟩, 0)) := by
  obtain ⟨more, fi', lo', h⟩ := doS_op x h3 hb fi lo long
  rw [h, h, h]
  unfold opS
  rw [asked_plain, asked_fuse]
  by_cases hf : 524288 < long + more
  · exact .inl ⟨by simp [hf], by simp [hf]⟩
  · by_cases hk : k = 0
    · exact .inr (.inl ⟨by simp [hf], hk, by simp [hf, hk], by rw [if_neg (by rw [asked_off]; decide)]; exact asked_off _ _ _ _ _ _⟩)
    · exact .inr (.inr ⟨by omega, fi', lo', by simp [hf], by simp [hf, hk]⟩)
theorem refuses_step (fi : List UInt8) (lo : List (List UInt8)) (k long : Nat) (x : DeedT) (h3 : whichN x.kind ≤ 3) (hb : whichN x.kind < 3 → x.bytes.n ≠ 0) :
    ((doS ⟨fi, lo, -1, -1, false⟩ long x).2 = 8 ∧ (doS ⟨fi, lo, -1, (k : Nat), false⟩ long x).2 = 8) ∨
    ((doS ⟨fi, lo, -1, -1, false⟩ long x).2 = 0 ∧ k = 0 ∧ doS ⟨fi, lo, -1, (k : Nat), false⟩ long x = (⟨fi, lo, -1, -1, false⟩, 9)) ∨
    (0 < k ∧ ∃ fi' lo', doS ⟨fi, lo, -1, -1, false⟩ long x = (⟨fi', lo', -1, -1, false⟩, 0) ∧ doS ⟨fi, lo, -1, (k : Nat), false⟩ long x = (⟨fi', lo', -1, ((k - 1 : Nat) : Int), false⟩, 0)) := by
  obtain ⟨more, fi', lo', h⟩ := doS_op x h3 hb fi lo long
  rw [h, h]
  unfold opS
  rw [asked_plain, asked_fault]
  by_cases hf : 524288 < long + more
  · exact .inl ⟨by simp [hf], by simp [hf]⟩
  · by_cases hk : k = 0
    · exact .inr (.inl ⟨by simp [hf], hk, by simp [hf, hk]⟩)
    · exact .inr (.inr ⟨by omega, fi', lo', by simp [hf], by simp [hf, hk]⟩)
theorem plain_step (fi : List UInt8) (lo : List (List UInt8)) (long : Nat) (x : DeedT) (h3 : whichN x.kind ≤ 3) (hb : whichN x.kind < 3 → x.bytes.n ≠ 0) :
    (doS ⟨fi, lo, -1, -1, false⟩ long x).2 = 8 ∨ ∃ fi' lo', doS ⟨fi, lo, -1, -1, false⟩ long x = (⟨fi', lo', -1, -1, false⟩, 0) := by
  obtain ⟨more, fi', lo', h⟩ := doS_op x h3 hb fi lo long
  rw [h]
  unfold opS
  rw [asked_plain]
  by_cases hf : 524288 < long + more
  · exact .inl (by simp [hf])
  · exact .inr ⟨fi', lo', by simp [hf]⟩
theorem all_s5 (fi : List UInt8) (lo : List (List UInt8)) (u v : Int) (b : Bool) : FileS.all ⟨fi, lo, u, v, b⟩ = fi ++ lo.flatten := rfl
theorem right_u {fi : List UInt8} {lo : List (List UInt8)} (h : FileS.right ⟨fi, lo, -1, -1, false⟩ = true) {u v : Int} (hu : -1 ≤ u) (hv : -1 ≤ v) : FileS.right ⟨fi, lo, u, v, false⟩ = true := by
  obtain ⟨h1, _, _, _, h5⟩ := rightS.1 h
  exact rightS.2 ⟨h1, hu, hv, fun h => (by cases h), h5⟩
theorem right_o {fi : List UInt8} {lo : List (List UInt8)} (h : FileS.right ⟨fi, lo, -1, -1, false⟩ = true) : FileS.right ⟨fi, lo, -1, -1, true⟩ = true := by
  obtain ⟨h1, _, _, _, h5⟩ := rightS.1 h
  exact rightS.2 ⟨h1, Int.le_refl _, Int.le_refl _, fun _ => rfl, h5⟩
end Go.Proofs.Ythoenmggjbojoaa
/-
  Layer 10: Same.
-/
namespace Go.Proofs.Ythoenmggjbojoaa
open Go.RowKit
set_option linter.unusedVariables false

theorem same_no {l m : List UInt8} (h : ¬ l = m) : sameB l m = false := by unfold sameB; exact decide_eq_false h
theorem same_yes' {l m : List UInt8} (h : l = m) : sameB l m = true := by unfold sameB; exact decide_eq_true h
theorem take_map {L : List PcT} {k : Nat} {p : PcT} (h : L[k]? = some p) : (L.take (k + 1)).map (·.l) = (L.take k).map (·.l) ++ [p.l] := by
  rw [List.take_add_one, h]
  simp
set_option maxRecDepth 20000 in
set_option maxHeartbeats 2000000 in
theorem eqRows_any (A1 A2 : Option Addr) (n1 c1 n2 c2 B1 B2 : Nat) (L1 L2 : List PcT) (w : World) (h1 : Shows w B1 1 A1 n1 (L1.map PcT.val)) (h2 : Shows w B2 1 A2 n2 (L2.map PcT.val)) (o1 : ∀ p ∈ L1, p.Ok w w.heap.size) (o2 : ∀ p ∈ L2, p.Ok w w.heap.size) (hm1 : n1 ≤ maxLen) (b : Bool) (hb : decide (L1.map (·.l) = L2.map (·.l)) = b) :
    Calls Try.prog 42 #[.slice A1 n1 c1, .slice A2 n2 c2, .func (.func 22) #[] #[]] w fun e w' => e = .returned (.bool b) ∧ w = w' := by
  have l1 : L1.length = n1 := by have := h1.1; simpa using this
  have l2 : L2.length = n2 := by have := h2.1; simpa using this
  unfold maxLen at hm1
  by_cases hn : n1 = n2
  · have hne : ((n1 : Int) != (n2 : Int)) = false := by rw [bne_eq_false_iff_eq]; omega
    have Hl1 := Lib.hid l1
    have Hl2 := Lib.hid l2
    have Hb := Lib.hid hb
    have Hn := Lib.hid hn
    clear l1 l2 hb hn
    have H1 := Lib.hid h1
    have H2 := Lib.hid h2
    clear h1 h2
    go_enter Try.func42, Try.ntmps42
    go_wp2
    go_loopw [17] (fun iv wr => ∃ j : Nat, j ≤ n1 ∧ iv = .int .i64 j ∧ Hid ((L1.take j).map (·.l) = (L2.take j).map (·.l)) ∧ w = wr) (fun iv _ => n1 - (intOf iv).toNat)
    case atStart => exact ⟨0, Nat.zero_le _, rfl, Lib.hid rfl, rfl⟩
    case round =>
      obtain ⟨j, hj, rfl, HT, rfl⟩ := hrel
      by_cases hlt : j < n1
      · obtain ⟨b1, o1', p, rfl, _, hp, hc1⟩ := pc_at H1.out hlt
        obtain ⟨b2, o2', q, rfl, _, hq, hc2⟩ := pc_at H2.out (show j < n2 by have := Hn.out; omega)
        have hlt1 : (j : Int) < (n1 : Int) := by omega
        have hlt2 : (j : Int) < (n2 : Int) := by have := Hn.out; omega
        have hj0 : (0 : Int) ≤ (j : Int) := by omega
        have hpo := o1 p (List.mem_of_getElem? hp)
        have hqo := o2 q (List.mem_of_getElem? hq)
        by_cases he : p.l = q.l
        · have hc := bequal_any p.A q.A p.n p.c q.n q.c p.l q.l _ _ w hpo.here hqo.here true (same_yes' he)
          have HT2 := Lib.hid (show (L1.take (j + 1)).map (·.l) = (L2.take (j + 1)).map (·.l) by rw [take_map hp, take_map hq, HT.out, he])
          clear he hp hq HT hpo hqo
          go_wp2_with fail
          refine hc.mono ?_
          rintro e W ⟨rfl, rfl⟩
          clear hc
          go_wp2
          go_roundw
          case rel => exact ⟨j + 1, by omega, by go_num, HT2, by first | exact trivial | rfl⟩
          case measure => simp [intOf]; omega
        · have hc := bequal_any p.A q.A p.n p.c q.n q.c p.l q.l _ _ w hpo.here hqo.here false (same_no he)
          have HB := Lib.hid (show b = false by
            rw [← Hb.out]
            apply decide_eq_false
            intro e
            have := congrArg (fun l : List (List UInt8) => l[j]?) e
            simp only [List.getElem?_map, hp, hq, Option.map_some, Option.some.injEq] at this
            exact he this)
          clear he hp hq HT hpo hqo
          go_wp2_with fail
          refine hc.mono ?_
          rintro e W ⟨rfl, rfl⟩
          clear hc
          go_wp2
          go_ret
          exact ⟨by rw [HB.out]; rfl, rfl⟩
      · obtain rfl : j = n1 := by omega
        have HB := Lib.hid (show b = true by
          rw [← Hb.out]
          apply decide_eq_true
          have h := HT.out
          rw [List.take_of_length_le (by rw [Hl1.out]; exact Nat.le_refl _), List.take_of_length_le (by rw [Hl2.out, Hn.out]; exact Nat.le_refl _)] at h
          exact h)
        clear HT
        go_wp2
        go_ret
        exact ⟨by rw [HB.out]; rfl, rfl⟩
  · have hne : ((n1 : Int) != (n2 : Int)) = true := by rw [bne_iff_ne]; omega
    have HB := Lib.hid (show b = false by
      rw [← hb]
      apply decide_eq_false
      intro e
      have := congrArg List.length e
      rw [List.length_map, List.length_map, l1, l2] at this
      exact hn this)
    clear h1 h2 l1 l2 hb hn
    go_enter Try.func42, Try.ntmps42
    go_wp2
    go_ret
    exact ⟨by rw [HB.out]; rfl, rfl⟩
/-- Are two files one? -/
def sameS (S T : FileS) : Bool := (S.fuse == T.fuse) && ((S.fault == T.fault) && ((S.off == T.off) && (sameB S.firm T.firm && decide (S.loose = T.loose))))
set_option maxRecDepth 20000 in
set_option maxHeartbeats 2000000 in
theorem sameF_1 (X Y : FileT) (B : Nat) (w : World) (hX : LieF w B X) (hY : LieF w B Y) (hB : B ≤ w.heap.size) (hN1 : ∀ p ∈ X.Q, p.n ≤ 1048576) (hN2 : ∀ p ∈ Y.Q, p.n ≤ 1048576) (hr : X.right = false) :
    Calls Try.prog 18 #[X.agg, Y.agg] w fun e w' => e = .returned (.bool false) ∧ Below w.heap.size w w' := by
  have hb1 := bel_alloc (bel_alloc (Below.refl w.heap.size w) (.cells #[.slice X.F.A X.F.n X.F.c, .slice X.lA X.ln X.lc, .int .i64 X.fuse, .int .i64 X.fault, .bool X.off] 25)) (.cells #[.slice Y.F.A Y.F.n Y.F.c, .slice Y.lA Y.ln Y.lc, .int .i64 Y.fuse, .int .i64 Y.fault, .bool Y.off] 25)
  have HX1 := Lib.hid ((FBox.new w X 25).later (bel_alloc (Below.refl _ _) (.cells #[.slice Y.F.A Y.F.n Y.F.c, .slice Y.lA Y.ln Y.lc, .int .i64 Y.fuse, .int .i64 Y.fault, .bool Y.off] 25)))
  have hY1 := FBox.new (w.alloc (.cells #[.slice X.F.A X.F.n X.F.c, .slice X.lA X.ln X.lc, .int .i64 X.fuse, .int .i64 X.fault, .bool X.off] 25)) Y 25
  rw [World.size_alloc] at hY1
  obtain ⟨g0, g1, g2, g3, g4⟩ := hY1
  obtain ⟨f0, f1, f2, f3, f4⟩ := HX1.out
  have HY1 := Lib.hid (show FBox ((w.alloc (.cells #[.slice X.F.A X.F.n X.F.c, .slice X.lA X.ln X.lc, .int .i64 X.fuse, .int .i64 X.fault, .bool X.off] 25)).alloc (.cells #[.slice Y.F.A Y.F.n Y.F.c, .slice Y.lA Y.ln Y.lc, .int .i64 Y.fuse, .int .i64 Y.fault, .bool Y.off] 25)) (w.heap.size + 1) Y from ⟨g0, g1, g2, g3, g4⟩)
  have HcX := Lib.hid (fun W (h : Below w.heap.size w W) => checkF_any X B W (hX.later (h.mono hB)) (Nat.le_trans hB h.size) hN1)
  have HcY := Lib.hid (fun W (h : Below w.heap.size w W) => checkF_any Y B W (hY.later (h.mono hB)) (Nat.le_trans hB h.size) hN2)
  have HX := Lib.hid (fun W (h : Below w.heap.size w W) => (hX.later (h.mono hB)).more (Nat.le_trans hB h.size))
  have HY := Lib.hid (fun W (h : Below w.heap.size w W) => (hY.later (h.mono hB)).more (Nat.le_trans hB h.size))
  rw [hr] at HcX
  clear hr
  simp only [FileT.agg, PcT.val] at HcX HcY ⊢
  clear hX hY hN1 hN2 g0 g1 g2 g3 g4 f0 f1 f2 f3 f4
  have hY1 := FBox.new (w.alloc (.cells #[.slice X.F.A X.F.n X.F.c, .slice X.lA X.ln X.lc, .int .i64 X.fuse, .int .i64 X.fault, .bool X.off] 25)) Y 25
  rw [World.size_alloc] at hY1
  obtain ⟨g0, g1, g2, g3, g4⟩ := hY1
  obtain ⟨f0, f1, f2, f3, f4⟩ := HX1.out
  go_enter Try.func18, Try.ntmps18
  go_wp2_with fail
  generalize (w.alloc (.cells #[.slice X.F.A X.F.n X.F.c, .slice X.lA X.ln X.lc, .int .i64 X.fuse, .int .i64 X.fault, .bool X.off] 25)).alloc (.cells #[.slice Y.F.A Y.F.n Y.F.c, .slice Y.lA Y.ln Y.lc, .int .i64 Y.fuse, .int .i64 Y.fault, .bool Y.off] 25) = W1 at *
  refine (HcX.out _ hb1).mono ?_
  rintro e W2 ⟨rfl, hb2⟩
  clear f0 f1 f2 f3 f4 g0 g1 g2 g3 g4
  obtain ⟨f0, f1, f2, f3, f4⟩ := HX1.out.later hb2
  obtain ⟨g0, g1, g2, g3, g4⟩ := HY1.out.later hb2
  have HX2 := Lib.hid (show FBox W2 w.heap.size X from ⟨f0, f1, f2, f3, f4⟩)
  have HY2 := Lib.hid (show FBox W2 (w.heap.size + 1) Y from ⟨g0, g1, g2, g3, g4⟩)
  have hb3 := bel_next hb1 hb2
  clear HX1 HY1 hb1 hb2
  go_wp2
  all_goals
    go_ret
    exact ⟨rfl, hb3⟩
set_option maxRecDepth 20000 in
set_option maxHeartbeats 2000000 in
theorem sameF_2 (X Y : FileT) (B : Nat) (w : World) (hX : LieF w B X) (hY : LieF w B Y) (hB : B ≤ w.heap.size) (hN1 : ∀ p ∈ X.Q, p.n ≤ 1048576) (hN2 : ∀ p ∈ Y.Q, p.n ≤ 1048576) (hr : X.right = true) (hq : Y.right = false) :
    Calls Try.prog 18 #[X.agg, Y.agg] w fun e w' => e = .returned (.bool false) ∧ Below w.heap.size w w' := by
  have hb1 := bel_alloc (bel_alloc (Below.refl w.heap.size w) (.cells #[.slice X.F.A X.F.n X.F.c, .slice X.lA X.ln X.lc, .int .i64 X.fuse, .int .i64 X.fault, .bool X.off] 25)) (.cells #[.slice Y.F.A Y.F.n Y.F.c, .slice Y.lA Y.ln Y.lc, .int .i64 Y.fuse, .int .i64 Y.fault, .bool Y.off] 25)
  have HX1 := Lib.hid ((FBox.new w X 25).later (bel_alloc (Below.refl _ _) (.cells #[.slice Y.F.A Y.F.n Y.F.c, .slice Y.lA Y.ln Y.lc, .int .i64 Y.fuse, .int .i64 Y.fault, .bool Y.off] 25)))
  have hY1 := FBox.new (w.alloc (.cells #[.slice X.F.A X.F.n X.F.c, .slice X.lA X.ln X.lc, .int .i64 X.fuse, .int .i64 X.fault, .bool X.off] 25)) Y 25
  rw [World.size_alloc] at hY1
  obtain ⟨g0, g1, g2, g3, g4⟩ := hY1
  obtain ⟨f0, f1, f2, f3, f4⟩ := HX1.out
  have HY1 := Lib.hid (show FBox ((w.alloc (.cells #[.slice X.F.A X.F.n X.F.c, .slice X.lA X.ln X.lc, .int .i64 X.fuse, .int .i64 X.fault, .bool X.off] 25)).alloc (.cells #[.slice Y.F.A Y.F.n Y.F.c, .slice Y.lA Y.ln Y.lc, .int .i64 Y.fuse, .int .i64 Y.fault, .bool Y.off] 25)) (w.heap.size + 1) Y from ⟨g0, g1, g2, g3, g4⟩)
  have HcX := Lib.hid (fun W (h : Below w.heap.size w W) => checkF_any X B W (hX.later (h.mono hB)) (Nat.le_trans hB h.size) hN1)
  have HcY := Lib.hid (fun W (h : Below w.heap.size w W) => checkF_any Y B W (hY.later (h.mono hB)) (Nat.le_trans hB h.size) hN2)
  have HX := Lib.hid (fun W (h : Below w.heap.size w W) => (hX.later (h.mono hB)).more (Nat.le_trans hB h.size))
  have HY := Lib.hid (fun W (h : Below w.heap.size w W) => (hY.later (h.mono hB)).more (Nat.le_trans hB h.size))
  rw [hr] at HcX
  rw [hq] at HcY
  clear hr hq
  simp only [FileT.agg, PcT.val] at HcX HcY ⊢
  clear hX hY hN1 hN2 g0 g1 g2 g3 g4 f0 f1 f2 f3 f4
  have hY1 := FBox.new (w.alloc (.cells #[.slice X.F.A X.F.n X.F.c, .slice X.lA X.ln X.lc, .int .i64 X.fuse, .int .i64 X.fault, .bool X.off] 25)) Y 25
  rw [World.size_alloc] at hY1
  obtain ⟨g0, g1, g2, g3, g4⟩ := hY1
  obtain ⟨f0, f1, f2, f3, f4⟩ := HX1.out
  go_enter Try.func18, Try.ntmps18
  go_wp2_with fail
  generalize (w.alloc (.cells #[.slice X.F.A X.F.n X.F.c, .slice X.lA X.ln X.lc, .int .i64 X.fuse, .int .i64 X.fault, .bool X.off] 25)).alloc (.cells #[.slice Y.F.A Y.F.n Y.F.c, .slice Y.lA Y.ln Y.lc, .int .i64 Y.fuse, .int .i64 Y.fault, .bool Y.off] 25) = W1 at *
  refine (HcX.out _ hb1).mono ?_
  rintro e W2 ⟨rfl, hb2⟩
  clear f0 f1 f2 f3 f4 g0 g1 g2 g3 g4
  obtain ⟨f0, f1, f2, f3, f4⟩ := HX1.out.later hb2
  obtain ⟨g0, g1, g2, g3, g4⟩ := HY1.out.later hb2
  have HX2 := Lib.hid (show FBox W2 w.heap.size X from ⟨f0, f1, f2, f3, f4⟩)
  have HY2 := Lib.hid (show FBox W2 (w.heap.size + 1) Y from ⟨g0, g1, g2, g3, g4⟩)
  have hb3 := bel_next hb1 hb2
  clear HX1 HY1 hb1 hb2
  go_wp2_with fail
  refine (HcY.out _ hb3).mono ?_
  rintro e W3 ⟨rfl, hb4⟩
  clear f0 f1 f2 f3 f4 g0 g1 g2 g3 g4
  obtain ⟨f0, f1, f2, f3, f4⟩ := HX2.out.later hb4
  obtain ⟨g0, g1, g2, g3, g4⟩ := HY2.out.later hb4
  have hb5 := bel_next hb3 hb4
  clear HX2 HY2 hb3 hb4
  go_wp2
  all_goals
    go_ret
    exact ⟨rfl, hb5⟩
set_option maxRecDepth 20000 in
set_option maxHeartbeats 2000000 in
theorem sameF_3 (X Y : FileT) (B : Nat) (w : World) (hX : LieF w B X) (hY : LieF w B Y) (hB : B ≤ w.heap.size) (hN1 : ∀ p ∈ X.Q, p.n ≤ 1048576) (hN2 : ∀ p ∈ Y.Q, p.n ≤ 1048576) (hr : X.right = true) (hq : Y.right = true) :
    Calls Try.prog 18 #[X.agg, Y.agg] w fun e w' => e = .returned (.bool (sameS X.s Y.s)) ∧ Below w.heap.size w w' := by
  have hb1 := bel_alloc (bel_alloc (Below.refl w.heap.size w) (.cells #[.slice X.F.A X.F.n X.F.c, .slice X.lA X.ln X.lc, .int .i64 X.fuse, .int .i64 X.fault, .bool X.off] 25)) (.cells #[.slice Y.F.A Y.F.n Y.F.c, .slice Y.lA Y.ln Y.lc, .int .i64 Y.fuse, .int .i64 Y.fault, .bool Y.off] 25)
  have HX1 := Lib.hid ((FBox.new w X 25).later (bel_alloc (Below.refl _ _) (.cells #[.slice Y.F.A Y.F.n Y.F.c, .slice Y.lA Y.ln Y.lc, .int .i64 Y.fuse, .int .i64 Y.fault, .bool Y.off] 25)))
  have hY1 := FBox.new (w.alloc (.cells #[.slice X.F.A X.F.n X.F.c, .slice X.lA X.ln X.lc, .int .i64 X.fuse, .int .i64 X.fault, .bool X.off] 25)) Y 25
  rw [World.size_alloc] at hY1
  obtain ⟨g0, g1, g2, g3, g4⟩ := hY1
  obtain ⟨f0, f1, f2, f3, f4⟩ := HX1.out
  have HY1 := Lib.hid (show FBox ((w.alloc (.cells #[.slice X.F.A X.F.n X.F.c, .slice X.lA X.ln X.lc, .int .i64 X.fuse, .int .i64 X.fault, .bool X.off] 25)).alloc (.cells #[.slice Y.F.A Y.F.n Y.F.c, .slice Y.lA Y.ln Y.lc, .int .i64 Y.fuse, .int .i64 Y.fault, .bool Y.off] 25)) (w.heap.size + 1) Y from ⟨g0, g1, g2, g3, g4⟩)
  have HcX := Lib.hid (fun W (h : Below w.heap.size w W) => checkF_any X B W (hX.later (h.mono hB)) (Nat.le_trans hB h.size) hN1)
  have HcY := Lib.hid (fun W (h : Below w.heap.size w W) => checkF_any Y B W (hY.later (h.mono hB)) (Nat.le_trans hB h.size) hN2)
  have HX := Lib.hid (fun W (h : Below w.heap.size w W) => (hX.later (h.mono hB)).more (Nat.le_trans hB h.size))
  have HY := Lib.hid (fun W (h : Below w.heap.size w W) => (hY.later (h.mono hB)).more (Nat.le_trans hB h.size))
  rw [hr] at HcX
  rw [hq] at HcY
  clear hr hq
  obtain ⟨b, hb⟩ : ∃ b, sameS X.s Y.s = b := ⟨_, rfl⟩
  rw [hb]
  have Hb := Lib.hid hb
  clear hb
  simp only [FileT.agg, PcT.val] at HcX HcY ⊢
  clear hX hY hN1 hN2 g0 g1 g2 g3 g4 f0 f1 f2 f3 f4
  have hY1 := FBox.new (w.alloc (.cells #[.slice X.F.A X.F.n X.F.c, .slice X.lA X.ln X.lc, .int .i64 X.fuse, .int .i64 X.fault, .bool X.off] 25)) Y 25
  rw [World.size_alloc] at hY1
  obtain ⟨g0, g1, g2, g3, g4⟩ := hY1
  obtain ⟨f0, f1, f2, f3, f4⟩ := HX1.out
  go_enter Try.func18, Try.ntmps18
  go_wp2_with fail
  generalize (w.alloc (.cells #[.slice X.F.A X.F.n X.F.c, .slice X.lA X.ln X.lc, .int .i64 X.fuse, .int .i64 X.fault, .bool X.off] 25)).alloc (.cells #[.slice Y.F.A Y.F.n Y.F.c, .slice Y.lA Y.ln Y.lc, .int .i64 Y.fuse, .int .i64 Y.fault, .bool Y.off] 25) = W1 at *
  refine (HcX.out _ hb1).mono ?_
  rintro e W2 ⟨rfl, hb2⟩
  clear f0 f1 f2 f3 f4 g0 g1 g2 g3 g4
  obtain ⟨f0, f1, f2, f3, f4⟩ := HX1.out.later hb2
  obtain ⟨g0, g1, g2, g3, g4⟩ := HY1.out.later hb2
  have HX2 := Lib.hid (show FBox W2 w.heap.size X from ⟨f0, f1, f2, f3, f4⟩)
  have HY2 := Lib.hid (show FBox W2 (w.heap.size + 1) Y from ⟨g0, g1, g2, g3, g4⟩)
  have hb3 := bel_next hb1 hb2
  clear HX1 HY1 hb1 hb2
  go_wp2_with fail
  refine (HcY.out _ hb3).mono ?_
  rintro e W3 ⟨rfl, hb4⟩
  clear f0 f1 f2 f3 f4 g0 g1 g2 g3 g4
  obtain ⟨f0, f1, f2, f3, f4⟩ := HX2.out.later hb4
  obtain ⟨g0, g1, g2, g3, g4⟩ := HY2.out.later hb4
  have hb5 := bel_next hb3 hb4
  clear HX2 HY2 hb3 hb4
  by_cases e1 : X.fuse = Y.fuse
  · have e1' : (X.fuse == Y.fuse) = true := beq_iff_eq.2 e1
    by_cases e2 : X.fault = Y.fault
    · have e2' : (X.fault == Y.fault) = true := beq_iff_eq.2 e2
      by_cases e3 : X.off = Y.off
      · have e3' : (X.off == Y.off) = true := beq_iff_eq.2 e3
        have hXl := HX.out _ hb5
        have hYl := HY.out _ hb5
        by_cases e4 : X.F.l = Y.F.l
        · have hc := bequal_any X.F.A Y.F.A X.F.n X.F.c Y.F.n Y.F.c X.F.l Y.F.l _ _ _ hXl.firm.here hYl.firm.here true (same_yes' e4)
          have hd := eqRows_any X.lA Y.lA X.ln X.lc Y.ln Y.lc _ _ X.L Y.L _ hXl.row hYl.row hXl.loose hYl.loose (Nat.le_trans hXl.fits hXl.most) b (by
            rw [← Hb.out]
            unfold sameS
            rw [show (X.s.fuse == Y.s.fuse) = true from e1', show (X.s.fault == Y.s.fault) = true from e2', show (X.s.off == Y.s.off) = true from e3', show sameB X.s.firm Y.s.firm = true from same_yes' e4]
            rfl)
          clear e1 e2 e3 e4 hXl hYl Hb
          go_wp2_with fail
          refine hc.mono ?_
          rintro e W4 ⟨rfl, rfl⟩
          clear hc
          go_wp2_with fail
          refine hd.mono ?_
          rintro e W4 ⟨rfl, rfl⟩
          clear hd
          go_wp2
          all_goals
            go_ret
            exact ⟨rfl, hb5⟩
        · have hc := bequal_any X.F.A Y.F.A X.F.n X.F.c Y.F.n Y.F.c X.F.l Y.F.l _ _ _ hXl.firm.here hYl.firm.here false (same_no e4)
          have HB := Lib.hid (show b = false by
            rw [← Hb.out]
            unfold sameS
            rw [show sameB X.s.firm Y.s.firm = false from same_no e4]
            simp)
          clear e1 e2 e3 e4 hXl hYl Hb
          go_wp2_with fail
          refine hc.mono ?_
          rintro e W4 ⟨rfl, rfl⟩
          clear hc
          go_wp2
          all_goals
            go_ret
            exact ⟨by rw [HB.out]; rfl, hb5⟩
      · have e3' : (X.off == Y.off) = false := beq_eq_false_iff_ne.2 e3
        have HB := Lib.hid (show b = false by
          rw [← Hb.out]
          unfold sameS
          rw [show (X.s.off == Y.s.off) = false from e3']
          simp)
        clear e1 e2 e3 Hb
        go_wp2
        all_goals
          go_ret
          exact ⟨by rw [HB.out]; rfl, hb5⟩
    · have e2' : (X.fault == Y.fault) = false := beq_eq_false_iff_ne.2 e2
      have HB := Lib.hid (show b = false by
        rw [← Hb.out]
        unfold sameS
        rw [show (X.s.fault == Y.s.fault) = false from e2']
        simp)
      clear e1 e2 Hb
      go_wp2
      all_goals
        go_ret
        exact ⟨by rw [HB.out]; rfl, hb5⟩
  · have e1' : (X.fuse == Y.fuse) = false := beq_eq_false_iff_ne.2 e1
    have HB := Lib.hid (show b = false by
      rw [← Hb.out]
      unfold sameS
      rw [show (X.s.fuse == Y.s.fuse) = false from e1']
      simp)
    clear e1 Hb
    go_wp2
    all_goals
      go_ret
      exact ⟨by rw [HB.out]; rfl, hb5⟩
theorem sameF_any (X Y : FileT) (B : Nat) (w : World) (hX : LieF w B X) (hY : LieF w B Y) (hB : B ≤ w.heap.size) (hN1 : ∀ p ∈ X.Q, p.n ≤ 1048576) (hN2 : ∀ p ∈ Y.Q, p.n ≤ 1048576) :
    Calls Try.prog 18 #[X.agg, Y.agg] w fun e w' => e = .returned (.bool (X.right && (Y.right && sameS X.s Y.s))) ∧ Below w.heap.size w w' := by
  cases hr : X.right
  · exact sameF_1 X Y B w hX hY hB hN1 hN2 hr
  · cases hq : Y.right
    · exact sameF_2 X Y B w hX hY hB hN1 hN2 hr hq
    · exact sameF_3 X Y B w hX hY hB hN1 hN2 hr hq
end Go.Proofs.Ythoenmggjbojoaa
/-
  Layer 10, plain: what is left behind a loss of power, byte by byte.
-/
namespace Go.Proofs.Ythoenmggjbojoaa
open Go.RowKit
set_option linter.unusedVariables false

/-- Noughts where nothing stayed, and never the last byte. -/
def GapZ (R : List UInt8) (lo hi : Nat) : Prop := ∀ q, lo ≤ q → q < hi → q < R.length → R[q]? = some 0 ∧ q ≠ R.length - 1
def ByteZ (R : List UInt8) (st : Bool) (q : Nat) (x : UInt8) : Prop :=
  (st = true → q < R.length ∧ R[q]? = some x) ∧ (st = false → q < R.length → R[q]? = some 0 ∧ q ≠ R.length - 1)
theorem crash_bytes (keep : List Bool) (tear cut : Int) : ∀ (L : List (List UInt8)) (i a : Nat) (f R : List UInt8), f.length ≤ a → crashGo keep tear cut L i a f = R →
    f <+: R ∧ GapZ R f.length a ∧ ∀ (j : Nat) (l : List UInt8), L[j]? = some l → ∀ (k : Nat) (x : UInt8), l[k]? = some x → ByteZ R (stayB (i + j) k keep tear cut) (a + (L.take j).flatten.length + k) x
  | [], i, a, f, R, hf, h => by
    have hR : f = R := h
    subst hR
    exact ⟨List.prefix_refl _, fun q h1 h2 h3 => absurd h3 (by omega), fun j l hl => by simp at hl⟩
  | l0 :: L, i, a, f, R, hf, h => by
    have hs := survN_le l0 i keep tear cut
    have hst := fun k hk => stay_iff l0 i k keep tear cut hk
    unfold crashGo at h
    generalize survN l0 i keep tear cut = s at *
    by_cases h0 : 0 < s
    · rw [if_pos h0] at h
      have hl : (f ++ zerosU (a - f.length) ++ l0.take s).length = a + s := by
        rw [List.length_append, List.length_append, zerosU_len, List.length_take]
        omega
      obtain ⟨p1, p2, p3⟩ := crash_bytes keep tear cut L (i + 1) (a + l0.length) _ R (by omega) h
      have hlen := p1.length_le
      rw [hl] at p2 hlen
      have hget : ∀ q, q < a + s → R[q]? = (f ++ zerosU (a - f.length) ++ l0.take s)[q]? := fun q hq => by
        obtain ⟨t, ht⟩ := p1
        rw [← ht, List.getElem?_append_left (by rw [hl]; exact hq)]
      refine ⟨(List.prefix_append f _).trans (by rw [← List.append_assoc]; exact p1), fun q h1 h2 h3 => ?_, ?_⟩
      · refine ⟨?_, by omega⟩
        rw [hget q (by omega), List.append_assoc, List.getElem?_append_right h1, List.getElem?_append_left (by rw [zerosU_len]; omega)]
        unfold zerosU
        rw [List.getElem?_replicate, if_pos (by omega)]
      · intro j l hj k x hk
        match j, hj with
        | 0, hj =>
          cases hj
          have hkl := (List.getElem?_eq_some_iff.1 hk).1
          rw [List.take_zero, List.flatten_nil, List.length_nil, Nat.add_zero, Nat.add_zero, hst k hkl]
          refine ⟨fun h => ?_, fun h h2 => ?_⟩
          · have hks : k < s := of_decide_eq_true h
            refine ⟨by omega, ?_⟩
            rw [hget _ (by omega), List.getElem?_append_right (by rw [List.length_append, zerosU_len]; omega), List.length_append, zerosU_len, show a + k - (f.length + (a - f.length)) = k by omega, List.getElem?_take, if_pos hks]
            exact hk
          · have hks : ¬ k < s := of_decide_eq_false h
            exact p2 (a + k) (by omega) (by omega) h2
        | j + 1, hj =>
          have := p3 j l hj k x hk
          rw [List.take_succ_cons, List.flatten_cons, List.length_append]
          rw [show i + 1 + j = i + (j + 1) by omega, show a + l0.length + (L.take j).flatten.length + k = a + (l0.length + (L.take j).flatten.length) + k by omega] at this
          exact this
    · rw [if_neg h0] at h
      obtain ⟨p1, p2, p3⟩ := crash_bytes keep tear cut L (i + 1) (a + l0.length) f R (by omega) h
      refine ⟨p1, fun q h1 h2 h3 => p2 q h1 (by omega) h3, ?_⟩
      intro j l hj k x hk
      match j, hj with
      | 0, hj =>
        cases hj
        have hkl := (List.getElem?_eq_some_iff.1 hk).1
        rw [List.take_zero, List.flatten_nil, List.length_nil, Nat.add_zero, Nat.add_zero, hst k hkl]
        refine ⟨fun h => absurd (of_decide_eq_true h) (by omega), fun h h2 => p2 (a + k) (by omega) (by omega) h2⟩
      | j + 1, hj =>
        have := p3 j l hj k x hk
        rw [List.take_succ_cons, List.flatten_cons, List.length_append]
        rw [show i + 1 + j = i + (j + 1) by omega, show a + l0.length + (L.take j).flatten.length + k = a + (l0.length + (L.take j).flatten.length) + k by omega] at this
        exact this
/-- A byte's place, and what becomes of it. -/
theorem crash_at {X : FileT} {w : World} {B : Nat} (hL : LieF w B X) {keep : List Bool} {tear cut : Int} {R : List UInt8} (hR : crashGo keep tear cut X.s.loose 0 X.s.firm.length X.s.firm = R) {i : Nat} {p : PcT} (hp : X.L[i]? = some p) {k : Nat} {x : UInt8} (hk : p.l[k]? = some x) :
    ByteZ R (stayB i k keep tear cut) (X.F.n + sumN (X.L.take i) + k) x := by
  have h := (crash_bytes keep tear cut X.s.loose 0 X.s.firm.length X.s.firm R (Nat.le_refl _) hR).2.2 i p.l (by show (X.L.map (·.l))[i]? = some p.l; rw [List.getElem?_map, hp]; rfl) k x hk
  have e : ((X.s.loose.take i).flatten).length = sumN (X.L.take i) := by
    show (((X.L.map (·.l)).take i).flatten).length = _
    rw [← List.map_take, ← sumN_len (w := w) (B := B) (fun q hq => hL.loose q (List.mem_of_mem_take hq))]
    rfl
  rw [Nat.zero_add, e, show X.s.firm.length = X.F.n from hL.firm.len] at h
  exact h
theorem plain_step2 (fi : List UInt8) (lo : List (List UInt8)) (long : Nat) (x : DeedT) (h3 : whichN x.kind ≤ 3) (hb : whichN x.kind < 3 → x.bytes.n ≠ 0) :
    doS ⟨fi, lo, -1, -1, false⟩ long x = (⟨fi, lo, -1, -1, false⟩, 8) ∨ ∃ fi' lo', doS ⟨fi, lo, -1, -1, false⟩ long x = (⟨fi', lo', -1, -1, false⟩, 0) := by
  obtain ⟨more, fi', lo', h⟩ := doS_op x h3 hb fi lo long
  rw [h]
  unfold opS
  rw [asked_plain]
  by_cases hf : 524288 < long + more
  · exact .inl (by simp [hf])
  · exact .inr ⟨fi', lo', by simp [hf]⟩
end Go.Proofs.Ythoenmggjbojoaa
