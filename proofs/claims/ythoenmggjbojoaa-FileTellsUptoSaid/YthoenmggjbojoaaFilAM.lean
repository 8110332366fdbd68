/-
  Layer 10: operations whose outcome is known; does the layer do anything?
-/
import Derived.Test.YthoenmggjbojoaaFilAL
import Derived.Test.YthoenmggjbojoaaBeq
namespace Go.Proofs.Ythoenmggjbojoaa
open Go.RowKit
set_option linter.unusedVariables false

/-- What an operation that was done gives. -/
def OkP (X : FileT) (Z : Nat → Prop) (S : FileS) (w : World) (e : Ending) (w' : World) : Prop :=
  ∃ Y : FileT, e = .returned (.tuple #[Y.agg, .int .i64 0]) ∧ Y.s = S ∧ LieF w' w'.heap.size Y ∧ Below w.heap.size w w' ∧ (∀ g, g < w.heap.size → AwayF X g → Z g → AwayF Y g)
theorem ok_of {X : FileT} {Z : Nat → Prop} {S : FileS} {out : FileS × Int} {w : World} {e : Ending} {w' : World} (h : OpP X Z out w e w') (ho : out = (S, 0)) : OkP X Z S w e w' := by
  subst ho
  exact h
theorem appendS (X : FileT) (p : PcT) (S T : FileS) (w : World) (hL : LieF w w.heap.size X) (hp : p.Ok w w.heap.size) (hs : X.s = S) (hS : S.right = true) (ho : (if p.l.length = 0 then (S, 2) else S.append S.all.length p.l) = (T, 0)) :
    Calls Try.prog 29 #[X.agg, .slice p.A p.n p.c] w (OkP X (AwayP p) T w) := by
  have hr : X.right = true := by rw [right_s hL, hs]; exact hS
  refine (appendF_any X p _ w hL hp (Nat.le_refl _) hr).mono fun e w' h => ok_of h ?_
  rw [← ho, long_s hL hr, hs, ← hp.len]
theorem syncS (X : FileT) (S T : FileS) (w : World) (hL : LieF w w.heap.size X) (hs : X.s = S) (hS : S.right = true) (ho : S.sync S.all.length = (T, 0)) :
    Calls Try.prog 30 #[X.agg] w (OkP X (fun _ => True) T w) := by
  have hr : X.right = true := by rw [right_s hL, hs]; exact hS
  refine (syncF_any X _ w hL (Nat.le_refl _) hr).mono fun e w' h => ok_of h ?_
  rw [← ho, long_s hL hr, hs]
theorem crashS (X : FileT) (k : BoT) (tear cut : Int) (S : FileS) (w : World) (hL : LieF w w.heap.size X) (hk : k.Ok w w.heap.size) (hs : X.s = S) (hS : S.right = true) :
    Calls Try.prog 26 #[X.agg, .slice k.A k.n k.c, .int .i64 tear, .int .i64 cut] w (OkP X (fun _ => True) (S.crash k.l tear cut) w) := by
  have hr : X.right = true := by rw [right_s hL, hs]; exact hS
  refine (crashF_any X k tear cut _ w hL hk (Nat.le_refl _) hr).mono fun e w' h => ok_of h ?_
  rw [hs]
theorem all_of {X : FileT} {S : FileS} (hs : X.s = S) : X.all = S.all := by rw [← all_s, hs]
theorem readS (X : FileT) (a n : Nat) (S : FileS) (w : World) (hL : LieF w w.heap.size X) (hs : X.s = S) (hS : S.right = true) (h : a + n ≤ S.all.length) :
    Calls Try.prog 19 #[X.agg, .int .i64 a, .int .i64 n] w (ReadP X a n w) := by
  have hr : X.right = true := by rw [right_s hL, hs]; exact hS
  exact readF_ok X a n _ w hL (Nat.le_refl _) (right_rows hL hr).1 hr (by rw [long_s hL hr, hs]; exact h)
theorem lenS (X : FileT) (S : FileS) (w : World) (hL : LieF w w.heap.size X) (hs : X.s = S) (hS : S.right = true) :
    Calls Try.prog 20 #[X.agg] w fun e w' => e = .returned (.int .i64 (S.all.length : Nat)) ∧ Below w.heap.size w w' := by
  have hr : X.right = true := by rw [right_s hL, hs]; exact hS
  refine (lenF_any X _ w hL (Nat.le_refl _) (right_rows hL hr).1).mono ?_
  rintro e w' ⟨rfl, hb⟩
  exact ⟨by rw [if_pos hr, long_s hL hr, hs], hb⟩
theorem piece_new (w : World) (l : List UInt8) (C : Array Value) (hC : C.toList = l.map bv) : PcT.Ok (w.alloc (.cells C 5)) (w.alloc (.cells C 5)).heap.size ⟨some ⟨w.heap.size, 0, none⟩, l.length, l.length, l⟩ ∨ 9223372036854775807 < l.length := by
  by_cases h : l.length ≤ 9223372036854775807
  · refine .inl ⟨?_, fun h => (by cases h), Nat.le_refl _, by unfold maxLen; exact h⟩
    rw [World.size_alloc]
    exact bytes_new w l C _ _ hC
  · exact .inr (by omega)
theorem piece_at (w : World) (l : List UInt8) (C : Array Value) (hC : C.toList = l.map bv) (h : l.length ≤ 100) : PcT.Ok (w.alloc (.cells C 5)) (w.alloc (.cells C 5)).heap.size ⟨some ⟨w.heap.size, 0, none⟩, l.length, l.length, l⟩ := by
  rcases piece_new w l C hC with h1 | h1
  · exact h1
  · omega
theorem bools_at (w : World) (l : List Bool) (C : Array Value) (t : TypeId) (hC : C.toList = l.map Value.bool) (h : l.length ≤ 100) : BoT.Ok (w.alloc (.cells C t)) (w.alloc (.cells C t)).heap.size ⟨some ⟨w.heap.size, 0, none⟩, l.length, l.length, l⟩ := by
  refine ⟨⟨by simp, fun _ => ⟨w.heap.size, 0, rfl, by simp, fun j u hu => ?_⟩⟩, fun h => (by cases h), Nat.le_refl _, by unfold maxLen; show l.length ≤ _; omega⟩
  rw [Nat.zero_add, World.cell?_alloc_new]
  rw [← hC] at hu
  simpa using hu
theorem eq_yes (A1 A2 : Option Addr) (n1 c1 n2 c2 : Nat) (l : List UInt8) (B1 B2 : Nat) (w : World) (h1 : Bytes w B1 A1 n1 l) (h2 : Bytes w B2 A2 n2 l) (hm : n1 ≤ maxLen) :
    Calls Try.prog 31 #[.slice A1 n1 c1, .slice A2 n2 c2] w fun e w' => e = .returned (.bool true) ∧ Below w.heap.size w w' := by
  refine (equal_any A1 A2 n1 c1 n2 c2 l l B1 B2 w h1 h2 hm (by rw [← h2.len, h1.len]; exact hm)).mono ?_
  rintro e w' ⟨rfl, k, rfl⟩
  exact ⟨by rw [show sameB l l = true by unfold sameB; exact decide_eq_true rfl], below_drewN (Below.refl _ _) k⟩
def newF : FileT := ⟨⟨none, 0, 0, []⟩, none, 0, 0, [], -1, -1, false⟩
theorem newF_lies (w : World) : LieF w w.heap.size newF := lie_syn ⟨Bytes.zero _, fun _ => rfl, Nat.le_refl _, by unfold maxLen; exact Nat.zero_le _⟩ (by decide) (by decide)
def S1 : FileS := ⟨[], [[1, 2]], -1, -1, false⟩
def S2 : FileS := ⟨[1, 2], [], -1, -1, false⟩
def S3 : FileS := ⟨[1, 2], [[4]], -1, -1, false⟩
def S4 : FileS := ⟨[1, 2], [[4], [5, 6]], -1, -1, false⟩
def S5 : FileS := ⟨[1, 2, 0, 5, 6], [], -1, -1, false⟩
set_option maxRecDepth 20000 in
set_option maxHeartbeats 4000000 in
theorem lwakes_any (w : World) :
    Calls Try.prog 9 #[] w fun e w' => e = .returned (.bool true) ∧ Below w.heap.size w w' := by
  go_enter Try.func9, Try.ntmps9
  go_wp2_with fail
  refine (newF_any _).mono ?_
  rintro e W1 ⟨rfl, hb1⟩
  have hc1 := (appendS newF ⟨some ⟨W1.heap.size, 0, none⟩, 2, 2, [1, 2]⟩ newF.s S1 (W1.alloc (.cells #[.int .u8 1, .int .u8 2] 5)) (newF_lies _) (piece_at W1 [1, 2] #[.int .u8 1, .int .u8 2] rfl (by decide)) rfl (by kernel_rfl) (by kernel_rfl))
  simp only [newF, FileT.agg, PcT.val] at hc1
  go_wp2_with fail
  refine hc1.mono ?_
  rintro e W2 ⟨Y1, rfl, hs1, hL1, hb2, -⟩
  clear hc1
  have hb3 := hb1.trans ((bel_alloc (Below.refl _ _) (.cells #[.int .u8 1, .int .u8 2] 5)).trans (hb2.mono (by simp)) |>.mono hb1.size)
  have hF1 := FAt.new hL1 25
  have hb4 := bel_alloc hb3 (.cells #[.slice Y1.F.A Y1.F.n Y1.F.c, .slice Y1.lA Y1.ln Y1.lc, .int .i64 Y1.fuse, .int .i64 Y1.fault, .bool Y1.off] 25)
  have hg1 : w.heap.size ≤ W2.heap.size := hb3.size
  have Hs1 := Lib.hid hs1
  clear hs1 hL1 hb2 hb3 hb1
  simp only [FileT.agg, PcT.val]
  go_upto_region 2 with fail
  generalize W2.alloc (.cells #[.slice Y1.F.A Y1.F.n Y1.F.c, .slice Y1.lA Y1.ln Y1.lc, .int .i64 Y1.fuse, .int .i64 Y1.fault, .bool Y1.off] 25) = V1 at *
  generalize W2.heap.size = g at *
  obtain ⟨⟨f0, f1, f2, f3, f4⟩, k0, k1, k2, k3, k4⟩ := hF1.v
  have hc := syncS Y1 S1 S2 V1 hF1.l Hs1.out (by kernel_rfl) (by kernel_rfl)
  simp only [FileT.agg, PcT.val] at hc
  go_wp2_with fail
  refine hc.mono ?_
  rintro e W ⟨Y2, rfl, hs, hL, hb, ha⟩
  clear hc f0 f1 f2 f3 f4 k0 k1 k2 k3 k4
  have hbV : Below V1.heap.size V1 W := hb
  have hv := hF1.v.later hbV
  have haw : AwayF Y2 g := ha g (World.block_lt_of_cell? _ _ hF1.v.1.1) hF1.a trivial
  have hF2 := FAt.set hv hL haw
  have hbn := fbelow_set5 (a := .slice Y2.F.A Y2.F.n Y2.F.c) (b := .slice Y2.lA Y2.ln Y2.lc) (c := .int .i64 Y2.fuse) (d := .int .i64 Y2.fault) (e := .bool Y2.off) (hb4.trans (hbV.mono hb4.size)) hg1
  have Hs2 := Lib.hid hs
  unfold set5F at hF2
  clear hs hL hb ha hF1 hb4 haw
  obtain ⟨⟨f0, f1, f2, f3, f4⟩, k0, k1, k2, k3, k4⟩ := hv
  have hb4 := hbn
  clear hbn hbV
  simp only [FileT.agg, PcT.val]
  go_upto_region 3 with fail
  clear f0 f1 f2 f3 f4 k0 k1 k2 k3 k4
  generalize (((((W.setCell ⟨g, 0, none⟩ (.slice Y2.F.A Y2.F.n Y2.F.c)).setCell ⟨g, 1, none⟩ (.slice Y2.lA Y2.ln Y2.lc)).setCell ⟨g, 2, none⟩ (.int .i64 Y2.fuse)).setCell ⟨g, 3, none⟩ (.int .i64 Y2.fault)).setCell ⟨g, 4, none⟩ (.bool Y2.off)) = V2 at *
  obtain ⟨⟨f0, f1, f2, f3, f4⟩, k0, k1, k2, k3, k4⟩ := hF2.v
  have hc := appendS Y2 ⟨some ⟨V2.heap.size, 0, none⟩, 1, 1, [4]⟩ S2 S3 (V2.alloc (.cells #[.int .u8 4] 5)) ((hF2.l.later (bel_alloc (Below.refl _ _) _)).more (by simp)) (piece_at V2 [4] #[.int .u8 4] rfl (by decide)) Hs2.out (by kernel_rfl) (by kernel_rfl)
  simp only [FileT.agg, PcT.val] at hc
  go_wp2_with fail
  refine hc.mono ?_
  rintro e W ⟨Y3, rfl, hs, hL, hb, ha⟩
  clear hc f0 f1 f2 f3 f4 k0 k1 k2 k3 k4
  have hbV : Below V2.heap.size V2 W := (bel_alloc (Below.refl _ _) (.cells #[.int .u8 4] 5)).trans (hb.mono (by simp))
  have hv := hF2.v.later hbV
  have haw : AwayF Y3 g := ha g (by have := World.block_lt_of_cell? _ _ hF2.v.1.1; simp at this ⊢; omega) hF2.a (fun b off hA _ => by have := World.block_lt_of_cell? _ _ hF2.v.1.1; simp at hA this; omega)
  have hF3 := FAt.set hv hL haw
  have hbn := fbelow_set5 (a := .slice Y3.F.A Y3.F.n Y3.F.c) (b := .slice Y3.lA Y3.ln Y3.lc) (c := .int .i64 Y3.fuse) (d := .int .i64 Y3.fault) (e := .bool Y3.off) (hb4.trans (hbV.mono hb4.size)) hg1
  have Hs3 := Lib.hid hs
  unfold set5F at hF3
  clear hs hL hb ha hF2 hb4 haw
  obtain ⟨⟨f0, f1, f2, f3, f4⟩, k0, k1, k2, k3, k4⟩ := hv
  have hb4 := hbn
  clear hbn hbV
  simp only [FileT.agg, PcT.val]
  go_upto_region 4 with fail
  clear f0 f1 f2 f3 f4 k0 k1 k2 k3 k4
  generalize (((((W.setCell ⟨g, 0, none⟩ (.slice Y3.F.A Y3.F.n Y3.F.c)).setCell ⟨g, 1, none⟩ (.slice Y3.lA Y3.ln Y3.lc)).setCell ⟨g, 2, none⟩ (.int .i64 Y3.fuse)).setCell ⟨g, 3, none⟩ (.int .i64 Y3.fault)).setCell ⟨g, 4, none⟩ (.bool Y3.off)) = V3 at *
  obtain ⟨⟨f0, f1, f2, f3, f4⟩, k0, k1, k2, k3, k4⟩ := hF3.v
  have hc := appendS Y3 ⟨some ⟨V3.heap.size, 0, none⟩, 2, 2, [5, 6]⟩ S3 S4 (V3.alloc (.cells #[.int .u8 5, .int .u8 6] 5)) ((hF3.l.later (bel_alloc (Below.refl _ _) _)).more (by simp)) (piece_at V3 [5, 6] #[.int .u8 5, .int .u8 6] rfl (by decide)) Hs3.out (by kernel_rfl) (by kernel_rfl)
  simp only [FileT.agg, PcT.val] at hc
  go_wp2_with fail
  refine hc.mono ?_
  rintro e W ⟨Y4, rfl, hs, hL, hb, ha⟩
  clear hc f0 f1 f2 f3 f4 k0 k1 k2 k3 k4
  have hbV : Below V3.heap.size V3 W := (bel_alloc (Below.refl _ _) (.cells #[.int .u8 5, .int .u8 6] 5)).trans (hb.mono (by simp))
  have hv := hF3.v.later hbV
  have haw : AwayF Y4 g := ha g (by have := World.block_lt_of_cell? _ _ hF3.v.1.1; simp at this ⊢; omega) hF3.a (fun b off hA _ => by have := World.block_lt_of_cell? _ _ hF3.v.1.1; simp at hA this; omega)
  have hF4 := FAt.set hv hL haw
  have hbn := fbelow_set5 (a := .slice Y4.F.A Y4.F.n Y4.F.c) (b := .slice Y4.lA Y4.ln Y4.lc) (c := .int .i64 Y4.fuse) (d := .int .i64 Y4.fault) (e := .bool Y4.off) (hb4.trans (hbV.mono hb4.size)) hg1
  have Hs4 := Lib.hid hs
  unfold set5F at hF4
  clear hs hL hb ha hF3 hb4 haw
  obtain ⟨⟨f0, f1, f2, f3, f4⟩, k0, k1, k2, k3, k4⟩ := hv
  have hb4 := hbn
  clear hbn hbV
  simp only [FileT.agg, PcT.val]
  go_upto_region 5 with fail
  clear f0 f1 f2 f3 f4 k0 k1 k2 k3 k4
  generalize (((((W.setCell ⟨g, 0, none⟩ (.slice Y4.F.A Y4.F.n Y4.F.c)).setCell ⟨g, 1, none⟩ (.slice Y4.lA Y4.ln Y4.lc)).setCell ⟨g, 2, none⟩ (.int .i64 Y4.fuse)).setCell ⟨g, 3, none⟩ (.int .i64 Y4.fault)).setCell ⟨g, 4, none⟩ (.bool Y4.off)) = V4 at *
  obtain ⟨⟨f0, f1, f2, f3, f4⟩, k0, k1, k2, k3, k4⟩ := hF4.v
  have hc := readS Y4 1 3 S4 V4 hF4.l Hs4.out (by kernel_rfl) (by decide)
  simp only [FileT.agg, PcT.val, show ((1 : Nat) : Int) = 1 from rfl, show ((3 : Nat) : Int) = 3 from rfl] at hc
  go_wp2_with fail
  refine hc.mono ?_
  rintro e W5 ⟨q, rfl, hql, hqo, hb5, -⟩
  clear hc
  have hql2 : q.l = [2, 4, 5] := by rw [hql, all_of Hs4.out]; kernel_rfl
  have hF5 := hF4.later hb5
  have hb6 := hb4.trans (hb5.mono hb4.size)
  clear f0 f1 f2 f3 f4 k0 k1 k2 k3 k4 hF4 hb4 hb5 hql
  obtain ⟨⟨f0, f1, f2, f3, f4⟩, k0, k1, k2, k3, k4⟩ := hF5.v
  have hc := crashS Y4 ⟨some ⟨W5.heap.size, 0, none⟩, 2, 2, [false, true]⟩ (-1) 0 S4 (W5.alloc (.cells #[.bool false, .bool true] 4)) ((hF5.l.later (bel_alloc (Below.refl _ _) _)).more (by simp)) (bools_at W5 [false, true] #[.bool false, .bool true] _ rfl (by decide)) Hs4.out (by kernel_rfl)
  simp only [FileT.agg, PcT.val] at hc
  go_wp2_with fail
  refine hc.mono ?_
  rintro e W6 ⟨Y5, rfl, hs5, hL5, hb7, -⟩
  have hb8 : Below W5.heap.size W5 W6 := (bel_alloc (Below.refl _ _) (.cells #[.bool false, .bool true] 4)).trans (hb7.mono (by simp))
  have hF6 := hF5.later hb8
  have hb9 := hb6.trans (hb8.mono hb6.size)
  have hq6 := (hqo.later hb8).more hb8.size
  have hC := FAt.new hL5 25
  have hF7 := hF6.later (bel_alloc (Below.refl _ _) (.cells #[.slice Y5.F.A Y5.F.n Y5.F.c, .slice Y5.lA Y5.ln Y5.lc, .int .i64 Y5.fuse, .int .i64 Y5.fault, .bool Y5.off] 25))
  have hq7 := (hq6.later (bel_alloc (Below.refl _ _) (.cells #[.slice Y5.F.A Y5.F.n Y5.F.c, .slice Y5.lA Y5.ln Y5.lc, .int .i64 Y5.fuse, .int .i64 Y5.fault, .bool Y5.off] 25))).more (bel_alloc (Below.refl W6.heap.size W6) (.cells #[.slice Y5.F.A Y5.F.n Y5.F.c, .slice Y5.lA Y5.ln Y5.lc, .int .i64 Y5.fuse, .int .i64 Y5.fault, .bool Y5.off] 25)).size
  have hbA := bel_alloc hb9 (.cells #[.slice Y5.F.A Y5.F.n Y5.F.c, .slice Y5.lA Y5.ln Y5.lc, .int .i64 Y5.fuse, .int .i64 Y5.fault, .bool Y5.off] 25)
  have hs5' : Y5.F.l = [1, 2, 0, 5, 6] := by
    have h : Y5.s.firm = (S4.crash [false, true] (-1) 0).firm := by rw [hs5]
    exact h.trans (by kernel_rfl)
  have hg2 : W6.heap.size = W6.heap.size := rfl
  clear hc f0 f1 f2 f3 f4 k0 k1 k2 k3 k4 hF5 hb6 hb7 hb8 hF6 hb9 hq6 hqo hs5 hL5 hg2
  simp only [FileT.agg, PcT.val]
  go_upto_region 7 with fail
  generalize W6.alloc (.cells #[.slice Y5.F.A Y5.F.n Y5.F.c, .slice Y5.lA Y5.ln Y5.lc, .int .i64 Y5.fuse, .int .i64 Y5.fault, .bool Y5.off] 25) = V5 at *
  generalize W6.heap.size = g2 at *
  go_upto_region 9 with fail
  obtain ⟨⟨f0, f1, f2, f3, f4⟩, k0, k1, k2, k3, k4⟩ := hF7.v
  obtain ⟨⟨j0, j1, j2, j3, j4⟩, m0, m1, m2, m3, m4⟩ := hC.v
  have x1 := bel_alloc (Below.refl V5.heap.size V5) (.cells #[.int .u8 2, .int .u8 4, .int .u8 5] 5)
  have he1 := eq_yes q.A (some ⟨V5.heap.size, 0, none⟩) q.n q.c 3 3 [2, 4, 5] V5.heap.size (V5.heap.size + 1) (V5.alloc (.cells #[.int .u8 2, .int .u8 4, .int .u8 5] 5)) (by rw [← hql2]; exact (hq7.later x1).here) (bytes_new V5 [2, 4, 5] _ _ _ rfl) (Nat.le_trans hq7.fits hq7.most)
  clear f0 f1 f2 f3 f4 k0 k1 k2 k3 k4 j0 j1 j2 j3 j4 m0 m1 m2 m3 m4
  go_wp2_with fail
  refine he1.mono ?_
  rintro e V6 ⟨rfl, hbB⟩
  have hbC := bel_next x1 hbB
  have hF8 := hF7.later hbC
  have hC8 := hC.later hbC
  have hbD := hbA.trans (hbC.mono hbA.size)
  clear he1 x1 hF7 hC hbA hbB hbC hq7
  obtain ⟨⟨j0, j1, j2, j3, j4⟩, -⟩ := hC8.v
  have x1 := bel_alloc (Below.refl V6.heap.size V6) (.cells #[.int .u8 1, .int .u8 2, .int .u8 0, .int .u8 5, .int .u8 6] 5)
  have he1 := eq_yes Y5.F.A (some ⟨V6.heap.size, 0, none⟩) Y5.F.n Y5.F.c 5 5 [1, 2, 0, 5, 6] V6.heap.size (V6.heap.size + 1) (V6.alloc (.cells #[.int .u8 1, .int .u8 2, .int .u8 0, .int .u8 5, .int .u8 6] 5)) (by rw [← hs5']; exact (hC8.l.firm.later x1).here) (bytes_new V6 [1, 2, 0, 5, 6] _ _ _ rfl) (Nat.le_trans hC8.l.firm.fits hC8.l.firm.most)
  go_wp2_with fail
  refine he1.mono ?_
  rintro e V7 ⟨rfl, hbB⟩
  have hbC := bel_next x1 hbB
  have hF9 := hF8.later hbC
  have hbE := hbD.trans (hbC.mono hbD.size)
  clear he1 x1 hF8 hC8 hbB hbC hbD j0 j1 j2 j3 j4
  obtain ⟨⟨f0, f1, f2, f3, f4⟩, -⟩ := hF9.v
  have he1 := lenS Y4 S4 V7 hF9.l Hs4.out (by kernel_rfl)
  simp only [FileT.agg, PcT.val, show ((S4.all.length : Nat) : Int) = 5 from by kernel_rfl] at he1
  go_wp2_with fail
  refine he1.mono ?_
  rintro e V8 ⟨rfl, hbB⟩
  have hbF := hbE.trans (hbB.mono hbE.size)
  clear he1 hF9 hbB hbE f0 f1 f2 f3 f4
  have he1 := checkF_any ⟨⟨none, 0, 0, []⟩, none, 0, 0, [], -2, 0, false⟩ V8.heap.size V8 (lie_syn ⟨Bytes.zero _, fun _ => rfl, Nat.le_refl _, by unfold maxLen; exact Nat.zero_le _⟩ (by decide) (by decide)) (Nat.le_refl _) (by intro p hp; simp [FileT.Q] at hp; subst hp; decide)
  rw [show (⟨⟨none, 0, 0, []⟩, none, 0, 0, [], -2, 0, false⟩ : FileT).right = false from by kernel_rfl] at he1
  simp only [FileT.agg, PcT.val] at he1
  go_wp2_with fail
  refine he1.mono ?_
  rintro e V9 ⟨rfl, hbB⟩
  have hbG := hbF.trans (hbB.mono hbF.size)
  clear he1 hbB hbF
  go_wp2
  all_goals
    go_ret
    exact ⟨rfl, hbG⟩
end Go.Proofs.Ythoenmggjbojoaa
