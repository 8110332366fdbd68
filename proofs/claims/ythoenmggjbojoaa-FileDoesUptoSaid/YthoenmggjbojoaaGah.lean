import Derived.Test.YthoenmggjbojoaaGag
import Derived.Test.YthoenmggjbojoaaRows
import Derived.Test.YthoenmggjbojoaaGaa
import Derived.Deep.QuietTactic
import Derived.BigQuiet
import Derived.Lib.Hide
import Derived.Laws.BytesString
import Derived.Laws.Cells
/-
  Layer 10: which deed it is; few of them; a deed done.
-/
namespace Go.Proofs.Ythoenmggjbojoaa
open Go.RowKit
set_option linter.unusedVariables false

def whichN (k : Int) : Nat := ((IntKind.u64.wrap k).tmod 7).toNat
theorem which_is (k : Int) : wrap64 ((IntKind.u64.wrap k).tmod 7) = (whichN k : Nat) ∧ whichN k < 7 := by
  have h0 : 0 ≤ IntKind.u64.wrap k := by rw [IntKind.wrap_u64]; exact Int.emod_nonneg _ (by decide)
  have h1 := Int.tmod_nonneg 7 h0
  have h2 := Int.tmod_lt_of_pos (IntKind.u64.wrap k) (show (0 : Int) < 7 by decide)
  unfold whichN
  generalize (IntKind.u64.wrap k).tmod 7 = z at *
  refine ⟨?_, by omega⟩
  unfold wrap64
  omega
set_option maxRecDepth 20000 in
theorem which_any (x : DeedT) (w : World) :
    Calls Try.prog 23 #[.agg #[.int .i64 x.kind, .int .i64 x.n, .int .i64 x.tear, .slice x.bytes.A x.bytes.n x.bytes.c, .slice x.keep.A x.keep.n x.keep.c]] w fun e w' => e = .returned (.int .i64 (whichN x.kind : Nat)) ∧ Below w.heap.size w w' := by
  have HW := Lib.hid (which_is x.kind).1
  go_enter Try.func23, Try.ntmps23
  go_wp2
  all_goals
    go_ret
    exact ⟨by rw [← HW.out]; rfl, bel_alloc (Below.refl _ _) _⟩
theorem few_any (A : Option Addr) (n c : Nat) (w : World) (hn : n ≤ c) (hc : c ≤ maxLen) :
    Calls Try.prog 13 #[.slice A n c] w fun e w' => e = .returned (.slice A (min n 40) c) ∧ w = w' := by
  unfold maxLen at hc
  have e1 : (if (40 : Int) < (n : Int) then 40 else (n : Int)) = ((min n 40 : Nat) : Int) := by split <;> omega
  have e2 : (if (n : Int) < 40 then (n : Int) else 40) = ((min n 40 : Nat) : Int) := by split <;> omega
  have e3 : min (n : Int) 40 = ((min n 40 : Nat) : Int) := by omega
  have i1 : ((min n 40 : Nat) : Int) ≤ (c : Int) := by omega
  have i0 : (0 : Int) ≤ ((min n 40 : Nat) : Int) := by omega
  generalize min n 40 = m at *
  go_enter Try.func13, Try.ntmps13
  go_wp2
  all_goals
    go_ret
    exact ⟨rfl, rfl⟩
/-- What a deed comes to. -/
def doS (X : FileS) (long : Nat) (x : DeedT) : FileS × Int :=
  if whichN x.kind = 3 then X.sync long
  else if whichN x.kind = 4 then (if X.off = true then (X, 10) else (⟨X.firm, X.loose, max x.n (-1), X.fault, false⟩, 0))
  else if whichN x.kind = 5 then (if X.off = true then (X, 10) else (⟨X.firm, X.loose, X.fuse, max x.n (-1), false⟩, 0))
  else if whichN x.kind = 6 then (X.crash x.keep.l x.tear x.n, 0)
  else if x.bytes.n = 0 then (X, 2) else X.append long x.bytes.l
/-- A deed in a box of its own. -/
def DBox (W : World) (g : Nat) (x : DeedT) : Prop :=
  W.cell? ⟨g, 0, none⟩ = some (.int .i64 x.kind) ∧ W.cell? ⟨g, 1, none⟩ = some (.int .i64 x.n) ∧ W.cell? ⟨g, 2, none⟩ = some (.int .i64 x.tear) ∧ W.cell? ⟨g, 3, none⟩ = some (.slice x.bytes.A x.bytes.n x.bytes.c) ∧ W.cell? ⟨g, 4, none⟩ = some (.slice x.keep.A x.keep.n x.keep.c)
theorem DBox.later {W W' : World} {g : Nat} {x : DeedT} (h : DBox W g x) (hb : Below W.heap.size W W') : DBox W' g x :=
  ⟨kept_later hb h.1, kept_later hb h.2.1, kept_later hb h.2.2.1, kept_later hb h.2.2.2.1, kept_later hb h.2.2.2.2⟩
theorem DBox.new (w : World) (x : DeedT) (t : TypeId) : DBox (w.alloc (.cells #[.int .i64 x.kind, .int .i64 x.n, .int .i64 x.tear, .slice x.bytes.A x.bytes.n x.bytes.c, .slice x.keep.A x.keep.n x.keep.c] t)) w.heap.size x :=
  ⟨by simp [go_sem], by simp [go_sem], by simp [go_sem], by simp [go_sem], by simp [go_sem]⟩
set_option maxRecDepth 20000 in
set_option maxHeartbeats 2000000 in
theorem does_3 (X : FileT) (x : DeedT) (B N : Nat) (w : World) (hL : LieF w B X) (hx : x.Ok w B N) (hB : B ≤ w.heap.size) (hr : X.right = true) (hq : whichN x.kind = 3) :
    Calls Try.prog 14 #[X.agg, .agg #[.int .i64 x.kind, .int .i64 x.n, .int .i64 x.tear, .slice x.bytes.A x.bytes.n x.bytes.c, .slice x.keep.A x.keep.n x.keep.c]] w (OpP X (AwayP x.bytes) (doS X.s X.long x) w) := by
  have hout : doS X.s X.long x = (X.s.sync X.long) := if_pos hq
  rw [hout]
  clear hout
  have hb1 := bel_alloc (bel_alloc (bel_alloc (Below.refl w.heap.size w) (.cells #[.slice X.F.A X.F.n X.F.c, .slice X.lA X.ln X.lc, .int .i64 X.fuse, .int .i64 X.fault, .bool X.off] 25)) (.cells #[.int .i64 x.kind, .int .i64 x.n, .int .i64 x.tear, .slice x.bytes.A x.bytes.n x.bytes.c, .slice x.keep.A x.keep.n x.keep.c] 34)) (.cells #[.slice none 0 0, .slice none 0 0, .int .i64 0, .int .i64 0, .bool false] 25)
  have HX := (FBox.new w X 25).later (bel_alloc (bel_alloc (Below.refl _ _) (.cells #[.int .i64 x.kind, .int .i64 x.n, .int .i64 x.tear, .slice x.bytes.A x.bytes.n x.bytes.c, .slice x.keep.A x.keep.n x.keep.c] 34)) (.cells #[.slice none 0 0, .slice none 0 0, .int .i64 0, .int .i64 0, .bool false] 25))
  have HD := (DBox.new (w.alloc (.cells #[.slice X.F.A X.F.n X.F.c, .slice X.lA X.ln X.lc, .int .i64 X.fuse, .int .i64 X.fault, .bool X.off] 25)) x 34).later (bel_alloc (Below.refl _ _) (.cells #[.slice none 0 0, .slice none 0 0, .int .i64 0, .int .i64 0, .bool false] 25))
  have HV := FVar.new ((w.alloc (.cells #[.slice X.F.A X.F.n X.F.c, .slice X.lA X.ln X.lc, .int .i64 X.fuse, .int .i64 X.fault, .bool X.off] 25)).alloc (.cells #[.int .i64 x.kind, .int .i64 x.n, .int .i64 x.tear, .slice x.bytes.A x.bytes.n x.bytes.c, .slice x.keep.A x.keep.n x.keep.c] 34)) (.slice none 0 0) (.slice none 0 0) (.int .i64 0) (.int .i64 0) (.bool false) 25
  rw [World.size_alloc] at HD
  rw [World.size_alloc, World.size_alloc] at HV
  have hsz : (((w.alloc (.cells #[.slice X.F.A X.F.n X.F.c, .slice X.lA X.ln X.lc, .int .i64 X.fuse, .int .i64 X.fault, .bool X.off] 25)).alloc (.cells #[.int .i64 x.kind, .int .i64 x.n, .int .i64 x.tear, .slice x.bytes.A x.bytes.n x.bytes.c, .slice x.keep.A x.keep.n x.keep.c] 34)).alloc (.cells #[.slice none 0 0, .slice none 0 0, .int .i64 0, .int .i64 0, .bool false] 25)).heap.size = w.heap.size + 1 + 1 + 1 := by simp
  have hcall := Lib.hid (fun W (hw : Below w.heap.size w W) => show Calls _ _ _ W (OpP X (fun _ => True) (X.s.sync X.long) W) from
    have HLw := hL.later (hw.mono hB)
    have HXw := hx.later (hw.mono hB)
    have HBw := Nat.le_trans hB hw.size
    syncF_any X B _ HLw HBw hr)
  generalize hout : ((X.s.sync X.long) : FileS × Int) = out at *
  clear hout
  have h3 : (((whichN x.kind : Nat) : Int) == 3) = true := by rw [beq_iff_eq]; omega
  have h4 : (((whichN x.kind : Nat) : Int) == 4) = false := by rw [beq_eq_false_iff_ne]; omega
  have h5 : (((whichN x.kind : Nat) : Int) == 5) = false := by rw [beq_eq_false_iff_ne]; omega
  have h6 : (((whichN x.kind : Nat) : Int) == 6) = false := by rw [beq_eq_false_iff_ne]; omega
  clear hq
  simp only [FileT.agg, PcT.val] at hcall ⊢
  have HL := Lib.hid hL
  have hwc := fun W => which_any x W
  generalize whichN x.kind = q at *
  obtain ⟨f0, f1, f2, f3, f4⟩ := HX
  obtain ⟨d0, d1, d2, d3, d4⟩ := HD
  have HX := Lib.hid (show FBox _ _ X from ⟨f0, f1, f2, f3, f4⟩)
  have HD := Lib.hid (show DBox _ _ x from ⟨d0, d1, d2, d3, d4⟩)
  clear hL hx hr
  go_enter Try.func14, Try.ntmps14
  go_wp2_with fail
  generalize ((w.alloc (.cells #[.slice X.F.A X.F.n X.F.c, .slice X.lA X.ln X.lc, .int .i64 X.fuse, .int .i64 X.fault, .bool X.off] 25)).alloc (.cells #[.int .i64 x.kind, .int .i64 x.n, .int .i64 x.tear, .slice x.bytes.A x.bytes.n x.bytes.c, .slice x.keep.A x.keep.n x.keep.c] 34)).alloc (.cells #[.slice none 0 0, .slice none 0 0, .int .i64 0, .int .i64 0, .bool false] 25) = W1 at *
  refine (hwc _).mono ?_
  rintro e W2 ⟨rfl, hb2⟩
  clear f0 f1 f2 f3 f4 d0 d1 d2 d3 d4 hwc
  obtain ⟨f0, f1, f2, f3, f4⟩ := HX.out.later hb2
  obtain ⟨d0, d1, d2, d3, d4⟩ := HD.out.later hb2
  have hb3 := bel_next hb1 hb2
  have hs2 := hb2.size
  have HV2 := Lib.hid (HV.later hb2)
  clear HV hb1 hb2 HX HD
  go_wp2_with fail
  refine (hcall.out _ hb3).mono ?_
  rintro e W3 ⟨Y, rfl, hYs, hYL, hb4, haw⟩
  have hb5 := bel_next hb3 hb4
  have hs3 := hb4.size
  obtain ⟨⟨j0, j1, j2, j3, j4⟩, k0, k1, k2, k3, k4⟩ := HV2.out.later hb4
  have hbe := fbelow_set5 (a := .slice Y.F.A Y.F.n Y.F.c) (b := .slice Y.lA Y.ln Y.lc) (c := .int .i64 Y.fuse) (d := .int .i64 Y.fault) (e := .bool Y.off) hb5 (show w.heap.size ≤ w.heap.size + 1 + 1 by omega)
  have HYs := Lib.hid hYs
  have HAw := Lib.hid (show ∀ k, k < w.heap.size → AwayF X k → AwayP x.bytes k → AwayF Y k from fun k hk h1 h2 => haw k (by omega) h1 trivial)
  have HYL := Lib.hid (lie_res (g := w.heap.size + 1 + 1) (a := .slice Y.F.A Y.F.n Y.F.c) (b := .slice Y.lA Y.ln Y.lc) (c := .int .i64 Y.fuse) (d := .int .i64 Y.fault) (e := .bool Y.off) hYL (haw (w.heap.size + 1 + 1) (by omega) ((HL.out.more hB).away (by omega)) trivial))
  clear hcall hYs hYL haw hsz HV2 hb4 hb5 hb3 HL f0 f1 f2 f3 f4 d0 d1 d2 d3 d4 hs2 hs3
  simp only [FileT.agg, PcT.val]
  go_wp2
  (try rw [Exit.noGoto_ret])
  refine bodyPost_ret (v := .tuple #[.agg #[.slice Y.F.A Y.F.n Y.F.c, .slice Y.lA Y.ln Y.lc, .int .i64 Y.fuse, .int .i64 Y.fault, .bool Y.off], .int .i64 out.2]) ?_ rfl ⟨Y, rfl, HYs.out, HYL.out, hbe, HAw.out⟩
  simp [results, Try.results14, go_sem, *]
set_option maxRecDepth 20000 in
set_option maxHeartbeats 2000000 in
theorem does_4 (X : FileT) (x : DeedT) (B N : Nat) (w : World) (hL : LieF w B X) (hx : x.Ok w B N) (hB : B ≤ w.heap.size) (hr : X.right = true) (hq : whichN x.kind = 4) :
    Calls Try.prog 14 #[X.agg, .agg #[.int .i64 x.kind, .int .i64 x.n, .int .i64 x.tear, .slice x.bytes.A x.bytes.n x.bytes.c, .slice x.keep.A x.keep.n x.keep.c]] w (OpP X (AwayP x.bytes) (doS X.s X.long x) w) := by
  have hout : doS X.s X.long x = (if X.off = true then (X.s, 10) else (⟨X.F.l, X.L.map (·.l), max x.n (-1), X.fault, false⟩, 0)) := (if_neg (by omega)).trans (if_pos hq)
  rw [hout]
  clear hout
  have hb1 := bel_alloc (bel_alloc (bel_alloc (Below.refl w.heap.size w) (.cells #[.slice X.F.A X.F.n X.F.c, .slice X.lA X.ln X.lc, .int .i64 X.fuse, .int .i64 X.fault, .bool X.off] 25)) (.cells #[.int .i64 x.kind, .int .i64 x.n, .int .i64 x.tear, .slice x.bytes.A x.bytes.n x.bytes.c, .slice x.keep.A x.keep.n x.keep.c] 34)) (.cells #[.slice none 0 0, .slice none 0 0, .int .i64 0, .int .i64 0, .bool false] 25)
  have HX := (FBox.new w X 25).later (bel_alloc (bel_alloc (Below.refl _ _) (.cells #[.int .i64 x.kind, .int .i64 x.n, .int .i64 x.tear, .slice x.bytes.A x.bytes.n x.bytes.c, .slice x.keep.A x.keep.n x.keep.c] 34)) (.cells #[.slice none 0 0, .slice none 0 0, .int .i64 0, .int .i64 0, .bool false] 25))
  have HD := (DBox.new (w.alloc (.cells #[.slice X.F.A X.F.n X.F.c, .slice X.lA X.ln X.lc, .int .i64 X.fuse, .int .i64 X.fault, .bool X.off] 25)) x 34).later (bel_alloc (Below.refl _ _) (.cells #[.slice none 0 0, .slice none 0 0, .int .i64 0, .int .i64 0, .bool false] 25))
  have HV := FVar.new ((w.alloc (.cells #[.slice X.F.A X.F.n X.F.c, .slice X.lA X.ln X.lc, .int .i64 X.fuse, .int .i64 X.fault, .bool X.off] 25)).alloc (.cells #[.int .i64 x.kind, .int .i64 x.n, .int .i64 x.tear, .slice x.bytes.A x.bytes.n x.bytes.c, .slice x.keep.A x.keep.n x.keep.c] 34)) (.slice none 0 0) (.slice none 0 0) (.int .i64 0) (.int .i64 0) (.bool false) 25
  rw [World.size_alloc] at HD
  rw [World.size_alloc, World.size_alloc] at HV
  have hsz : (((w.alloc (.cells #[.slice X.F.A X.F.n X.F.c, .slice X.lA X.ln X.lc, .int .i64 X.fuse, .int .i64 X.fault, .bool X.off] 25)).alloc (.cells #[.int .i64 x.kind, .int .i64 x.n, .int .i64 x.tear, .slice x.bytes.A x.bytes.n x.bytes.c, .slice x.keep.A x.keep.n x.keep.c] 34)).alloc (.cells #[.slice none 0 0, .slice none 0 0, .int .i64 0, .int .i64 0, .bool false] 25)).heap.size = w.heap.size + 1 + 1 + 1 := by simp
  have hcall := Lib.hid (fun W (hw : Below w.heap.size w W) => show Calls _ _ _ W (OpP X (fun _ => True) (if X.off = true then (X.s, 10) else (⟨X.F.l, X.L.map (·.l), max x.n (-1), X.fault, false⟩, 0)) W) from
    have HLw := hL.later (hw.mono hB)
    have HXw := hx.later (hw.mono hB)
    have HBw := Nat.le_trans hB hw.size
    lightF_any X B x.n _ HLw HBw hr hx.n)
  generalize hout : ((if X.off = true then (X.s, 10) else (⟨X.F.l, X.L.map (·.l), max x.n (-1), X.fault, false⟩, 0)) : FileS × Int) = out at *
  clear hout
  have h3 : (((whichN x.kind : Nat) : Int) == 3) = false := by rw [beq_eq_false_iff_ne]; omega
  have h4 : (((whichN x.kind : Nat) : Int) == 4) = true := by rw [beq_iff_eq]; omega
  have h5 : (((whichN x.kind : Nat) : Int) == 5) = false := by rw [beq_eq_false_iff_ne]; omega
  have h6 : (((whichN x.kind : Nat) : Int) == 6) = false := by rw [beq_eq_false_iff_ne]; omega
  clear hq
  simp only [FileT.agg, PcT.val] at hcall ⊢
  have HL := Lib.hid hL
  have hwc := fun W => which_any x W
  generalize whichN x.kind = q at *
  obtain ⟨f0, f1, f2, f3, f4⟩ := HX
  obtain ⟨d0, d1, d2, d3, d4⟩ := HD
  have HX := Lib.hid (show FBox _ _ X from ⟨f0, f1, f2, f3, f4⟩)
  have HD := Lib.hid (show DBox _ _ x from ⟨d0, d1, d2, d3, d4⟩)
  clear hL hx hr
  go_enter Try.func14, Try.ntmps14
  go_wp2_with fail
  generalize ((w.alloc (.cells #[.slice X.F.A X.F.n X.F.c, .slice X.lA X.ln X.lc, .int .i64 X.fuse, .int .i64 X.fault, .bool X.off] 25)).alloc (.cells #[.int .i64 x.kind, .int .i64 x.n, .int .i64 x.tear, .slice x.bytes.A x.bytes.n x.bytes.c, .slice x.keep.A x.keep.n x.keep.c] 34)).alloc (.cells #[.slice none 0 0, .slice none 0 0, .int .i64 0, .int .i64 0, .bool false] 25) = W1 at *
  refine (hwc _).mono ?_
  rintro e W2 ⟨rfl, hb2⟩
  clear f0 f1 f2 f3 f4 d0 d1 d2 d3 d4 hwc
  obtain ⟨f0, f1, f2, f3, f4⟩ := HX.out.later hb2
  obtain ⟨d0, d1, d2, d3, d4⟩ := HD.out.later hb2
  have hb3 := bel_next hb1 hb2
  have hs2 := hb2.size
  have HV2 := Lib.hid (HV.later hb2)
  clear HV hb1 hb2 HX HD
  go_wp2_with fail
  refine (hcall.out _ hb3).mono ?_
  rintro e W3 ⟨Y, rfl, hYs, hYL, hb4, haw⟩
  have hb5 := bel_next hb3 hb4
  have hs3 := hb4.size
  obtain ⟨⟨j0, j1, j2, j3, j4⟩, k0, k1, k2, k3, k4⟩ := HV2.out.later hb4
  have hbe := fbelow_set5 (a := .slice Y.F.A Y.F.n Y.F.c) (b := .slice Y.lA Y.ln Y.lc) (c := .int .i64 Y.fuse) (d := .int .i64 Y.fault) (e := .bool Y.off) hb5 (show w.heap.size ≤ w.heap.size + 1 + 1 by omega)
  have HYs := Lib.hid hYs
  have HAw := Lib.hid (show ∀ k, k < w.heap.size → AwayF X k → AwayP x.bytes k → AwayF Y k from fun k hk h1 h2 => haw k (by omega) h1 trivial)
  have HYL := Lib.hid (lie_res (g := w.heap.size + 1 + 1) (a := .slice Y.F.A Y.F.n Y.F.c) (b := .slice Y.lA Y.ln Y.lc) (c := .int .i64 Y.fuse) (d := .int .i64 Y.fault) (e := .bool Y.off) hYL (haw (w.heap.size + 1 + 1) (by omega) ((HL.out.more hB).away (by omega)) trivial))
  clear hcall hYs hYL haw hsz HV2 hb4 hb5 hb3 HL f0 f1 f2 f3 f4 d0 d1 d2 d3 d4 hs2 hs3
  simp only [FileT.agg, PcT.val]
  go_wp2
  (try rw [Exit.noGoto_ret])
  refine bodyPost_ret (v := .tuple #[.agg #[.slice Y.F.A Y.F.n Y.F.c, .slice Y.lA Y.ln Y.lc, .int .i64 Y.fuse, .int .i64 Y.fault, .bool Y.off], .int .i64 out.2]) ?_ rfl ⟨Y, rfl, HYs.out, HYL.out, hbe, HAw.out⟩
  simp [results, Try.results14, go_sem, *]
set_option maxRecDepth 20000 in
set_option maxHeartbeats 2000000 in
theorem does_5 (X : FileT) (x : DeedT) (B N : Nat) (w : World) (hL : LieF w B X) (hx : x.Ok w B N) (hB : B ≤ w.heap.size) (hr : X.right = true) (hq : whichN x.kind = 5) :
    Calls Try.prog 14 #[X.agg, .agg #[.int .i64 x.kind, .int .i64 x.n, .int .i64 x.tear, .slice x.bytes.A x.bytes.n x.bytes.c, .slice x.keep.A x.keep.n x.keep.c]] w (OpP X (AwayP x.bytes) (doS X.s X.long x) w) := by
  have hout : doS X.s X.long x = (if X.off = true then (X.s, 10) else (⟨X.F.l, X.L.map (·.l), X.fuse, max x.n (-1), false⟩, 0)) := (if_neg (by omega)).trans ((if_neg (by omega)).trans (if_pos hq))
  rw [hout]
  clear hout
  have hb1 := bel_alloc (bel_alloc (bel_alloc (Below.refl w.heap.size w) (.cells #[.slice X.F.A X.F.n X.F.c, .slice X.lA X.ln X.lc, .int .i64 X.fuse, .int .i64 X.fault, .bool X.off] 25)) (.cells #[.int .i64 x.kind, .int .i64 x.n, .int .i64 x.tear, .slice x.bytes.A x.bytes.n x.bytes.c, .slice x.keep.A x.keep.n x.keep.c] 34)) (.cells #[.slice none 0 0, .slice none 0 0, .int .i64 0, .int .i64 0, .bool false] 25)
  have HX := (FBox.new w X 25).later (bel_alloc (bel_alloc (Below.refl _ _) (.cells #[.int .i64 x.kind, .int .i64 x.n, .int .i64 x.tear, .slice x.bytes.A x.bytes.n x.bytes.c, .slice x.keep.A x.keep.n x.keep.c] 34)) (.cells #[.slice none 0 0, .slice none 0 0, .int .i64 0, .int .i64 0, .bool false] 25))
  have HD := (DBox.new (w.alloc (.cells #[.slice X.F.A X.F.n X.F.c, .slice X.lA X.ln X.lc, .int .i64 X.fuse, .int .i64 X.fault, .bool X.off] 25)) x 34).later (bel_alloc (Below.refl _ _) (.cells #[.slice none 0 0, .slice none 0 0, .int .i64 0, .int .i64 0, .bool false] 25))
  have HV := FVar.new ((w.alloc (.cells #[.slice X.F.A X.F.n X.F.c, .slice X.lA X.ln X.lc, .int .i64 X.fuse, .int .i64 X.fault, .bool X.off] 25)).alloc (.cells #[.int .i64 x.kind, .int .i64 x.n, .int .i64 x.tear, .slice x.bytes.A x.bytes.n x.bytes.c, .slice x.keep.A x.keep.n x.keep.c] 34)) (.slice none 0 0) (.slice none 0 0) (.int .i64 0) (.int .i64 0) (.bool false) 25
  rw [World.size_alloc] at HD
  rw [World.size_alloc, World.size_alloc] at HV
  have hsz : (((w.alloc (.cells #[.slice X.F.A X.F.n X.F.c, .slice X.lA X.ln X.lc, .int .i64 X.fuse, .int .i64 X.fault, .bool X.off] 25)).alloc (.cells #[.int .i64 x.kind, .int .i64 x.n, .int .i64 x.tear, .slice x.bytes.A x.bytes.n x.bytes.c, .slice x.keep.A x.keep.n x.keep.c] 34)).alloc (.cells #[.slice none 0 0, .slice none 0 0, .int .i64 0, .int .i64 0, .bool false] 25)).heap.size = w.heap.size + 1 + 1 + 1 := by simp
  have hcall := Lib.hid (fun W (hw : Below w.heap.size w W) => show Calls _ _ _ W (OpP X (fun _ => True) (if X.off = true then (X.s, 10) else (⟨X.F.l, X.L.map (·.l), X.fuse, max x.n (-1), false⟩, 0)) W) from
    have HLw := hL.later (hw.mono hB)
    have HXw := hx.later (hw.mono hB)
    have HBw := Nat.le_trans hB hw.size
    refuseF_any X B x.n _ HLw HBw hr hx.n)
  generalize hout : ((if X.off = true then (X.s, 10) else (⟨X.F.l, X.L.map (·.l), X.fuse, max x.n (-1), false⟩, 0)) : FileS × Int) = out at *
  clear hout
  have h3 : (((whichN x.kind : Nat) : Int) == 3) = false := by rw [beq_eq_false_iff_ne]; omega
  have h4 : (((whichN x.kind : Nat) : Int) == 4) = false := by rw [beq_eq_false_iff_ne]; omega
  have h5 : (((whichN x.kind : Nat) : Int) == 5) = true := by rw [beq_iff_eq]; omega
  have h6 : (((whichN x.kind : Nat) : Int) == 6) = false := by rw [beq_eq_false_iff_ne]; omega
  clear hq
  simp only [FileT.agg, PcT.val] at hcall ⊢
  have HL := Lib.hid hL
  have hwc := fun W => which_any x W
  generalize whichN x.kind = q at *
  obtain ⟨f0, f1, f2, f3, f4⟩ := HX
  obtain ⟨d0, d1, d2, d3, d4⟩ := HD
  have HX := Lib.hid (show FBox _ _ X from ⟨f0, f1, f2, f3, f4⟩)
  have HD := Lib.hid (show DBox _ _ x from ⟨d0, d1, d2, d3, d4⟩)
  clear hL hx hr
  go_enter Try.func14, Try.ntmps14
  go_wp2_with fail
  generalize ((w.alloc (.cells #[.slice X.F.A X.F.n X.F.c, .slice X.lA X.ln X.lc, .int .i64 X.fuse, .int .i64 X.fault, .bool X.off] 25)).alloc (.cells #[.int .i64 x.kind, .int .i64 x.n, .int .i64 x.tear, .slice x.bytes.A x.bytes.n x.bytes.c, .slice x.keep.A x.keep.n x.keep.c] 34)).alloc (.cells #[.slice none 0 0, .slice none 0 0, .int .i64 0, .int .i64 0, .bool false] 25) = W1 at *
  refine (hwc _).mono ?_
  rintro e W2 ⟨rfl, hb2⟩
  clear f0 f1 f2 f3 f4 d0 d1 d2 d3 d4 hwc
  obtain ⟨f0, f1, f2, f3, f4⟩ := HX.out.later hb2
  obtain ⟨d0, d1, d2, d3, d4⟩ := HD.out.later hb2
  have hb3 := bel_next hb1 hb2
  have hs2 := hb2.size
  have HV2 := Lib.hid (HV.later hb2)
  clear HV hb1 hb2 HX HD
  go_wp2_with fail
  refine (hcall.out _ hb3).mono ?_
  rintro e W3 ⟨Y, rfl, hYs, hYL, hb4, haw⟩
  have hb5 := bel_next hb3 hb4
  have hs3 := hb4.size
  obtain ⟨⟨j0, j1, j2, j3, j4⟩, k0, k1, k2, k3, k4⟩ := HV2.out.later hb4
  have hbe := fbelow_set5 (a := .slice Y.F.A Y.F.n Y.F.c) (b := .slice Y.lA Y.ln Y.lc) (c := .int .i64 Y.fuse) (d := .int .i64 Y.fault) (e := .bool Y.off) hb5 (show w.heap.size ≤ w.heap.size + 1 + 1 by omega)
  have HYs := Lib.hid hYs
  have HAw := Lib.hid (show ∀ k, k < w.heap.size → AwayF X k → AwayP x.bytes k → AwayF Y k from fun k hk h1 h2 => haw k (by omega) h1 trivial)
  have HYL := Lib.hid (lie_res (g := w.heap.size + 1 + 1) (a := .slice Y.F.A Y.F.n Y.F.c) (b := .slice Y.lA Y.ln Y.lc) (c := .int .i64 Y.fuse) (d := .int .i64 Y.fault) (e := .bool Y.off) hYL (haw (w.heap.size + 1 + 1) (by omega) ((HL.out.more hB).away (by omega)) trivial))
  clear hcall hYs hYL haw hsz HV2 hb4 hb5 hb3 HL f0 f1 f2 f3 f4 d0 d1 d2 d3 d4 hs2 hs3
  simp only [FileT.agg, PcT.val]
  go_wp2
  (try rw [Exit.noGoto_ret])
  refine bodyPost_ret (v := .tuple #[.agg #[.slice Y.F.A Y.F.n Y.F.c, .slice Y.lA Y.ln Y.lc, .int .i64 Y.fuse, .int .i64 Y.fault, .bool Y.off], .int .i64 out.2]) ?_ rfl ⟨Y, rfl, HYs.out, HYL.out, hbe, HAw.out⟩
  simp [results, Try.results14, go_sem, *]
set_option maxRecDepth 20000 in
set_option maxHeartbeats 2000000 in
theorem does_6 (X : FileT) (x : DeedT) (B N : Nat) (w : World) (hL : LieF w B X) (hx : x.Ok w B N) (hB : B ≤ w.heap.size) (hr : X.right = true) (hq : whichN x.kind = 6) :
    Calls Try.prog 14 #[X.agg, .agg #[.int .i64 x.kind, .int .i64 x.n, .int .i64 x.tear, .slice x.bytes.A x.bytes.n x.bytes.c, .slice x.keep.A x.keep.n x.keep.c]] w (OpP X (AwayP x.bytes) (doS X.s X.long x) w) := by
  have hout : doS X.s X.long x = ((X.s.crash x.keep.l x.tear x.n, 0)) := (if_neg (by omega)).trans ((if_neg (by omega)).trans ((if_neg (by omega)).trans (if_pos hq)))
  rw [hout]
  clear hout
  have hb1 := bel_alloc (bel_alloc (bel_alloc (Below.refl w.heap.size w) (.cells #[.slice X.F.A X.F.n X.F.c, .slice X.lA X.ln X.lc, .int .i64 X.fuse, .int .i64 X.fault, .bool X.off] 25)) (.cells #[.int .i64 x.kind, .int .i64 x.n, .int .i64 x.tear, .slice x.bytes.A x.bytes.n x.bytes.c, .slice x.keep.A x.keep.n x.keep.c] 34)) (.cells #[.slice none 0 0, .slice none 0 0, .int .i64 0, .int .i64 0, .bool false] 25)
  have HX := (FBox.new w X 25).later (bel_alloc (bel_alloc (Below.refl _ _) (.cells #[.int .i64 x.kind, .int .i64 x.n, .int .i64 x.tear, .slice x.bytes.A x.bytes.n x.bytes.c, .slice x.keep.A x.keep.n x.keep.c] 34)) (.cells #[.slice none 0 0, .slice none 0 0, .int .i64 0, .int .i64 0, .bool false] 25))
  have HD := (DBox.new (w.alloc (.cells #[.slice X.F.A X.F.n X.F.c, .slice X.lA X.ln X.lc, .int .i64 X.fuse, .int .i64 X.fault, .bool X.off] 25)) x 34).later (bel_alloc (Below.refl _ _) (.cells #[.slice none 0 0, .slice none 0 0, .int .i64 0, .int .i64 0, .bool false] 25))
  have HV := FVar.new ((w.alloc (.cells #[.slice X.F.A X.F.n X.F.c, .slice X.lA X.ln X.lc, .int .i64 X.fuse, .int .i64 X.fault, .bool X.off] 25)).alloc (.cells #[.int .i64 x.kind, .int .i64 x.n, .int .i64 x.tear, .slice x.bytes.A x.bytes.n x.bytes.c, .slice x.keep.A x.keep.n x.keep.c] 34)) (.slice none 0 0) (.slice none 0 0) (.int .i64 0) (.int .i64 0) (.bool false) 25
  rw [World.size_alloc] at HD
  rw [World.size_alloc, World.size_alloc] at HV
  have hsz : (((w.alloc (.cells #[.slice X.F.A X.F.n X.F.c, .slice X.lA X.ln X.lc, .int .i64 X.fuse, .int .i64 X.fault, .bool X.off] 25)).alloc (.cells #[.int .i64 x.kind, .int .i64 x.n, .int .i64 x.tear, .slice x.bytes.A x.bytes.n x.bytes.c, .slice x.keep.A x.keep.n x.keep.c] 34)).alloc (.cells #[.slice none 0 0, .slice none 0 0, .int .i64 0, .int .i64 0, .bool false] 25)).heap.size = w.heap.size + 1 + 1 + 1 := by simp
  have hcall := Lib.hid (fun W (hw : Below w.heap.size w W) => show Calls _ _ _ W (OpP X (fun _ => True) ((X.s.crash x.keep.l x.tear x.n, 0)) W) from
    have HLw := hL.later (hw.mono hB)
    have HXw := hx.later (hw.mono hB)
    have HBw := Nat.le_trans hB hw.size
    crashF_any X x.keep x.tear x.n B _ HLw HXw.keep HBw hr)
  generalize hout : (((X.s.crash x.keep.l x.tear x.n, 0)) : FileS × Int) = out at *
  clear hout
  have h3 : (((whichN x.kind : Nat) : Int) == 3) = false := by rw [beq_eq_false_iff_ne]; omega
  have h4 : (((whichN x.kind : Nat) : Int) == 4) = false := by rw [beq_eq_false_iff_ne]; omega
  have h5 : (((whichN x.kind : Nat) : Int) == 5) = false := by rw [beq_eq_false_iff_ne]; omega
  have h6 : (((whichN x.kind : Nat) : Int) == 6) = true := by rw [beq_iff_eq]; omega
  clear hq
  simp only [FileT.agg, PcT.val] at hcall ⊢
  have HL := Lib.hid hL
  have hwc := fun W => which_any x W
  generalize whichN x.kind = q at *
  obtain ⟨f0, f1, f2, f3, f4⟩ := HX
  obtain ⟨d0, d1, d2, d3, d4⟩ := HD
  have HX := Lib.hid (show FBox _ _ X from ⟨f0, f1, f2, f3, f4⟩)
  have HD := Lib.hid (show DBox _ _ x from ⟨d0, d1, d2, d3, d4⟩)
  clear hL hx hr
  go_enter Try.func14, Try.ntmps14
  go_wp2_with fail
  generalize ((w.alloc (.cells #[.slice X.F.A X.F.n X.F.c, .slice X.lA X.ln X.lc, .int .i64 X.fuse, .int .i64 X.fault, .bool X.off] 25)).alloc (.cells #[.int .i64 x.kind, .int .i64 x.n, .int .i64 x.tear, .slice x.bytes.A x.bytes.n x.bytes.c, .slice x.keep.A x.keep.n x.keep.c] 34)).alloc (.cells #[.slice none 0 0, .slice none 0 0, .int .i64 0, .int .i64 0, .bool false] 25) = W1 at *
  refine (hwc _).mono ?_
  rintro e W2 ⟨rfl, hb2⟩
  clear f0 f1 f2 f3 f4 d0 d1 d2 d3 d4 hwc
  obtain ⟨f0, f1, f2, f3, f4⟩ := HX.out.later hb2
  obtain ⟨d0, d1, d2, d3, d4⟩ := HD.out.later hb2
  have hb3 := bel_next hb1 hb2
  have hs2 := hb2.size
  have HV2 := Lib.hid (HV.later hb2)
  clear HV hb1 hb2 HX HD
  go_wp2_with fail
  refine (hcall.out _ hb3).mono ?_
  rintro e W3 ⟨Y, rfl, hYs, hYL, hb4, haw⟩
  have hb5 := bel_next hb3 hb4
  have hs3 := hb4.size
  obtain ⟨⟨j0, j1, j2, j3, j4⟩, k0, k1, k2, k3, k4⟩ := HV2.out.later hb4
  have hbe := fbelow_set5 (a := .slice Y.F.A Y.F.n Y.F.c) (b := .slice Y.lA Y.ln Y.lc) (c := .int .i64 Y.fuse) (d := .int .i64 Y.fault) (e := .bool Y.off) hb5 (show w.heap.size ≤ w.heap.size + 1 + 1 by omega)
  have HYs := Lib.hid hYs
  have HAw := Lib.hid (show ∀ k, k < w.heap.size → AwayF X k → AwayP x.bytes k → AwayF Y k from fun k hk h1 h2 => haw k (by omega) h1 trivial)
  have HYL := Lib.hid (lie_res (g := w.heap.size + 1 + 1) (a := .slice Y.F.A Y.F.n Y.F.c) (b := .slice Y.lA Y.ln Y.lc) (c := .int .i64 Y.fuse) (d := .int .i64 Y.fault) (e := .bool Y.off) hYL (haw (w.heap.size + 1 + 1) (by omega) ((HL.out.more hB).away (by omega)) trivial))
  clear hcall hYs hYL haw hsz HV2 hb4 hb5 hb3 HL f0 f1 f2 f3 f4 d0 d1 d2 d3 d4 hs2 hs3
  simp only [FileT.agg, PcT.val]
  go_wp2
  (try rw [Exit.noGoto_ret])
  refine bodyPost_ret (v := .tuple #[.agg #[.slice Y.F.A Y.F.n Y.F.c, .slice Y.lA Y.ln Y.lc, .int .i64 Y.fuse, .int .i64 Y.fault, .bool Y.off], .int .i64 out.2]) ?_ rfl ⟨Y, rfl, HYs.out, HYL.out, hbe, HAw.out⟩
  simp [results, Try.results14, go_sem, *]
set_option maxRecDepth 20000 in
set_option maxHeartbeats 2000000 in
theorem does_a (X : FileT) (x : DeedT) (B N : Nat) (w : World) (hL : LieF w B X) (hx : x.Ok w B N) (hB : B ≤ w.heap.size) (hr : X.right = true) (hq : ¬ (whichN x.kind = 3 ∨ whichN x.kind = 4 ∨ whichN x.kind = 5 ∨ whichN x.kind = 6)) :
    Calls Try.prog 14 #[X.agg, .agg #[.int .i64 x.kind, .int .i64 x.n, .int .i64 x.tear, .slice x.bytes.A x.bytes.n x.bytes.c, .slice x.keep.A x.keep.n x.keep.c]] w (OpP X (AwayP x.bytes) (doS X.s X.long x) w) := by
  have hout : doS X.s X.long x = (if x.bytes.n = 0 then (X.s, 2) else X.s.append X.long x.bytes.l) := (if_neg (by omega)).trans ((if_neg (by omega)).trans ((if_neg (by omega)).trans (if_neg (by omega))))
  rw [hout]
  clear hout
  have hb1 := bel_alloc (bel_alloc (bel_alloc (Below.refl w.heap.size w) (.cells #[.slice X.F.A X.F.n X.F.c, .slice X.lA X.ln X.lc, .int .i64 X.fuse, .int .i64 X.fault, .bool X.off] 25)) (.cells #[.int .i64 x.kind, .int .i64 x.n, .int .i64 x.tear, .slice x.bytes.A x.bytes.n x.bytes.c, .slice x.keep.A x.keep.n x.keep.c] 34)) (.cells #[.slice none 0 0, .slice none 0 0, .int .i64 0, .int .i64 0, .bool false] 25)
  have HX := (FBox.new w X 25).later (bel_alloc (bel_alloc (Below.refl _ _) (.cells #[.int .i64 x.kind, .int .i64 x.n, .int .i64 x.tear, .slice x.bytes.A x.bytes.n x.bytes.c, .slice x.keep.A x.keep.n x.keep.c] 34)) (.cells #[.slice none 0 0, .slice none 0 0, .int .i64 0, .int .i64 0, .bool false] 25))
  have HD := (DBox.new (w.alloc (.cells #[.slice X.F.A X.F.n X.F.c, .slice X.lA X.ln X.lc, .int .i64 X.fuse, .int .i64 X.fault, .bool X.off] 25)) x 34).later (bel_alloc (Below.refl _ _) (.cells #[.slice none 0 0, .slice none 0 0, .int .i64 0, .int .i64 0, .bool false] 25))
  have HV := FVar.new ((w.alloc (.cells #[.slice X.F.A X.F.n X.F.c, .slice X.lA X.ln X.lc, .int .i64 X.fuse, .int .i64 X.fault, .bool X.off] 25)).alloc (.cells #[.int .i64 x.kind, .int .i64 x.n, .int .i64 x.tear, .slice x.bytes.A x.bytes.n x.bytes.c, .slice x.keep.A x.keep.n x.keep.c] 34)) (.slice none 0 0) (.slice none 0 0) (.int .i64 0) (.int .i64 0) (.bool false) 25
  rw [World.size_alloc] at HD
  rw [World.size_alloc, World.size_alloc] at HV
  have hsz : (((w.alloc (.cells #[.slice X.F.A X.F.n X.F.c, .slice X.lA X.ln X.lc, .int .i64 X.fuse, .int .i64 X.fault, .bool X.off] 25)).alloc (.cells #[.int .i64 x.kind, .int .i64 x.n, .int .i64 x.tear, .slice x.bytes.A x.bytes.n x.bytes.c, .slice x.keep.A x.keep.n x.keep.c] 34)).alloc (.cells #[.slice none 0 0, .slice none 0 0, .int .i64 0, .int .i64 0, .bool false] 25)).heap.size = w.heap.size + 1 + 1 + 1 := by simp
  have hcall := Lib.hid (fun W (hw : Below w.heap.size w W) => show Calls _ _ _ W (OpP X (AwayP x.bytes) (if x.bytes.n = 0 then (X.s, 2) else X.s.append X.long x.bytes.l) W) from
    have HLw := hL.later (hw.mono hB)
    have HXw := hx.later (hw.mono hB)
    have HBw := Nat.le_trans hB hw.size
    appendF_any X x.bytes B _ HLw HXw.bytes HBw hr)
  generalize hout : ((if x.bytes.n = 0 then (X.s, 2) else X.s.append X.long x.bytes.l) : FileS × Int) = out at *
  clear hout
  have h3 : (((whichN x.kind : Nat) : Int) == 3) = false := by rw [beq_eq_false_iff_ne]; omega
  have h4 : (((whichN x.kind : Nat) : Int) == 4) = false := by rw [beq_eq_false_iff_ne]; omega
  have h5 : (((whichN x.kind : Nat) : Int) == 5) = false := by rw [beq_eq_false_iff_ne]; omega
  have h6 : (((whichN x.kind : Nat) : Int) == 6) = false := by rw [beq_eq_false_iff_ne]; omega
  clear hq
  simp only [FileT.agg, PcT.val] at hcall ⊢
  have HL := Lib.hid hL
  have hwc := fun W => which_any x W
  generalize whichN x.kind = q at *
  obtain ⟨f0, f1, f2, f3, f4⟩ := HX
  obtain ⟨d0, d1, d2, d3, d4⟩ := HD
  have HX := Lib.hid (show FBox _ _ X from ⟨f0, f1, f2, f3, f4⟩)
  have HD := Lib.hid (show DBox _ _ x from ⟨d0, d1, d2, d3, d4⟩)
  have HXb := Lib.hid (hx.bytes.more hB)
  clear hL hx hr
  go_enter Try.func14, Try.ntmps14
  go_wp2_with fail
  generalize ((w.alloc (.cells #[.slice X.F.A X.F.n X.F.c, .slice X.lA X.ln X.lc, .int .i64 X.fuse, .int .i64 X.fault, .bool X.off] 25)).alloc (.cells #[.int .i64 x.kind, .int .i64 x.n, .int .i64 x.tear, .slice x.bytes.A x.bytes.n x.bytes.c, .slice x.keep.A x.keep.n x.keep.c] 34)).alloc (.cells #[.slice none 0 0, .slice none 0 0, .int .i64 0, .int .i64 0, .bool false] 25) = W1 at *
  refine (hwc _).mono ?_
  rintro e W2 ⟨rfl, hb2⟩
  clear f0 f1 f2 f3 f4 d0 d1 d2 d3 d4 hwc
  obtain ⟨f0, f1, f2, f3, f4⟩ := HX.out.later hb2
  obtain ⟨d0, d1, d2, d3, d4⟩ := HD.out.later hb2
  have hb3 := bel_next hb1 hb2
  have hs2 := hb2.size
  have HV2 := Lib.hid (HV.later hb2)
  clear HV hb1 hb2 HX HD
  go_wp2_with fail
  refine (hcall.out _ hb3).mono ?_
  rintro e W3 ⟨Y, rfl, hYs, hYL, hb4, haw⟩
  have hb5 := bel_next hb3 hb4
  have hs3 := hb4.size
  obtain ⟨⟨j0, j1, j2, j3, j4⟩, k0, k1, k2, k3, k4⟩ := HV2.out.later hb4
  have hbe := fbelow_set5 (a := .slice Y.F.A Y.F.n Y.F.c) (b := .slice Y.lA Y.ln Y.lc) (c := .int .i64 Y.fuse) (d := .int .i64 Y.fault) (e := .bool Y.off) hb5 (show w.heap.size ≤ w.heap.size + 1 + 1 by omega)
  have HYs := Lib.hid hYs
  have HAw := Lib.hid (show ∀ k, k < w.heap.size → AwayF X k → AwayP x.bytes k → AwayF Y k from fun k hk h1 h2 => haw k (by omega) h1 h2)
  have HYL := Lib.hid (lie_res (g := w.heap.size + 1 + 1) (a := .slice Y.F.A Y.F.n Y.F.c) (b := .slice Y.lA Y.ln Y.lc) (c := .int .i64 Y.fuse) (d := .int .i64 Y.fault) (e := .bool Y.off) hYL (haw (w.heap.size + 1 + 1) (by omega) ((HL.out.more hB).away (by omega)) (HXb.out.away (by omega))))
  clear hcall hYs hYL haw hsz HV2 hb4 hb5 hb3 HL f0 f1 f2 f3 f4 d0 d1 d2 d3 d4 hs2 hs3
  simp only [FileT.agg, PcT.val]
  go_wp2
  (try rw [Exit.noGoto_ret])
  refine bodyPost_ret (v := .tuple #[.agg #[.slice Y.F.A Y.F.n Y.F.c, .slice Y.lA Y.ln Y.lc, .int .i64 Y.fuse, .int .i64 Y.fault, .bool Y.off], .int .i64 out.2]) ?_ rfl ⟨Y, rfl, HYs.out, HYL.out, hbe, HAw.out⟩
  simp [results, Try.results14, go_sem, *]
theorem does_any (X : FileT) (x : DeedT) (B N : Nat) (w : World) (hL : LieF w B X) (hx : x.Ok w B N) (hB : B ≤ w.heap.size) (hr : X.right = true) :
    Calls Try.prog 14 #[X.agg, .agg #[.int .i64 x.kind, .int .i64 x.n, .int .i64 x.tear, .slice x.bytes.A x.bytes.n x.bytes.c, .slice x.keep.A x.keep.n x.keep.c]] w (OpP X (AwayP x.bytes) (doS X.s X.long x) w) := by
  by_cases h3 : whichN x.kind = 3
  · exact does_3 X x B N w hL hx hB hr h3
  · by_cases h4 : whichN x.kind = 4
    · exact does_4 X x B N w hL hx hB hr h4
    · by_cases h5 : whichN x.kind = 5
      · exact does_5 X x B N w hL hx hB hr h5
      · by_cases h6 : whichN x.kind = 6
        · exact does_6 X x B N w hL hx hB hr h6
        · exact does_a X x B N w hL hx hB hr (by omega)
end Go.Proofs.Ythoenmggjbojoaa
/-
  Layer 10, plain: right files stay right, whatever is done; durable bytes stay. A file in a variable.
-/
namespace Go.Proofs.Ythoenmggjbojoaa
open Go.RowKit
set_option linter.unusedVariables false

def FileS.right (S : FileS) : Bool := S.loose.all (fun l => !(l.length == 0)) && (decide (-1 ≤ S.fuse) && (decide (-1 ≤ S.fault) && ((!S.off || S.fuse == -1) && decide (S.all.length ≤ 524288))))
theorem rightS {S : FileS} : S.right = true ↔ (∀ l ∈ S.loose, l ≠ []) ∧ -1 ≤ S.fuse ∧ -1 ≤ S.fault ∧ (S.off = true → S.fuse = -1) ∧ S.all.length ≤ 524288 := by
  unfold FileS.right
  simp only [Bool.and_eq_true, decide_eq_true_eq, List.all_eq_true, Bool.or_eq_true, Bool.not_eq_true', beq_iff_eq, beq_eq_false_iff_ne]
  constructor
  · rintro ⟨h1, h2, h3, h4, h5⟩
    refine ⟨fun l hl e => h1 l hl (by rw [e]; rfl), h2, h3, fun ho => ?_, h5⟩
    rcases h4 with h4 | h4
    · rw [ho] at h4; cases h4
    · exact h4
  · rintro ⟨h1, h2, h3, h4, h5⟩
    refine ⟨fun l hl e => h1 l hl (List.eq_nil_of_length_eq_zero e), h2, h3, ?_, h5⟩
    cases ho : S.off
    · exact .inl rfl
    · exact .inr (h4 ho)
theorem right_s {w : World} {B : Nat} {X : FileT} (h : LieF w B X) : X.right = X.s.right := by
  have hall : X.s.all = X.all := all_s X
  have e : X.all.length = X.F.n + sumN X.L := by unfold FileT.all; rw [List.length_append, h.firm.len, sumN_len h.loose]
  obtain ⟨h1, h2⟩ := lenGo_is X.L X.F.n
  unfold FileT.right FileS.right
  rw [hall, show decide (X.long ≤ 524288) = decide (X.all.length ≤ 524288) from by
    apply decide_eq_decide.2
    unfold FileT.long
    by_cases hs : X.F.n + sumN X.L ≤ 524288
    · rw [h1 hs, e]
    · have := h2 (by omega); omega]
  congr 1
  show X.L.all (fun p => !(p.n == 0)) = (X.L.map (·.l)).all (fun l => !(l.length == 0))
  rw [List.all_map, Bool.eq_iff_iff, List.all_eq_true, List.all_eq_true]
  constructor
  · intro q p hp
    have := q p hp
    rw [← (h.loose p hp).len] at this
    exact this
  · intro q p hp
    have := q p hp
    rw [← (h.loose p hp).len]
    exact this
theorem long_s {w : World} {B : Nat} {X : FileT} (h : LieF w B X) (hr : X.right = true) : X.long = X.s.all.length := by rw [all_s]; exact (right_all h hr).1
theorem all_len (S : FileS) : S.all.length = S.firm.length + S.loose.flatten.length := by unfold FileS.all; exact List.length_append
theorem asked_right {S : FileS} (h : S.right = true) (more : Nat) : (S.asked S.all.length more).1.right = true := by
  obtain ⟨h1, h2, h3, h4, h5⟩ := rightS.1 h
  have h6 : (S.asked S.all.length more).1.all = S.all := by
    obtain ⟨e1, e2⟩ := asked_same S S.all.length more
    generalize S.asked S.all.length more = q at *
    unfold FileS.all
    rw [e1, e2]
  have h7 := asked_same S S.all.length more
  refine rightS.2 ⟨by rw [h7.2]; exact h1, ?_, ?_, ?_, by rw [h6]; exact h5⟩
  all_goals
    unfold FileS.asked
    split
    · assumption
    · split
      · assumption
      · split
        · first | assumption | exact Int.le_refl _
        · dsimp only
          split
          · first | exact Int.le_refl _ | (intro _; rfl) | (show -1 ≤ (if 0 < S.fault then S.fault - 1 else S.fault); split <;> omega)
          · first | (show -1 ≤ (if 0 < S.fault then S.fault - 1 else S.fault); split <;> omega) | (show -1 ≤ (if 0 < S.fuse then S.fuse - 1 else S.fuse); split <;> omega) | (intro ho; have := h4 ho; omega) | (intro ho; exact absurd ho (by assumption))
theorem asked_fits {S : FileS} {long more : Nat} (h : (S.asked long more).2 = 0) : long + more ≤ 524288 := by
  unfold FileS.asked at h
  split at h
  · cases h
  · split at h
    · cases h
    · omega
theorem append_right {S : FileS} (h : S.right = true) {b : List UInt8} (hb : b ≠ []) : (S.append S.all.length b).1.right = true := by
  have ha := asked_right h b.length
  unfold FileS.append
  split
  · rename_i h0
    obtain ⟨h1, h2, h3, h4, h5⟩ := rightS.1 ha
    have h7 := asked_same S S.all.length b.length
    have hf := asked_fits h0
    refine rightS.2 ⟨?_, h2, h3, h4, ?_⟩
    · intro l hl
      rcases List.mem_append.1 hl with hl | hl
      · rw [← h7.2] at hl; exact h1 l hl
      · obtain rfl := List.mem_singleton.1 hl
        exact hb
    · generalize S.asked S.all.length b.length = q at *
      rw [all_len] at hf
      show (q.1.firm ++ (S.loose ++ [b]).flatten).length ≤ 524288
      rw [h7.1, List.flatten_append, List.length_append, List.length_append]
      simp only [List.flatten_cons, List.flatten_nil, List.append_nil]
      omega
  · exact ha
theorem sync_right {S : FileS} (h : S.right = true) : (S.sync S.all.length).1.right = true := by
  have ha := asked_right h 0
  have h5' := (rightS.1 h).2.2.2.2
  unfold FileS.sync
  split
  · obtain ⟨h1, h2, h3, h4, h5⟩ := rightS.1 ha
    refine rightS.2 ⟨fun l hl => (List.not_mem_nil hl).elim, h2, h3, h4, ?_⟩
    show (S.all ++ ([] : List (List UInt8)).flatten).length ≤ 524288
    rw [List.flatten_nil, List.append_nil]
    exact h5'
  · exact ha
theorem crashGo_len (keep : List Bool) (tear cut : Int) : ∀ (L : List (List UInt8)) (i a : Nat) (f : List UInt8), f.length ≤ a → f <+: crashGo keep tear cut L i a f ∧ (crashGo keep tear cut L i a f).length ≤ a + L.flatten.length
  | [], i, a, f, h => by simp [crashGo]; exact h
  | l :: L, i, a, f, h => by
    have hs := survN_le l i keep tear cut
    unfold crashGo
    rw [List.flatten_cons, List.length_append]
    by_cases h0 : 0 < survN l i keep tear cut
    · rw [if_pos h0]
      have hl : (f ++ zerosU (a - f.length) ++ l.take (survN l i keep tear cut)).length ≤ a + l.length := by
        rw [List.length_append, List.length_append, zerosU_len, List.length_take]
        omega
      obtain ⟨h1, h2⟩ := crashGo_len keep tear cut L (i + 1) (a + l.length) _ hl
      refine ⟨?_, by omega⟩
      rw [List.append_assoc] at h1
      exact (List.prefix_append _ _).trans (by rw [List.append_assoc]; exact h1)
    · rw [if_neg h0]
      obtain ⟨h1, h2⟩ := crashGo_len keep tear cut L (i + 1) (a + l.length) f (by omega)
      exact ⟨h1, by omega⟩
theorem crash_right {S : FileS} (h : S.right = true) (keep : List Bool) (tear cut : Int) : (S.crash keep tear cut).right = true := by
  have h5 := (rightS.1 h).2.2.2.2
  rw [all_len] at h5
  refine rightS.2 ⟨fun l hl => (List.not_mem_nil hl).elim, Int.le_refl _, Int.le_refl _, fun h => (by cases h), ?_⟩
  show (crashGo keep tear cut S.loose 0 S.firm.length S.firm ++ ([] : List (List UInt8)).flatten).length ≤ 524288
  rw [List.flatten_nil, List.append_nil]
  have := (crashGo_len keep tear cut S.loose 0 S.firm.length S.firm (Nat.le_refl _)).2
  omega
theorem doS_right {S : FileS} (h : S.right = true) (x : DeedT) (hb : x.bytes.l.length = x.bytes.n) : (doS S S.all.length x).1.right = true := by
  obtain ⟨h1, h2, h3, h4, h5⟩ := rightS.1 h
  unfold doS
  split
  · exact sync_right h
  · split
    · split
      · exact h
      · exact rightS.2 ⟨h1, by show -1 ≤ max x.n (-1); omega, h3, fun h => (by cases h), h5⟩
    · split
      · split
        · exact h
        · exact rightS.2 ⟨h1, h2, by show -1 ≤ max x.n (-1); omega, fun h => (by cases h), h5⟩
      · split
        · exact crash_right h _ _ _
        · split
          · exact h
          · exact append_right h (fun e => by rw [e] at hb; simp at hb; omega)
theorem asked_errs (S : FileS) (long more : Nat) : (S.asked long more).2 = 0 ∨ (S.asked long more).2 = 8 ∨ (S.asked long more).2 = 9 ∨ (S.asked long more).2 = 10 := by
  unfold FileS.asked
  split
  · exact .inr (.inr (.inr rfl))
  · split
    · exact .inr (.inl rfl)
    · split
      · exact .inr (.inr (.inl rfl))
      · dsimp only
        split
        · exact .inr (.inr (.inr rfl))
        · exact .inl rfl
theorem n200 {k : Int} (h : (k == 200) = false) : k ≠ 200 := beq_eq_false_iff_ne.1 h
/-- Durable bytes stay; an operation is refused as an invalid argument only if it is an Append of nothing. -/
theorem doS_stays (S : FileS) (long : Nat) (x : DeedT) : S.firm <+: (doS S long x).1.firm ∧ ((doS S long x).2 ≠ 200) ∧ ((doS S long x).2 = 2 → whichN x.kind < 3 ∧ x.bytes.n = 0) := by
  have hq := (which_is x.kind).2
  have ha : ∀ more, S.firm <+: (S.asked long more).1.firm ∧ (S.asked long more).2 ≠ 200 ∧ (S.asked long more).2 ≠ 2 := fun more => by
    refine ⟨by rw [(asked_same S long more).1]; exact List.prefix_refl _, ?_, ?_⟩
    · rcases asked_errs S long more with h | h | h | h <;> rw [h] <;> decide
    · rcases asked_errs S long more with h | h | h | h <;> rw [h] <;> decide
  unfold doS
  split
  · unfold FileS.sync
    split
    · exact ⟨by show S.firm <+: S.all; unfold FileS.all; exact List.prefix_append _ _, n200 rfl, fun h => by cases h⟩
    · exact ⟨(ha 0).1, (ha 0).2.1, fun h => absurd h (ha 0).2.2⟩
  · split
    · split
      · exact ⟨List.prefix_refl _, n200 rfl, fun h => by cases h⟩
      · exact ⟨List.prefix_refl _, n200 rfl, fun h => by cases h⟩
    · split
      · split
        · exact ⟨List.prefix_refl _, n200 rfl, fun h => by cases h⟩
        · exact ⟨List.prefix_refl _, n200 rfl, fun h => by cases h⟩
      · split
        · exact ⟨(crashGo_len _ _ _ _ _ _ _ (Nat.le_refl _)).1, n200 rfl, fun h => by cases h⟩
        · split
          · exact ⟨List.prefix_refl _, n200 rfl, fun _ => ⟨by omega, by assumption⟩⟩
          · unfold FileS.append
            split
            · exact ⟨by rw [(asked_same S long _).1]; exact List.prefix_refl _, n200 rfl, fun h => by cases h⟩
            · exact ⟨(ha _).1, (ha _).2.1, fun h => absurd h (ha _).2.2⟩
/-- A file in a variable. -/
structure FAt (W : World) (g : Nat) (X : FileT) : Prop where
  v : FVar W g (.slice X.F.A X.F.n X.F.c) (.slice X.lA X.ln X.lc) (.int .i64 X.fuse) (.int .i64 X.fault) (.bool X.off)
  l : LieF W W.heap.size X
  a : AwayF X g
theorem FAt.new {w : World} {X : FileT} (h : LieF w w.heap.size X) (t : TypeId) : FAt (w.alloc (.cells #[.slice X.F.A X.F.n X.F.c, .slice X.lA X.ln X.lc, .int .i64 X.fuse, .int .i64 X.fault, .bool X.off] t)) w.heap.size X :=
  ⟨FVar.new _ _ _ _ _ _ _, (h.later ((Below.refl _ _).alloc (Nat.le_refl _) _)).more (by simp), h.away (Nat.le_refl _)⟩
theorem FAt.later {W W' : World} {g : Nat} {X : FileT} (h : FAt W g X) (hb : Below W.heap.size W W') : FAt W' g X := ⟨h.v.later hb, (h.l.later hb).more hb.size, h.a⟩
theorem FVar.set5 {W : World} {g : Nat} {a b c d e a' b' c' d' e' : Value} (h : FVar W g a b c d e) : FVar (set5F W g a' b' c' d' e') g a' b' c' d' e' :=
  ((((h.set0 a').set1 b').set2 c').set3 d').set4 e'
theorem FAt.set {W : World} {g : Nat} {a b c d e : Value} {Y : FileT} (h : FVar W g a b c d e) (hl : LieF W W.heap.size Y) (ha : AwayF Y g) :
    FAt (set5F W g (.slice Y.F.A Y.F.n Y.F.c) (.slice Y.lA Y.ln Y.lc) (.int .i64 Y.fuse) (.int .i64 Y.fault) (.bool Y.off)) g Y :=
  ⟨h.set5, lie_res hl ha, ha⟩
end Go.Proofs.Ythoenmggjbojoaa
namespace Go.Proofs.Ythoenmggjbojoaa
open Go.RowKit

def sameB (l1 l2 : List UInt8) : Bool := decide (l1 = l2)

set_option maxRecDepth 20000 in
set_option maxHeartbeats 1000000 in
theorem equal_any (A1 A2 : Option Addr) (n1 c1 n2 c2 : Nat) (l1 l2 : List UInt8) (B1 B2 : Nat) (w : World) (h1 : Bytes w B1 A1 n1 l1) (h2 : Bytes w B2 A2 n2 l2) (hm1 : n1 ≤ maxLen) (hm2 : n2 ≤ maxLen) :
    Calls Try.prog 31 #[.slice A1 n1 c1, .slice A2 n2 c2] w fun e w' => e = .returned (.bool (sameB l1 l2)) ∧ ∃ k, w' = w.drewN k := by
  unfold maxLen at hm1 hm2
  by_cases hn : n1 = n2
  · subst hn
    go_enter Try.func31, Try.ntmps31
    go_wp2
    go_loopw [13] (fun i wr => ∃ k : Nat, k ≤ n1 ∧ i = .int .i64 k ∧ l1.take k = l2.take k ∧ ∃ m, wr = w.drewN m) (fun i _ => n1 - (intOf i).toNat)
    case atStart => exact ⟨0, Nat.zero_le _, rfl, rfl, 0, rfl⟩
    case round =>
      obtain ⟨k, hk, rfl, ht, m, rfl⟩ := hrel
      by_cases hlt : k < n1
      · obtain ⟨b1, o1, rfl, _, hc1⟩ := h1.cell hlt
        obtain ⟨b2, o2, rfl, _, hc2⟩ := h2.cell hlt
        have hl1 : k < l1.length := by have := h1.len; omega
        have hl2 : k < l2.length := by have := h2.len; omega
        have t1 : l1.take (k + 1) = l1.take k ++ [l1.getD k 0] := take_snoc l1 k hl1
        have t2 : l2.take (k + 1) = l2.take k ++ [l2.getD k 0] := take_snoc l2 k hl2
        have g1 := at8_lo l1 k
        have g2 := at8_hi l1 k
        have g3 := at8_lo l2 k
        have g4 := at8_hi l2 k
        by_cases hx : at8 l1 k = at8 l2 k
        · have hb : (at8 l1 k != at8 l2 k) = false := by rw [hx]; simp
          have ht' := Lib.hid (show l1.take (k + 1) = l2.take (k + 1) by rw [t1, t2, ht, at8_inj hx])
          clear ht hx t1 t2
          go_wp2
          go_quiet (fail)
          go_wp2
          go_roundw
          case rel => exact ⟨k + 1, by omega, by go_num, ht'.out, _, rfl⟩
          case measure => simp [intOf]; omega
        · have hb : (at8 l1 k != at8 l2 k) = true := bne_iff_ne.2 hx
          have hs := Lib.hid (show sameB l1 l2 = false by
            unfold sameB
            apply decide_eq_false
            intro h
            exact hx (by rw [h]))
          clear ht hx t1 t2
          go_wp2
          go_quiet (fail)
          go_wp2
          go_ret
          exact ⟨by rw [hs.out]; rfl, _, World.drewN_drewN _ _ _⟩
      · have hk' : k = n1 := by omega
        have hs := Lib.hid (show sameB l1 l2 = true by
          unfold sameB
          apply decide_eq_true
          have e1 := h1.len
          have e2 := h2.len
          rw [hk', List.take_of_length_le (by omega), List.take_of_length_le (by omega)] at ht
          exact ht)
        clear hk' ht
        go_wp2
        go_ret
        exact ⟨by rw [hs.out]; rfl, _, rfl⟩
  · have hne : ((n1 : Int) != (n2 : Int)) = true := by rw [bne_iff_ne]; omega
    have hl1 := h1.len
    have hl2 := h2.len
    have hs : sameB l1 l2 = false := by
      unfold sameB
      apply decide_eq_false
      intro h
      subst h
      omega
    rw [hs]
    clear hl1 hl2 hs
    go_enter Try.func31, Try.ntmps31
    go_wp2
    go_ret
    exact ⟨rfl, 0, rfl⟩
end Go.Proofs.Ythoenmggjbojoaa
/-
  Strings: a list of bytes as a string; '[]byte' made a string. No program in sight.
-/
namespace Go.Proofs.Ythoenmggjbojoaa
open Go.RowKit

/-- A list of bytes as a string. -/
def ofL (l : List UInt8) : ByteArray := ⟨l.toArray⟩
theorem ofL_toList (l : List UInt8) : (ofL l).data.toList = l := by simp [ofL]
theorem ofL_size (l : List UInt8) : (ofL l).size = l.length := by simp [ofL, ByteArray.size]
theorem ofL_of (s : ByteArray) : ofL s.data.toList = s := by
  cases s
  simp [ofL]
theorem ofL_inj {l m : List UInt8} (h : ofL l = ofL m) : l = m := by
  have := congrArg (fun s : ByteArray => s.data.toList) h
  simpa [ofL_toList] using this
theorem ofL_push (l : List UInt8) (c : UInt8) : (ofL l).push c = ofL (l ++ [c]) := by
  simp [ofL, ByteArray.push]
theorem foldl_push : ∀ (l r : List UInt8), (l.map fun c => (c.toNat : Int)).foldl (fun r n => r.push (UInt8.ofNat n.toNat)) (ofL r) = ofL (r ++ l)
  | [], r => by simp
  | c :: l, r => by
    simp only [List.map_cons, List.foldl_cons]
    rw [show UInt8.ofNat ((c.toNat : Int)).toNat = c by simp, ofL_push, foldl_push l]
    simp

theorem run_bytes_string {P : Program} {src dst e : TypeId} (hs : P.underlying src = some (.slice e)) (he : P.underlying e = some (.int .u8)) (hd : P.underlying dst = some .string)
    (w : World) (A : Option Addr) (n c B : Nat) (l : List UInt8) (h : Bytes w B A n l) : (convert src dst (.slice A n c)).run P w = .ok (.string (ofL l)) w := by
  rw [run_convert_bytes_string w src dst e A n c hs he hd]
  have hn := h.len
  rcases A with _ | a
  · have hz : l = [] := by
      rcases Nat.eq_zero_or_pos n with h0 | h0
      · exact List.eq_nil_of_length_eq_zero (by omega)
      · obtain ⟨_, _, e1, _⟩ := h.2 h0
        cases e1
    subst hz
    rfl
  · have hc : ∀ j v, (l.map bv)[j]? = some v → w.cell? (a.add j) = some v := by
      intro j v hj
      have h0 : 0 < n := by
        rcases Nat.eq_zero_or_pos n with h0 | h0
        · have : l = [] := List.eq_nil_of_length_eq_zero (by omega)
          subst this
          simp at hj
        · exact h0
      obtain ⟨b, off, e1, _, h2⟩ := h.2 h0
      injection e1 with e1
      subst e1
      rw [addr_add]
      exact h2 j v hj
    have hl := run_loadCells_list (P := P) (w := w) a (l.map bv) hc
    rw [List.length_map, hn] at hl
    have h2 := run_bytesToString (P := P) w a n c (l.map fun c => (c.toNat : Int)) (by rw [hl, List.map_map]; rfl)
    rw [h2]
    have h3 := foldl_push l []
    rw [show (ByteArray.empty) = ofL [] from rfl, h3]
    rfl
end Go.Proofs.Ythoenmggjbojoaa
/-
  bytes.Equal, bytes.HasPrefix.
-/
namespace Go.Proofs.Ythoenmggjbojoaa
open Go.RowKit

theorem bofL_beq (l m : List UInt8) : ((ofL l).toList == (ofL m).toList) = sameB l m := by
  unfold sameB
  rw [ByteArray.toList_eq, ByteArray.toList_eq, ofL_toList, ofL_toList, Bool.eq_iff_iff, beq_iff_eq, decide_eq_true_iff]
set_option maxRecDepth 20000 in
set_option maxHeartbeats 1000000 in
theorem bequal_any (A1 A2 : Option Addr) (n1 c1 n2 c2 : Nat) (l1 l2 : List UInt8) (B1 B2 : Nat) (w : World) (h1 : Bytes w B1 A1 n1 l1) (h2 : Bytes w B2 A2 n2 l2) (b : Bool) (hb : sameB l1 l2 = b) :
    Calls Try.prog 22 #[.slice A1 n1 c1, .slice A2 n2 c2] w fun e w' => e = .returned (.bool b) ∧ w = w' := by
  have k1 := run_bytes_string (P := Try.prog) Try.underlying22 Try.underlying5 Try.underlying9 w A1 n1 c1 B1 l1 h1
  have k2 := run_bytes_string (P := Try.prog) Try.underlying22 Try.underlying5 Try.underlying9 w A2 n2 c2 B2 l2 h2
  have hbe : ((ofL l1).toList == (ofL l2).toList) = b := (bofL_beq l1 l2).trans hb
  generalize ofL l1 = s1 at *
  generalize ofL l2 = s2 at *
  clear h1 h2 hb
  go_enter Try.func22, Try.ntmps22
  go_wp2
  go_ret
  exact ⟨rfl, rfl⟩
set_option maxRecDepth 20000 in
set_option maxHeartbeats 1000000 in
theorem hasPrefix_any (A1 A2 : Option Addr) (n1 c1 n2 c2 : Nat) (l1 l2 : List UInt8) (B1 B2 : Nat) (w : World) (h1 : Bytes w B1 A1 n1 l1) (h2 : Bytes w B2 A2 n2 l2) (hc : n1 ≤ c1) (b : Bool) (hb : (decide (n2 ≤ n1) && sameB (l1.take n2) l2) = b) :
    Calls Try.prog 24 #[.slice A1 n1 c1, .slice A2 n2 c2] w fun e w' => e = .returned (.bool b) ∧ w = w' := by
  by_cases hle : n2 ≤ n1
  · rw [decide_eq_true hle, Bool.true_and] at hb
    have he := bequal_any A1 A2 n2 c1 n2 c2 (l1.take n2) l2 B1 B2 w (h1.first hle) h2 b hb
    have i0 : (0 : Int) ≤ (n2 : Int) := by omega
    have i1 : (n2 : Int) ≤ (c1 : Int) := by omega
    have i2 : ((n2 : Int) ≤ (n1 : Int)) = True := by simp; omega
    clear hle h1 h2 hb hc
    go_enter Try.func24, Try.ntmps24
    go_wp2_with fail
    refine he.mono ?_
    rintro e w' ⟨rfl, rfl⟩
    clear he
    go_wp2
    all_goals
      go_ret
      exact ⟨rfl, rfl⟩
  · rw [decide_eq_false hle, Bool.false_and] at hb
    subst hb
    have i2 : ((n2 : Int) ≤ (n1 : Int)) = False := by simp; omega
    clear hle h1 h2 hc
    go_enter Try.func24, Try.ntmps24
    go_wp2
    all_goals
      go_ret
      exact ⟨rfl, rfl⟩
theorem prefix_yes {l1 l2 : List UInt8} {n1 n2 : Nat} (h1 : l1.length = n1) (h2 : l2.length = n2) (h : l2 <+: l1) : (decide (n2 ≤ n1) && sameB (l1.take n2) l2) = true := by
  have hl := h.length_le
  unfold sameB
  rw [decide_eq_true (by omega), decide_eq_true (by rw [← h2]; exact (List.prefix_iff_eq_take.1 h).symm)]
  rfl
end Go.Proofs.Ythoenmggjbojoaa
