/-
  Layer 10: which deed it is; few of them; a deed done.
-/
import Derived.Test.YthoenmggjbojoaaFilAJ
import Derived.Test.YthoenmggjbojoaaFilAD
namespace Go.Proofs.Ythoenmggjbojoaa
open Go.RowKit
set_option linter.unusedVariables false

def whichN (k : Int) : Nat := ((IntKind.u64.wrap k).tmod 7).toNat
theorem which_is (k : Int) : wrap64 ((IntKind.u64.wrap k).tmod 7) = (whichN k : Nat) ∧ whichN k < 7 := by
  have h0 : 0 ≤ IntKind.u64.wrap k := by rw [IntKind.wrap_u64]; exact Int.emod_nonneg _ (by decide)
  have h1 := Int.tmod_nonneg 7 h0
  have h2 := Int.tmod_lt_of_pos (IntKind.u64.wrap k) (show (0 : Int) < 7 by decide)
  unfold whichN
  generalize (IntKind.u64.wrap k).tmod 7 = z at *
  refine ⟨?_, by omega⟩
  unfold wrap64
  omega
set_option maxRecDepth 20000 in
theorem which_any (x : DeedT) (w : World) :
    Calls Try.prog 23 #[.agg #[.int .i64 x.kind, .int .i64 x.n, .int .i64 x.tear, .slice x.bytes.A x.bytes.n x.bytes.c, .slice x.keep.A x.keep.n x.keep.c]] w fun e w' => e = .returned (.int .i64 (whichN x.kind : Nat)) ∧ Below w.heap.size w w' := by
  have HW := Lib.hid (which_is x.kind).1
  go_enter Try.func23, Try.ntmps23
  go_wp2
  all_goals
    go_ret
    exact ⟨by rw [← HW.out]; rfl, bel_alloc (Below.refl _ _) _⟩
theorem few_any (A : Option Addr) (n c : Nat) (w : World) (hn : n ≤ c) (hc : c ≤ maxLen) :
    Calls Try.prog 13 #[.slice A n c] w fun e w' => e = .returned (.slice A (min n 40) c) ∧ w = w' := by
  unfold maxLen at hc
  have e1 : (if (40 : Int) < (n : Int) then 40 else (n : Int)) = ((min n 40 : Nat) : Int) := by split <;> omega
  have e2 : (if (n : Int) < 40 then (n : Int) else 40) = ((min n 40 : Nat) : Int) := by split <;> omega
  have e3 : min (n : Int) 40 = ((min n 40 : Nat) : Int) := by omega
  have i1 : ((min n 40 : Nat) : Int) ≤ (c : Int) := by omega
  have i0 : (0 : Int) ≤ ((min n 40 : Nat) : Int) := by omega
  generalize min n 40 = m at *
  go_enter Try.func13, Try.ntmps13
  go_wp2
  all_goals
    go_ret
    exact ⟨rfl, rfl⟩
/-- What a deed comes to. -/
def doS (X : FileS) (long : Nat) (x : DeedT) : FileS × Int :=
  if whichN x.kind = 3 then X.sync long
  else if whichN x.kind = 4 then (if X.off = true then (X, 10) else (⟨X.firm, X.loose, max x.n (-1), X.fault, false⟩, 0))
  else if whichN x.kind = 5 then (if X.off = true then (X, 10) else (⟨X.firm, X.loose, X.fuse, max x.n (-1), false⟩, 0))
  else if whichN x.kind = 6 then (X.crash x.keep.l x.tear x.n, 0)
  else if x.bytes.n = 0 then (X, 2) else X.append long x.bytes.l
/-- A deed in a box of its own. -/
def DBox (W : World) (g : Nat) (x : DeedT) : Prop :=
  W.cell? ⟨g, 0, none⟩ = some (.int .i64 x.kind) ∧ W.cell? ⟨g, 1, none⟩ = some (.int .i64 x.n) ∧ W.cell? ⟨g, 2, none⟩ = some (.int .i64 x.tear) ∧ W.cell? ⟨g, 3, none⟩ = some (.slice x.bytes.A x.bytes.n x.bytes.c) ∧ W.cell? ⟨g, 4, none⟩ = some (.slice x.keep.A x.keep.n x.keep.c)
theorem DBox.later {W W' : World} {g : Nat} {x : DeedT} (h : DBox W g x) (hb : Below W.heap.size W W') : DBox W' g x :=
  ⟨kept_later hb h.1, kept_later hb h.2.1, kept_later hb h.2.2.1, kept_later hb h.2.2.2.1, kept_later hb h.2.2.2.2⟩
theorem DBox.new (w : World) (x : DeedT) (t : TypeId) : DBox (w.alloc (.cells #[.int .i64 x.kind, .int .i64 x.n, .int .i64 x.tear, .slice x.bytes.A x.bytes.n x.bytes.c, .slice x.keep.A x.keep.n x.keep.c] t)) w.heap.size x :=
  ⟨by simp [go_sem], by simp [go_sem], by simp [go_sem], by simp [go_sem], by simp [go_sem]⟩
set_option maxRecDepth 20000 in
set_option maxHeartbeats 2000000 in
theorem does_3 (X : FileT) (x : DeedT) (B N : Nat) (w : World) (hL : LieF w B X) (hx : x.Ok w B N) (hB : B ≤ w.heap.size) (hr : X.right = true) (hq : whichN x.kind = 3) :
    Calls Try.prog 14 #[X.agg, .agg #[.int .i64 x.kind, .int .i64 x.n, .int .i64 x.tear, .slice x.bytes.A x.bytes.n x.bytes.c, .slice x.keep.A x.keep.n x.keep.c]] w (OpP X (AwayP x.bytes) (doS X.s X.long x) w) := by
  have hout : doS X.s X.long x = (X.s.sync X.long) := if_pos hq
  rw [hout]
  clear hout
  have hb1 := bel_alloc (bel_alloc (bel_alloc (Below.refl w.heap.size w) (.cells #[.slice X.F.A X.F.n X.F.c, .slice X.lA X.ln X.lc, .int .i64 X.fuse, .int .i64 X.fault, .bool X.off] 25)) (.cells #[.int .i64 x.kind, .int .i64 x.n, .int .i64 x.tear, .slice x.bytes.A x.bytes.n x.bytes.c, .slice x.keep.A x.keep.n x.keep.c] 34)) (.cells #[.slice none 0 0, .slice none 0 0, .int .i64 0, .int .i64 0, .bool false] 25)
  have HX := (FBox.new w X 25).later (bel_alloc (bel_alloc (Below.refl _ _) (.cells #[.int .i64 x.kind, .int .i64 x.n, .int .i64 x.tear, .slice x.bytes.A x.bytes.n x.bytes.c, .slice x.keep.A x.keep.n x.keep.c] 34)) (.cells #[.slice none 0 0, .slice none 0 0, .int .i64 0, .int .i64 0, .bool false] 25))
  have HD := (DBox.new (w.alloc (.cells #[.slice X.F.A X.F.n X.F.c, .slice X.lA X.ln X.lc, .int .i64 X.fuse, .int .i64 X.fault, .bool X.off] 25)) x 34).later (bel_alloc (Below.refl _ _) (.cells #[.slice none 0 0, .slice none 0 0, .int .i64 0, .int .i64 0, .bool false] 25))
  have HV := FVar.new ((w.alloc (.cells #[.slice X.F.A X.F.n X.F.c, .slice X.lA X.ln X.lc, .int .i64 X.fuse, .int .i64 X.fault, .bool X.off] 25)).alloc (.cells #[.int .i64 x.kind, .int .i64 x.n, .int .i64 x.tear, .slice x.bytes.A x.bytes.n x.bytes.c, .slice x.keep.A x.keep.n x.keep.c] 34)) (.slice none 0 0) (.slice none 0 0) (.int .i64 0) (.int .i64 0) (.bool false) 25
  rw [World.size_alloc] at HD
  rw [World.size_alloc, World.size_alloc] at HV
  have hsz : (((w.alloc (.cells #[.slice X.F.A X.F.n X.F.c, .slice X.lA X.ln X.lc, .int .i64 X.fuse, .int .i64 X.fault, .bool X.off] 25)).alloc (.cells #[.int .i64 x.kind, .int .i64 x.n, .int .i64 x.tear, .slice x.bytes.A x.bytes.n x.bytes.c, .slice x.keep.A x.keep.n x.keep.c] 34)).alloc (.cells #[.slice none 0 0, .slice none 0 0, .int .i64 0, .int .i64 0, .bool false] 25)).heap.size = w.heap.size + 1 + 1 + 1 := by simp
  have hcall := Lib.hid (fun W (hw : Below w.heap.size w W) => show Calls _ _ _ W (OpP X (fun _ => True) (X.s.sync X.long) W) from
    have HLw := hL.later (hw.mono hB)
    have HXw := hx.later (hw.mono hB)
    have HBw := Nat.le_trans hB hw.size
    syncF_any X B _ HLw HBw hr)
  generalize hout : ((X.s.sync X.long) : FileS × Int) = out at *
  clear hout
  have h3 : (((whichN x.kind : Nat) : Int) == 3) = true := by rw [beq_iff_eq]; omega
  have h4 : (((whichN x.kind : Nat) : Int) == 4) = false := by rw [beq_eq_false_iff_ne]; omega
  have h5 : (((whichN x.kind : Nat) : Int) == 5) = false := by rw [beq_eq_false_iff_ne]; omega
  have h6 : (((whichN x.kind : Nat) : Int) == 6) = false := by rw [beq_eq_false_iff_ne]; omega
  clear hq
  simp only [FileT.agg, PcT.val] at hcall ⊢
  have HL := Lib.hid hL
  have hwc := fun W => which_any x W
  generalize whichN x.kind = q at *
  obtain ⟨f0, f1, f2, f3, f4⟩ := HX
  obtain ⟨d0, d1, d2, d3, d4⟩ := HD
  have HX := Lib.hid (show FBox _ _ X from ⟨f0, f1, f2, f3, f4⟩)
  have HD := Lib.hid (show DBox _ _ x from ⟨d0, d1, d2, d3, d4⟩)
  clear hL hx hr
  go_enter Try.func14, Try.ntmps14
  go_wp2_with fail
  generalize ((w.alloc (.cells #[.slice X.F.A X.F.n X.F.c, .slice X.lA X.ln X.lc, .int .i64 X.fuse, .int .i64 X.fault, .bool X.off] 25)).alloc (.cells #[.int .i64 x.kind, .int .i64 x.n, .int .i64 x.tear, .slice x.bytes.A x.bytes.n x.bytes.c, .slice x.keep.A x.keep.n x.keep.c] 34)).alloc (.cells #[.slice none 0 0, .slice none 0 0, .int .i64 0, .int .i64 0, .bool false] 25) = W1 at *
  refine (hwc _).mono ?_
  rintro e W2 ⟨rfl, hb2⟩
  clear f0 f1 f2 f3 f4 d0 d1 d2 d3 d4 hwc
  obtain ⟨f0, f1, f2, f3, f4⟩ := HX.out.later hb2
  obtain ⟨d0, d1, d2, d3, d4⟩ := HD.out.later hb2
  have hb3 := bel_next hb1 hb2
  have hs2 := hb2.size
  have HV2 := Lib.hid (HV.later hb2)
  clear HV hb1 hb2 HX HD
  go_wp2_with fail
  refine (hcall.out _ hb3).mono ?_
  rintro e W3 ⟨Y, rfl, hYs, hYL, hb4, haw⟩
  have hb5 := bel_next hb3 hb4
  have hs3 := hb4.size
  obtain ⟨⟨j0, j1, j2, j3, j4⟩, k0, k1, k2, k3, k4⟩ := HV2.out.later hb4
  have hbe := fbelow_set5 (a := .slice Y.F.A Y.F.n Y.F.c) (b := .slice Y.lA Y.ln Y.lc) (c := .int .i64 Y.fuse) (d := .int .i64 Y.fault) (e := .bool Y.off) hb5 (show w.heap.size ≤ w.heap.size + 1 + 1 by omega)
  have HYs := Lib.hid hYs
  have HAw := Lib.hid (show ∀ k, k < w.heap.size → AwayF X k → AwayP x.bytes k → AwayF Y k from fun k hk h1 h2 => haw k (by omega) h1 trivial)
  have HYL := Lib.hid (lie_res (g := w.heap.size + 1 + 1) (a := .slice Y.F.A Y.F.n Y.F.c) (b := .slice Y.lA Y.ln Y.lc) (c := .int .i64 Y.fuse) (d := .int .i64 Y.fault) (e := .bool Y.off) hYL (haw (w.heap.size + 1 + 1) (by omega) ((HL.out.more hB).away (by omega)) trivial))
  clear hcall hYs hYL haw hsz HV2 hb4 hb5 hb3 HL f0 f1 f2 f3 f4 d0 d1 d2 d3 d4 hs2 hs3
  simp only [FileT.agg, PcT.val]
  go_wp2
  (try rw [Exit.noGoto_ret])
  refine bodyPost_ret (v := .tuple #[.agg #[.slice Y.F.A Y.F.n Y.F.c, .slice Y.lA Y.ln Y.lc, .int .i64 Y.fuse, .int .i64 Y.fault, .bool Y.off], .int .i64 out.2]) ?_ rfl ⟨Y, rfl, HYs.out, HYL.out, hbe, HAw.out⟩
  simp [results, Try.results14, go_sem, *]
set_option maxRecDepth 20000 in
set_option maxHeartbeats 2000000 in
theorem does_4 (X : FileT) (x : DeedT) (B N : Nat) (w : World) (hL : LieF w B X) (hx : x.Ok w B N) (hB : B ≤ w.heap.size) (hr : X.right = true) (hq : whichN x.kind = 4) :
    Calls Try.prog 14 #[X.agg, .agg #[.int .i64 x.kind, .int .i64 x.n, .int .i64 x.tear, .slice x.bytes.A x.bytes.n x.bytes.c, .slice x.keep.A x.keep.n x.keep.c]] w (OpP X (AwayP x.bytes) (doS X.s X.long x) w) := by
  have hout : doS X.s X.long x = (if X.off = true then (X.s, 10) else (⟨X.F.l, X.L.map (·.l), max x.n (-1), X.fault, false⟩, 0)) := (if_neg (by omega)).trans (if_pos hq)
  rw [hout]
  clear hout
  have hb1 := bel_alloc (bel_alloc (bel_alloc (Below.refl w.heap.size w) (.cells #[.slice X.F.A X.F.n X.F.c, .slice X.lA X.ln X.lc, .int .i64 X.fuse, .int .i64 X.fault, .bool X.off] 25)) (.cells #[.int .i64 x.kind, .int .i64 x.n, .int .i64 x.tear, .slice x.bytes.A x.bytes.n x.bytes.c, .slice x.keep.A x.keep.n x.keep.c] 34)) (.cells #[.slice none 0 0, .slice none 0 0, .int .i64 0, .int .i64 0, .bool false] 25)
  have HX := (FBox.new w X 25).later (bel_alloc (bel_alloc (Below.refl _ _) (.cells #[.int .i64 x.kind, .int .i64 x.n, .int .i64 x.tear, .slice x.bytes.A x.bytes.n x.bytes.c, .slice x.keep.A x.keep.n x.keep.c] 34)) (.cells #[.slice none 0 0, .slice none 0 0, .int .i64 0, .int .i64 0, .bool false] 25))
  have HD := (DBox.new (w.alloc (.cells #[.slice X.F.A X.F.n X.F.c, .slice X.lA X.ln X.lc, .int .i64 X.fuse, .int .i64 X.fault, .bool X.off] 25)) x 34).later (bel_alloc (Below.refl _ _) (.cells #[.slice none 0 0, .slice none 0 0, .int .i64 0, .int .i64 0, .bool false] 25))
  have HV := FVar.new ((w.alloc (.cells #[.slice X.F.A X.F.n X.F.c, .slice X.lA X.ln X.lc, .int .i64 X.fuse, .int .i64 X.fault, .bool X.off] 25)).alloc (.cells #[.int .i64 x.kind, .int .i64 x.n, .int .i64 x.tear, .slice x.bytes.A x.bytes.n x.bytes.c, .slice x.keep.A x.keep.n x.keep.c] 34)) (.slice none 0 0) (.slice none 0 0) (.int .i64 0) (.int .i64 0) (.bool false) 25
  rw [World.size_alloc] at HD
  rw [World.size_alloc, World.size_alloc] at HV
  have hsz : (((w.alloc (.cells #[.slice X.F.A X.F.n X.F.c, .slice X.lA X.ln X.lc, .int .i64 X.fuse, .int .i64 X.fault, .bool X.off] 25)).alloc (.cells #[.int .i64 x.kind, .int .i64 x.n, .int .i64 x.tear, .slice x.bytes.A x.bytes.n x.bytes.c, .slice x.keep.A x.keep.n x.keep.c] 34)).alloc (.cells #[.slice none 0 0, .slice none 0 0, .int .i64 0, .int .i64 0, .bool false] 25)).heap.size = w.heap.size + 1 + 1 + 1 := by simp
  have hcall := Lib.hid (fun W (hw : Below w.heap.size w W) => show Calls _ _ _ W (OpP X (fun _ => True) (if X.off = true then (X.s, 10) else (⟨X.F.l, X.L.map (·.l), max x.n (-1), X.fault, false⟩, 0)) W) from
    have HLw := hL.later (hw.mono hB)
    have HXw := hx.later (hw.mono hB)
    have HBw := Nat.le_trans hB hw.size
    lightF_any X B x.n _ HLw HBw hr hx.n)
  generalize hout : ((if X.off = true then (X.s, 10) else (⟨X.F.l, X.L.map (·.l), max x.n (-1), X.fault, false⟩, 0)) : FileS × Int) = out at *
  clear hout
  have h3 : (((whichN x.kind : Nat) : Int) == 3) = false := by rw [beq_eq_false_iff_ne]; omega
  have h4 : (((whichN x.kind : Nat) : Int) == 4) = true := by rw [beq_iff_eq]; omega
  have h5 : (((whichN x.kind : Nat) : Int) == 5) = false := by rw [beq_eq_false_iff_ne]; omega
  have h6 : (((whichN x.kind : Nat) : Int) == 6) = false := by rw [beq_eq_false_iff_ne]; omega
  clear hq
  simp only [FileT.agg, PcT.val] at hcall ⊢
  have HL := Lib.hid hL
  have hwc := fun W => which_any x W
  generalize whichN x.kind = q at *
  obtain ⟨f0, f1, f2, f3, f4⟩ := HX
  obtain ⟨d0, d1, d2, d3, d4⟩ := HD
  have HX := Lib.hid (show FBox _ _ X from ⟨f0, f1, f2, f3, f4⟩)
  have HD := Lib.hid (show DBox _ _ x from ⟨d0, d1, d2, d3, d4⟩)
  clear hL hx hr
  go_enter Try.func14, Try.ntmps14
  go_wp2_with fail
  generalize ((w.alloc (.cells #[.slice X.F.A X.F.n X.F.c, .slice X.lA X.ln X.lc, .int .i64 X.fuse, .int .i64 X.fault, .bool X.off] 25)).alloc (.cells #[.int .i64 x.kind, .int .i64 x.n, .int .i64 x.tear, .slice x.bytes.A x.bytes.n x.bytes.c, .slice x.keep.A x.keep.n x.keep.c] 34)).alloc (.cells #[.slice none 0 0, .slice none 0 0, .int .i64 0, .int .i64 0, .bool false] 25) = W1 at *
  refine (hwc _).mono ?_
  rintro e W2 ⟨rfl, hb2⟩
  clear f0 f1 f2 f3 f4 d0 d1 d2 d3 d4 hwc
  obtain ⟨f0, f1, f2, f3, f4⟩ := HX.out.later hb2
  obtain ⟨d0, d1, d2, d3, d4⟩ := HD.out.later hb2
  have hb3 := bel_next hb1 hb2
  have hs2 := hb2.size
  have HV2 := Lib.hid (HV.later hb2)
  clear HV hb1 hb2 HX HD
  go_wp2_with fail
  refine (hcall.out _ hb3).mono ?_
  rintro e W3 ⟨Y, rfl, hYs, hYL, hb4, haw⟩
  have hb5 := bel_next hb3 hb4
  have hs3 := hb4.size
  obtain ⟨⟨j0, j1, j2, j3, j4⟩, k0, k1, k2, k3, k4⟩ := HV2.out.later hb4
  have hbe := fbelow_set5 (a := .slice Y.F.A Y.F.n Y.F.c) (b := .slice Y.lA Y.ln Y.lc) (c := .int .i64 Y.fuse) (d := .int .i64 Y.fault) (e := .bool Y.off) hb5 (show w.heap.size ≤ w.heap.size + 1 + 1 by omega)
  have HYs := Lib.hid hYs
  have HAw := Lib.hid (show ∀ k, k < w.heap.size → AwayF X k → AwayP x.bytes k → AwayF Y k from fun k hk h1 h2 => haw k (by omega) h1 trivial)
  have HYL := Lib.hid (lie_res (g := w.heap.size + 1 + 1) (a := .slice Y.F.A Y.F.n Y.F.c) (b := .slice Y.lA Y.ln Y.lc) (c := .int .i64 Y.fuse) (d := .int .i64 Y.fault) (e := .bool Y.off) hYL (haw (w.heap.size + 1 + 1) (by omega) ((HL.out.more hB).away (by omega)) trivial))
  clear hcall hYs hYL haw hsz HV2 hb4 hb5 hb3 HL f0 f1 f2 f3 f4 d0 d1 d2 d3 d4 hs2 hs3
  simp only [FileT.agg, PcT.val]
  go_wp2
  (try rw [Exit.noGoto_ret])
  refine bodyPost_ret (v := .tuple #[.agg #[.slice Y.F.A Y.F.n Y.F.c, .slice Y.lA Y.ln Y.lc, .int .i64 Y.fuse, .int .i64 Y.fault, .bool Y.off], .int .i64 out.2]) ?_ rfl ⟨Y, rfl, HYs.out, HYL.out, hbe, HAw.out⟩
  simp [results, Try.results14, go_sem, *]
set_option maxRecDepth 20000 in
set_option maxHeartbeats 2000000 in
theorem does_5 (X : FileT) (x : DeedT) (B N : Nat) (w : World) (hL : LieF w B X) (hx : x.Ok w B N) (hB : B ≤ w.heap.size) (hr : X.right = true) (hq : whichN x.kind = 5) :
    Calls Try.prog 14 #[X.agg, .agg #[.int .i64 x.kind, .int .i64 x.n, .int .i64 x.tear, .slice x.bytes.A x.bytes.n x.bytes.c, .slice x.keep.A x.keep.n x.keep.c]] w (OpP X (AwayP x.bytes) (doS X.s X.long x) w) := by
  have hout : doS X.s X.long x = (if X.off = true then (X.s, 10) else (⟨X.F.l, X.L.map (·.l), X.fuse, max x.n (-1), false⟩, 0)) := (if_neg (by omega)).trans ((if_neg (by omega)).trans (if_pos hq))
  rw [hout]
  clear hout
  have hb1 := bel_alloc (bel_alloc (bel_alloc (Below.refl w.heap.size w) (.cells #[.slice X.F.A X.F.n X.F.c, .slice X.lA X.ln X.lc, .int .i64 X.fuse, .int .i64 X.fault, .bool X.off] 25)) (.cells #[.int .i64 x.kind, .int .i64 x.n, .int .i64 x.tear, .slice x.bytes.A x.bytes.n x.bytes.c, .slice x.keep.A x.keep.n x.keep.c] 34)) (.cells #[.slice none 0 0, .slice none 0 0, .int .i64 0, .int .i64 0, .bool false] 25)
  have HX := (FBox.new w X 25).later (bel_alloc (bel_alloc (Below.refl _ _) (.cells #[.int .i64 x.kind, .int .i64 x.n, .int .i64 x.tear, .slice x.bytes.A x.bytes.n x.bytes.c, .slice x.keep.A x.keep.n x.keep.c] 34)) (.cells #[.slice none 0 0, .slice none 0 0, .int .i64 0, .int .i64 0, .bool false] 25))
  have HD := (DBox.new (w.alloc (.cells #[.slice X.F.A X.F.n X.F.c, .slice X.lA X.ln X.lc, .int .i64 X.fuse, .int .i64 X.fault, .bool X.off] 25)) x 34).later (bel_alloc (Below.refl _ _) (.cells #[.slice none 0 0, .slice none 0 0, .int .i64 0, .int .i64 0, .bool false] 25))
  have HV := FVar.new ((w.alloc (.cells #[.slice X.F.A X.F.n X.F.c, .slice X.lA X.ln X.lc, .int .i64 X.fuse, .int .i64 X.fault, .bool X.off] 25)).alloc (.cells #[.int .i64 x.kind, .int .i64 x.n, .int .i64 x.tear, .slice x.bytes.A x.bytes.n x.bytes.c, .slice x.keep.A x.keep.n x.keep.c] 34)) (.slice none 0 0) (.slice none 0 0) (.int .i64 0) (.int .i64 0) (.bool false) 25
  rw [World.size_alloc] at HD
  rw [World.size_alloc, World.size_alloc] at HV
  have hsz : (((w.alloc (.cells #[.slice X.F.A X.F.n X.F.c, .slice X.lA X.ln X.lc, .int .i64 X.fuse, .int .i64 X.fault, .bool X.off] 25)).alloc (.cells #[.int .i64 x.kind, .int .i64 x.n, .int .i64 x.tear, .slice x.bytes.A x.bytes.n x.bytes.c, .slice x.keep.A x.keep.n x.keep.c] 34)).alloc (.cells #[.slice none 0 0, .slice none 0 0, .int .i64 0, .int .i64 0, .bool false] 25)).heap.size = w.heap.size + 1 + 1 + 1 := by simp
  have hcall := Lib.hid (fun W (hw : Below w.heap.size w W) => show Calls _ _ _ W (OpP X (fun _ => True) (if X.off = true then (X.s, 10) else (⟨X.F.l, X.L.map (·.l), X.fuse, max x.n (-1), false⟩, 0)) W) from
    have HLw := hL.later (hw.mono hB)
    have HXw := hx.later (hw.mono hB)
    have HBw := Nat.le_trans hB hw.size
    refuseF_any X B x.n _ HLw HBw hr hx.n)
  generalize hout : ((if X.off = true then (X.s, 10) else (⟨X.F.l, X.L.map (·.l), X.fuse, max x.n (-1), false⟩, 0)) : FileS × Int) = out at *
  clear hout
  have h3 : (((whichN x.kind : Nat) : Int) == 3) = false := by rw [beq_eq_false_iff_ne]; omega
  have h4 : (((whichN x.kind : Nat) : Int) == 4) = false := by rw [beq_eq_false_iff_ne]; omega
  have h5 : (((whichN x.kind : Nat) : Int) == 5) = true := by rw [beq_iff_eq]; omega
  have h6 : (((whichN x.kind : Nat) : Int) == 6) = false := by rw [beq_eq_false_iff_ne]; omega
  clear hq
  simp only [FileT.agg, PcT.val] at hcall ⊢
  have HL := Lib.hid hL
  have hwc := fun W => which_any x W
  generalize whichN x.kind = q at *
  obtain ⟨f0, f1, f2, f3, f4⟩ := HX
  obtain ⟨d0, d1, d2, d3, d4⟩ := HD
  have HX := Lib.hid (show FBox _ _ X from ⟨f0, f1, f2, f3, f4⟩)
  have HD := Lib.hid (show DBox _ _ x from ⟨d0, d1, d2, d3, d4⟩)
  clear hL hx hr
  go_enter Try.func14, Try.ntmps14
  go_wp2_with fail
  generalize ((w.alloc (.cells #[.slice X.F.A X.F.n X.F.c, .slice X.lA X.ln X.lc, .int .i64 X.fuse, .int .i64 X.fault, .bool X.off] 25)).alloc (.cells #[.int .i64 x.kind, .int .i64 x.n, .int .i64 x.tear, .slice x.bytes.A x.bytes.n x.bytes.c, .slice x.keep.A x.keep.n x.keep.c] 34)).alloc (.cells #[.slice none 0 0, .slice none 0 0, .int .i64 0, .int .i64 0, .bool false] 25) = W1 at *
  refine (hwc _).mono ?_
  rintro e W2 ⟨rfl, hb2⟩
  clear f0 f1 f2 f3 f4 d0 d1 d2 d3 d4 hwc
  obtain ⟨f0, f1, f2, f3, f4⟩ := HX.out.later hb2
  obtain ⟨d0, d1, d2, d3, d4⟩ := HD.out.later hb2
  have hb3 := bel_next hb1 hb2
  have hs2 := hb2.size
  have HV2 := Lib.hid (HV.later hb2)
  clear HV hb1 hb2 HX HD
  go_wp2_with fail
  refine (hcall.out _ hb3).mono ?_
  rintro e W3 ⟨Y, rfl, hYs, hYL, hb4, haw⟩
  have hb5 := bel_next hb3 hb4
  have hs3 := hb4.size
  obtain ⟨⟨j0, j1, j2, j3, j4⟩, k0, k1, k2, k3, k4⟩ := HV2.out.later hb4
  have hbe := fbelow_set5 (a := .slice Y.F.A Y.F.n Y.F.c) (b := .slice Y.lA Y.ln Y.lc) (c := .int .i64 Y.fuse) (d := .int .i64 Y.fault) (e := .bool Y.off) hb5 (show w.heap.size ≤ w.heap.size + 1 + 1 by omega)
  have HYs := Lib.hid hYs
  have HAw := Lib.hid (show ∀ k, k < w.heap.size → AwayF X k → AwayP x.bytes k → AwayF Y k from fun k hk h1 h2 => haw k (by omega) h1 trivial)
  have HYL := Lib.hid (lie_res (g := w.heap.size + 1 + 1) (a := .slice Y.F.A Y.F.n Y.F.c) (b := .slice Y.lA Y.ln Y.lc) (c := .int .i64 Y.fuse) (d := .int .i64 Y.fault) (e := .bool Y.off) hYL (haw (w.heap.size + 1 + 1) (by omega) ((HL.out.more hB).away (by omega)) trivial))
  clear hcall hYs hYL haw hsz HV2 hb4 hb5 hb3 HL f0 f1 f2 f3 f4 d0 d1 d2 d3 d4 hs2 hs3
  simp only [FileT.agg, PcT.val]
  go_wp2
  (try rw [Exit.noGoto_ret])
  refine bodyPost_ret (v := .tuple #[.agg #[.slice Y.F.A Y.F.n Y.F.c, .slice Y.lA Y.ln Y.lc, .int .i64 Y.fuse, .int .i64 Y.fault, .bool Y.off], .int .i64 out.2]) ?_ rfl ⟨Y, rfl, HYs.out, HYL.out, hbe, HAw.out⟩
  simp [results, Try.results14, go_sem, *]
set_option maxRecDepth 20000 in
set_option maxHeartbeats 2000000 in
theorem does_6 (X : FileT) (x : DeedT) (B N : Nat) (w : World) (hL : LieF w B X) (hx : x.Ok w B N) (hB : B ≤ w.heap.size) (hr : X.right = true) (hq : whichN x.kind = 6) :
    Calls Try.prog 14 #[X.agg, .agg #[.int .i64 x.kind, .int .i64 x.n, .int .i64 x.tear, .slice x.bytes.A x.bytes.n x.bytes.c, .slice x.keep.A x.keep.n x.keep.c]] w (OpP X (AwayP x.bytes) (doS X.s X.long x) w) := by
  have hout : doS X.s X.long x = ((X.s.crash x.keep.l x.tear x.n, 0)) := (if_neg (by omega)).trans ((if_neg (by omega)).trans ((if_neg (by omega)).trans (if_pos hq)))
  rw [hout]
  clear hout
  have hb1 := bel_alloc (bel_alloc (bel_alloc (Below.refl w.heap.size w) (.cells #[.slice X.F.A X.F.n X.F.c, .slice X.lA X.ln X.lc, .int .i64 X.fuse, .int .i64 X.fault, .bool X.off] 25)) (.cells #[.int .i64 x.kind, .int .i64 x.n, .int .i64 x.tear, .slice x.bytes.A x.bytes.n x.bytes.c, .slice x.keep.A x.keep.n x.keep.c] 34)) (.cells #[.slice none 0 0, .slice none 0 0, .int .i64 0, .int .i64 0, .bool false] 25)
  have HX := (FBox.new w X 25).later (bel_alloc (bel_alloc (Below.refl _ _) (.cells #[.int .i64 x.kind, .int .i64 x.n, .int .i64 x.tear, .slice x.bytes.A x.bytes.n x.bytes.c, .slice x.keep.A x.keep.n x.keep.c] 34)) (.cells #[.slice none 0 0, .slice none 0 0, .int .i64 0, .int .i64 0, .bool false] 25))
  have HD := (DBox.new (w.alloc (.cells #[.slice X.F.A X.F.n X.F.c, .slice X.lA X.ln X.lc, .int .i64 X.fuse, .int .i64 X.fault, .bool X.off] 25)) x 34).later (bel_alloc (Below.refl _ _) (.cells #[.slice none 0 0, .slice none 0 0, .int .i64 0, .int .i64 0, .bool false] 25))
  have HV := FVar.new ((w.alloc (.cells #[.slice X.F.A X.F.n X.F.c, .slice X.lA X.ln X.lc, .int .i64 X.fuse, .int .i64 X.fault, .bool X.off] 25)).alloc (.cells #[.int .i64 x.kind, .int .i64 x.n, .int .i64 x.tear, .slice x.bytes.A x.bytes.n x.bytes.c, .slice x.keep.A x.keep.n x.keep.c] 34)) (.slice none 0 0) (.slice none 0 0) (.int .i64 0) (.int .i64 0) (.bool false) 25
  rw [World.size_alloc] at HD
  rw [World.size_alloc, World.size_alloc] at HV
  have hsz : (((w.alloc (.cells #[.slice X.F.A X.F.n X.F.c, .slice X.lA X.ln X.lc, .int .i64 X.fuse, .int .i64 X.fault, .bool X.off] 25)).alloc (.cells #[.int .i64 x.kind, .int .i64 x.n, .int .i64 x.tear, .slice x.bytes.A x.bytes.n x.bytes.c, .slice x.keep.A x.keep.n x.keep.c] 34)).alloc (.cells #[.slice none 0 0, .slice none 0 0, .int .i64 0, .int .i64 0, .bool false] 25)).heap.size = w.heap.size + 1 + 1 + 1 := by simp
  have hcall := Lib.hid (fun W (hw : Below w.heap.size w W) => show Calls _ _ _ W (OpP X (fun _ => True) ((X.s.crash x.keep.l x.tear x.n, 0)) W) from
    have HLw := hL.later (hw.mono hB)
    have HXw := hx.later (hw.mono hB)
    have HBw := Nat.le_trans hB hw.size
    crashF_any X x.keep x.tear x.n B _ HLw HXw.keep HBw hr)
  generalize hout : (((X.s.crash x.keep.l x.tear x.n, 0)) : FileS × Int) = out at *
  clear hout
  have h3 : (((whichN x.kind : Nat) : Int) == 3) = false := by rw [beq_eq_false_iff_ne]; omega
  have h4 : (((whichN x.kind : Nat) : Int) == 4) = false := by rw [beq_eq_false_iff_ne]; omega
  have h5 : (((whichN x.kind : Nat) : Int) == 5) = false := by rw [beq_eq_false_iff_ne]; omega
  have h6 : (((whichN x.kind : Nat) : Int) == 6) = true := by rw [beq_iff_eq]; omega
  clear hq
  simp only [FileT.agg, PcT.val] at hcall ⊢
  have HL := Lib.hid hL
  have hwc := fun W => which_any x W
  generalize whichN x.kind = q at *
  obtain ⟨f0, f1, f2, f3, f4⟩ := HX
  obtain ⟨d0, d1, d2, d3, d4⟩ := HD
  have HX := Lib.hid (show FBox _ _ X from ⟨f0, f1, f2, f3, f4⟩)
  have HD := Lib.hid (show DBox _ _ x from ⟨d0, d1, d2, d3, d4⟩)
  clear hL hx hr
  go_enter Try.func14, Try.ntmps14
  go_wp2_with fail
  generalize ((w.alloc (.cells #[.slice X.F.A X.F.n X.F.c, .slice X.lA X.ln X.lc, .int .i64 X.fuse, .int .i64 X.fault, .bool X.off] 25)).alloc (.cells #[.int .i64 x.kind, .int .i64 x.n, .int .i64 x.tear, .slice x.bytes.A x.bytes.n x.bytes.c, .slice x.keep.A x.keep.n x.keep.c] 34)).alloc (.cells #[.slice none 0 0, .slice none 0 0, .int .i64 0, .int .i64 0, .bool false] 25) = W1 at *
  refine (hwc _).mono ?_
  rintro e W2 ⟨rfl, hb2⟩
  clear f0 f1 f2 f3 f4 d0 d1 d2 d3 d4 hwc
  obtain ⟨f0, f1, f2, f3, f4⟩ := HX.out.later hb2
  obtain ⟨d0, d1, d2, d3, d4⟩ := HD.out.later hb2
  have hb3 := bel_next hb1 hb2
  have hs2 := hb2.size
  have HV2 := Lib.hid (HV.later hb2)
  clear HV hb1 hb2 HX HD
  go_wp2_with fail
  refine (hcall.out _ hb3).mono ?_
  rintro e W3 ⟨Y, rfl, hYs, hYL, hb4, haw⟩
  have hb5 := bel_next hb3 hb4
  have hs3 := hb4.size
  obtain ⟨⟨j0, j1, j2, j3, j4⟩, k0, k1, k2, k3, k4⟩ := HV2.out.later hb4
  have hbe := fbelow_set5 (a := .slice Y.F.A Y.F.n Y.F.c) (b := .slice Y.lA Y.ln Y.lc) (c := .int .i64 Y.fuse) (d := .int .i64 Y.fault) (e := .bool Y.off) hb5 (show w.heap.size ≤ w.heap.size + 1 + 1 by omega)
  have HYs := Lib.hid hYs
  have HAw := Lib.hid (show ∀ k, k < w.heap.size → AwayF X k → AwayP x.bytes k → AwayF Y k from fun k hk h1 h2 => haw k (by omega) h1 trivial)
  have HYL := Lib.hid (lie_res (g := w.heap.size + 1 + 1) (a := .slice Y.F.A Y.F.n Y.F.c) (b := .slice Y.lA Y.ln Y.lc) (c := .int .i64 Y.fuse) (d := .int .i64 Y.fault) (e := .bool Y.off) hYL (haw (w.heap.size + 1 + 1) (by omega) ((HL.out.more hB).away (by omega)) trivial))
  clear hcall hYs hYL haw hsz HV2 hb4 hb5 hb3 HL f0 f1 f2 f3 f4 d0 d1 d2 d3 d4 hs2 hs3
  simp only [FileT.agg, PcT.val]
  go_wp2
  (try rw [Exit.noGoto_ret])
  refine bodyPost_ret (v := .tuple #[.agg #[.slice Y.F.A Y.F.n Y.F.c, .slice Y.lA Y.ln Y.lc, .int .i64 Y.fuse, .int .i64 Y.fault, .bool Y.off], .int .i64 out.2]) ?_ rfl ⟨Y, rfl, HYs.out, HYL.out, hbe, HAw.out⟩
  simp [results, Try.results14, go_sem, *]
set_option maxRecDepth 20000 in
set_option maxHeartbeats 2000000 in
theorem does_a (X : FileT) (x : DeedT) (B N : Nat) (w : World) (hL : LieF w B X) (hx : x.Ok w B N) (hB : B ≤ w.heap.size) (hr : X.right = true) (hq : ¬ (whichN x.kind = 3 ∨ whichN x.kind = 4 ∨ whichN x.kind = 5 ∨ whichN x.kind = 6)) :
    Calls Try.prog 14 #[X.agg, .agg #[.int .i64 x.kind, .int .i64 x.n, .int .i64 x.tear, .slice x.bytes.A x.bytes.n x.bytes.c, .slice x.keep.A x.keep.n x.keep.c]] w (OpP X (AwayP x.bytes) (doS X.s X.long x) w) := by
  have hout : doS X.s X.long x = (if x.bytes.n = 0 then (X.s, 2) else X.s.append X.long x.bytes.l) := (if_neg (by omega)).trans ((if_neg (by omega)).trans ((if_neg (by omega)).trans (if_neg (by omega))))
  rw [hout]
  clear hout
  have hb1 := bel_alloc (bel_alloc (bel_alloc (Below.refl w.heap.size w) (.cells #[.slice X.F.A X.F.n X.F.c, .slice X.lA X.ln X.lc, .int .i64 X.fuse, .int .i64 X.fault, .bool X.off] 25)) (.cells #[.int .i64 x.kind, .int .i64 x.n, .int .i64 x.tear, .slice x.bytes.A x.bytes.n x.bytes.c, .slice x.keep.A x.keep.n x.keep.c] 34)) (.cells #[.slice none 0 0, .slice none 0 0, .int .i64 0, .int .i64 0, .bool false] 25)
  have HX := (FBox.new w X 25).later (bel_alloc (bel_alloc (Below.refl _ _) (.cells #[.int .i64 x.kind, .int .i64 x.n, .int .i64 x.tear, .slice x.bytes.A x.bytes.n x.bytes.c, .slice x.keep.A x.keep.n x.keep.c] 34)) (.cells #[.slice none 0 0, .slice none 0 0, .int .i64 0, .int .i64 0, .bool false] 25))
  have HD := (DBox.new (w.alloc (.cells #[.slice X.F.A X.F.n X.F.c, .slice X.lA X.ln X.lc, .int .i64 X.fuse, .int .i64 X.fault, .bool X.off] 25)) x 34).later (bel_alloc (Below.refl _ _) (.cells #[.slice none 0 0, .slice none 0 0, .int .i64 0, .int .i64 0, .bool false] 25))
  have HV := FVar.new ((w.alloc (.cells #[.slice X.F.A X.F.n X.F.c, .slice X.lA X.ln X.lc, .int .i64 X.fuse, .int .i64 X.fault, .bool X.off] 25)).alloc (.cells #[.int .i64 x.kind, .int .i64 x.n, .int .i64 x.tear, .slice x.bytes.A x.bytes.n x.bytes.c, .slice x.keep.A x.keep.n x.keep.c] 34)) (.slice none 0 0) (.slice none 0 0) (.int .i64 0) (.int .i64 0) (.bool false) 25
  rw [World.size_alloc] at HD
  rw [World.size_alloc, World.size_alloc] at HV
  have hsz : (((w.alloc (.cells #[.slice X.F.A X.F.n X.F.c, .slice X.lA X.ln X.lc, .int .i64 X.fuse, .int .i64 X.fault, .bool X.off] 25)).alloc (.cells #[.int .i64 x.kind, .int .i64 x.n, .int .i64 x.tear, .slice x.bytes.A x.bytes.n x.bytes.c, .slice x.keep.A x.keep.n x.keep.c] 34)).alloc (.cells #[.slice none 0 0, .slice none 0 0, .int .i64 0, .int .i64 0, .bool false] 25)).heap.size = w.heap.size + 1 + 1 + 1 := by simp
  have hcall := Lib.hid (fun W (hw : Below w.heap.size w W) => show Calls _ _ _ W (OpP X (AwayP x.bytes) (if x.bytes.n = 0 then (X.s, 2) else X.s.append X.long x.bytes.l) W) from
    have HLw := hL.later (hw.mono hB)
    have HXw := hx.later (hw.mono hB)
    have HBw := Nat.le_trans hB hw.size
    appendF_any X x.bytes B _ HLw HXw.bytes HBw hr)
  generalize hout : ((if x.bytes.n = 0 then (X.s, 2) else X.s.append X.long x.bytes.l) : FileS × Int) = out at *
  clear hout
  have h3 : (((whichN x.kind : Nat) : Int) == 3) = false := by rw [beq_eq_false_iff_ne]; omega
  have h4 : (((whichN x.kind : Nat) : Int) == 4) = false := by rw [beq_eq_false_iff_ne]; omega
  have h5 : (((whichN x.kind : Nat) : Int) == 5) = false := by rw [beq_eq_false_iff_ne]; omega
  have h6 : (((whichN x.kind : Nat) : Int) == 6) = false := by rw [beq_eq_false_iff_ne]; omega
  clear hq
  simp only [FileT.agg, PcT.val] at hcall ⊢
  have HL := Lib.hid hL
  have hwc := fun W => which_any x W
  generalize whichN x.kind = q at *
  obtain ⟨f0, f1, f2, f3, f4⟩ := HX
  obtain ⟨d0, d1, d2, d3, d4⟩ := HD
  have HX := Lib.hid (show FBox _ _ X from ⟨f0, f1, f2, f3, f4⟩)
  have HD := Lib.hid (show DBox _ _ x from ⟨d0, d1, d2, d3, d4⟩)
  have HXb := Lib.hid (hx.bytes.more hB)
  clear hL hx hr
  go_enter Try.func14, Try.ntmps14
  go_wp2_with fail
  generalize ((w.alloc (.cells #[.slice X.F.A X.F.n X.F.c, .slice X.lA X.ln X.lc, .int .i64 X.fuse, .int .i64 X.fault, .bool X.off] 25)).alloc (.cells #[.int .i64 x.kind, .int .i64 x.n, .int .i64 x.tear, .slice x.bytes.A x.bytes.n x.bytes.c, .slice x.keep.A x.keep.n x.keep.c] 34)).alloc (.cells #[.slice none 0 0, .slice none 0 0, .int .i64 0, .int .i64 0, .bool false] 25) = W1 at *
  refine (hwc _).mono ?_
  rintro e W2 ⟨rfl, hb2⟩
  clear f0 f1 f2 f3 f4 d0 d1 d2 d3 d4 hwc
  obtain ⟨f0, f1, f2, f3, f4⟩ := HX.out.later hb2
  obtain ⟨d0, d1, d2, d3, d4⟩ := HD.out.later hb2
  have hb3 := bel_next hb1 hb2
  have hs2 := hb2.size
  have HV2 := Lib.hid (HV.later hb2)
  clear HV hb1 hb2 HX HD
  go_wp2_with fail
  refine (hcall.out _ hb3).mono ?_
  rintro e W3 ⟨Y, rfl, hYs, hYL, hb4, haw⟩
  have hb5 := bel_next hb3 hb4
  have hs3 := hb4.size
  obtain ⟨⟨j0, j1, j2, j3, j4⟩, k0, k1, k2, k3, k4⟩ := HV2.out.later hb4
  have hbe := fbelow_set5 (a := .slice Y.F.A Y.F.n Y.F.c) (b := .slice Y.lA Y.ln Y.lc) (c := .int .i64 Y.fuse) (d := .int .i64 Y.fault) (e := .bool Y.off) hb5 (show w.heap.size ≤ w.heap.size + 1 + 1 by omega)
  have HYs := Lib.hid hYs
  have HAw := Lib.hid (show ∀ k, k < w.heap.size → AwayF X k → AwayP x.bytes k → AwayF Y k from fun k hk h1 h2 => haw k (by omega) h1 h2)
  have HYL := Lib.hid (lie_res (g := w.heap.size + 1 + 1) (a := .slice Y.F.A Y.F.n Y.F.c) (b := .slice Y.lA Y.ln Y.lc) (c := .int .i64 Y.fuse) (d := .int .i64 Y.fault) (e := .bool Y.off) hYL (haw (w.heap.size + 1 + 1) (by omega) ((HL.out.more hB).away (by omega)) (HXb.out.away (by omega))))
  clear hcall hYs hYL haw hsz HV2 hb4 hb5 hb3 HL f0 f1 f2 f3 f4 d0 d1 d2 d3 d4 hs2 hs3
  simp only [FileT.agg, PcT.val]
  go_wp2
  (try rw [Exit.noGoto_ret])
  refine bodyPost_ret (v := .tuple #[.agg #[.slice Y.F.A Y.F.n Y.F.c, .slice Y.lA Y.ln Y.lc, .int .i64 Y.fuse, .int .i64 Y.fault, .bool Y.off], .int .i64 out.2]) ?_ rfl ⟨Y, rfl, HYs.out, HYL.out, hbe, HAw.out⟩
  simp [results, Try.results14, go_sem, *]
theorem does_any (X : FileT) (x : DeedT) (B N : Nat) (w : World) (hL : LieF w B X) (hx : x.Ok w B N) (hB : B ≤ w.heap.size) (hr : X.right = true) :
    Calls Try.prog 14 #[X.agg, .agg #[.int .i64 x.kind, .int .i64 x.n, .int .i64 x.tear, .slice x.bytes.A x.bytes.n x.bytes.c, .slice x.keep.A x.keep.n x.keep.c]] w (OpP X (AwayP x.bytes) (doS X.s X.long x) w) := by
  by_cases h3 : whichN x.kind = 3
  · exact does_3 X x B N w hL hx hB hr h3
  · by_cases h4 : whichN x.kind = 4
    · exact does_4 X x B N w hL hx hB hr h4
    · by_cases h5 : whichN x.kind = 5
      · exact does_5 X x B N w hL hx hB hr h5
      · by_cases h6 : whichN x.kind = 6
        · exact does_6 X x B N w hL hx hB hr h6
        · exact does_a X x B N w hL hx hB hr (by omega)
end Go.Proofs.Ythoenmggjbojoaa
