import Derived.Test.YthoenmggjbojoaaGam
/-
  Layer 10: what a deed comes to, by the document.
-/
namespace Go.Proofs.Ythoenmggjbojoaa
open Go.RowKit
set_option linter.unusedVariables false

set_option maxRecDepth 20000 in
set_option maxHeartbeats 4000000 in
theorem ought_bad (X : FileT) (x : DeedT) (B N : Nat) (w : World) (hL : LieF w B X) (hx : x.Ok w B N) (hB : B ≤ w.heap.size) (hN : ∀ p ∈ X.Q, p.n ≤ 1048576) (hr : X.right = false) :
    Calls Try.prog 15 #[X.agg, .agg #[.int .i64 x.kind, .int .i64 x.n, .int .i64 x.tear, .slice x.bytes.A x.bytes.n x.bytes.c, .slice x.keep.A x.keep.n x.keep.c]] w (OpP X (AwayP x.bytes) ((X.s, 200)) w) := by
  obtain ⟨out, hout⟩ : ∃ out : FileS × Int, ((X.s, 200)) = out := ⟨_, rfl⟩
  have HO := Lib.hid (show out = (X.s, 200) from hout.symm.trans (rfl))
  rw [hout]
  clear hout
  have hb := bel_alloc (bel_alloc (bel_alloc (Below.refl w.heap.size w) (.cells #[.slice X.F.A X.F.n X.F.c, .slice X.lA X.ln X.lc, .int .i64 X.fuse, .int .i64 X.fault, .bool X.off] 25)) (.cells #[.int .i64 x.kind, .int .i64 x.n, .int .i64 x.tear, .slice x.bytes.A x.bytes.n x.bytes.c, .slice x.keep.A x.keep.n x.keep.c] 34)) (.cells #[.slice none 0 0, .slice none 0 0, .int .i64 0, .int .i64 0, .bool false] 25)
  have HV := Lib.hid (((FVar.new w (.slice X.F.A X.F.n X.F.c) (.slice X.lA X.ln X.lc) (.int .i64 X.fuse) (.int .i64 X.fault) (.bool X.off) 25).lay (.cells #[.int .i64 x.kind, .int .i64 x.n, .int .i64 x.tear, .slice x.bytes.A x.bytes.n x.bytes.c, .slice x.keep.A x.keep.n x.keep.c] 34)).lay (.cells #[.slice none 0 0, .slice none 0 0, .int .i64 0, .int .i64 0, .bool false] 25))
  have hD := (DBox.new (w.alloc (.cells #[.slice X.F.A X.F.n X.F.c, .slice X.lA X.ln X.lc, .int .i64 X.fuse, .int .i64 X.fault, .bool X.off] 25)) x 34).later (bel_alloc (Below.refl _ _) (.cells #[.slice none 0 0, .slice none 0 0, .int .i64 0, .int .i64 0, .bool false] 25))
  rw [World.size_alloc] at hD
  have HD := Lib.hid hD
  have hR := FVar.new ((w.alloc (.cells #[.slice X.F.A X.F.n X.F.c, .slice X.lA X.ln X.lc, .int .i64 X.fuse, .int .i64 X.fault, .bool X.off] 25)).alloc (.cells #[.int .i64 x.kind, .int .i64 x.n, .int .i64 x.tear, .slice x.bytes.A x.bytes.n x.bytes.c, .slice x.keep.A x.keep.n x.keep.c] 34)) (.slice none 0 0) (.slice none 0 0) (.int .i64 0) (.int .i64 0) (.bool false) 25
  rw [World.size_alloc, World.size_alloc] at hR
  have HR := Lib.hid hR
  have hn3 : w.heap.size + 3 ≤ (((w.alloc (.cells #[.slice X.F.A X.F.n X.F.c, .slice X.lA X.ln X.lc, .int .i64 X.fuse, .int .i64 X.fault, .bool X.off] 25)).alloc (.cells #[.int .i64 x.kind, .int .i64 x.n, .int .i64 x.tear, .slice x.bytes.A x.bytes.n x.bytes.c, .slice x.keep.A x.keep.n x.keep.c] 34)).alloc (.cells #[.slice none 0 0, .slice none 0 0, .int .i64 0, .int .i64 0, .bool false] 25)).heap.size := by rw [World.size_alloc, World.size_alloc, World.size_alloc]; omega
  have HRi := Lib.hid (fun W (h : Below w.heap.size w W) => refRight_any X B W (hL.later (h.mono hB)) (Nat.le_trans hB h.size) hN)
  have HLa := Lib.hid (hL.more hB)
  have HBa := Lib.hid (hx.bytes.more hB)
  rw [hr] at HRi
  simp only [FileT.agg, PcT.val] at HRi ⊢
  clear hR hD hN hr
  go_enter Try.func15, Try.ntmps15
  obtain ⟨⟨f0, f1, f2, f3, f4⟩, k0, k1, k2, k3, k4⟩ := HV.out
  obtain ⟨d0, d1, d2, d3, d4⟩ := HD.out
  obtain ⟨⟨j0, j1, j2, j3, j4⟩, m0, m1, m2, m3, m4⟩ := HR.out
  go_upto_region 1 with fail
  generalize ((w.alloc (.cells #[.slice X.F.A X.F.n X.F.c, .slice X.lA X.ln X.lc, .int .i64 X.fuse, .int .i64 X.fault, .bool X.off] 25)).alloc (.cells #[.int .i64 x.kind, .int .i64 x.n, .int .i64 x.tear, .slice x.bytes.A x.bytes.n x.bytes.c, .slice x.keep.A x.keep.n x.keep.c] 34)).alloc (.cells #[.slice none 0 0, .slice none 0 0, .int .i64 0, .int .i64 0, .bool false] 25) = W1 at *
  go_wp2_with fail
  refine (HRi.out _ hb).mono ?_
  rintro e W2 ⟨rfl, hbn⟩
  clear f0 f1 f2 f3 f4 k0 k1 k2 k3 k4 d0 d1 d2 d3 d4 j0 j1 j2 j3 j4 m0 m1 m2 m3 m4
  have HV := Lib.hid (HV.out.later hbn)
  have HD := Lib.hid (HD.out.later hbn)
  have HR := Lib.hid (HR.out.later hbn)
  have hn3 := Nat.le_trans hn3 hbn.size
  have hb := bel_next hb hbn
  clear hbn
  obtain ⟨⟨f0, f1, f2, f3, f4⟩, k0, k1, k2, k3, k4⟩ := HV.out
  obtain ⟨d0, d1, d2, d3, d4⟩ := HD.out
  obtain ⟨⟨j0, j1, j2, j3, j4⟩, m0, m1, m2, m3, m4⟩ := HR.out
  have hbe := fbelow_set5 (a := .slice X.F.A X.F.n X.F.c) (b := .slice X.lA X.ln X.lc) (c := .int .i64 X.fuse) (d := .int .i64 X.fault) (e := .bool X.off) hb (show w.heap.size ≤ w.heap.size + 1 + 1 by omega)
  have hLe := Lib.hid ((hL.later (hbe.mono hB)).more (Nat.le_trans hB hbe.size))
  clear hb
  go_wp2
  (try rw [Exit.noGoto_ret])
  refine bodyPost_ret (v := .tuple #[.agg #[.slice X.F.A X.F.n X.F.c, .slice X.lA X.ln X.lc, .int .i64 X.fuse, .int .i64 X.fault, .bool X.off], .int .i64 200]) ?_ rfl ⟨X, (by rw [HO.out]; first | done | rfl | (simp only [FileT.agg, PcT.val, Ho.out])), (by rw [HO.out] <;> rfl), hLe.out, hbe, fun g hg h _ => h⟩
  simp [results, Try.results15, go_sem, *]
set_option maxRecDepth 20000 in
set_option maxHeartbeats 4000000 in
theorem ought_3 (X : FileT) (x : DeedT) (B N : Nat) (w : World) (hL : LieF w B X) (hx : x.Ok w B N) (hB : B ≤ w.heap.size) (hN : ∀ p ∈ X.Q, p.n ≤ 1048576) (hr : X.right = true) (hq : whichN x.kind = 3) :
    Calls Try.prog 15 #[X.agg, .agg #[.int .i64 x.kind, .int .i64 x.n, .int .i64 x.tear, .slice x.bytes.A x.bytes.n x.bytes.c, .slice x.keep.A x.keep.n x.keep.c]] w (OpP X (AwayP x.bytes) (doS X.s X.long x) w) := by
  obtain ⟨out, hout⟩ : ∃ out : FileS × Int, (doS X.s X.long x) = out := ⟨_, rfl⟩
  have HO := Lib.hid (show out = X.s.sync X.long from hout.symm.trans (by unfold doS; rw [if_pos hq]))
  rw [hout]
  clear hout
  have hb := bel_alloc (bel_alloc (bel_alloc (Below.refl w.heap.size w) (.cells #[.slice X.F.A X.F.n X.F.c, .slice X.lA X.ln X.lc, .int .i64 X.fuse, .int .i64 X.fault, .bool X.off] 25)) (.cells #[.int .i64 x.kind, .int .i64 x.n, .int .i64 x.tear, .slice x.bytes.A x.bytes.n x.bytes.c, .slice x.keep.A x.keep.n x.keep.c] 34)) (.cells #[.slice none 0 0, .slice none 0 0, .int .i64 0, .int .i64 0, .bool false] 25)
  have HV := Lib.hid (((FVar.new w (.slice X.F.A X.F.n X.F.c) (.slice X.lA X.ln X.lc) (.int .i64 X.fuse) (.int .i64 X.fault) (.bool X.off) 25).lay (.cells #[.int .i64 x.kind, .int .i64 x.n, .int .i64 x.tear, .slice x.bytes.A x.bytes.n x.bytes.c, .slice x.keep.A x.keep.n x.keep.c] 34)).lay (.cells #[.slice none 0 0, .slice none 0 0, .int .i64 0, .int .i64 0, .bool false] 25))
  have hD := (DBox.new (w.alloc (.cells #[.slice X.F.A X.F.n X.F.c, .slice X.lA X.ln X.lc, .int .i64 X.fuse, .int .i64 X.fault, .bool X.off] 25)) x 34).later (bel_alloc (Below.refl _ _) (.cells #[.slice none 0 0, .slice none 0 0, .int .i64 0, .int .i64 0, .bool false] 25))
  rw [World.size_alloc] at hD
  have HD := Lib.hid hD
  have hR := FVar.new ((w.alloc (.cells #[.slice X.F.A X.F.n X.F.c, .slice X.lA X.ln X.lc, .int .i64 X.fuse, .int .i64 X.fault, .bool X.off] 25)).alloc (.cells #[.int .i64 x.kind, .int .i64 x.n, .int .i64 x.tear, .slice x.bytes.A x.bytes.n x.bytes.c, .slice x.keep.A x.keep.n x.keep.c] 34)) (.slice none 0 0) (.slice none 0 0) (.int .i64 0) (.int .i64 0) (.bool false) 25
  rw [World.size_alloc, World.size_alloc] at hR
  have HR := Lib.hid hR
  have hn3 : w.heap.size + 3 ≤ (((w.alloc (.cells #[.slice X.F.A X.F.n X.F.c, .slice X.lA X.ln X.lc, .int .i64 X.fuse, .int .i64 X.fault, .bool X.off] 25)).alloc (.cells #[.int .i64 x.kind, .int .i64 x.n, .int .i64 x.tear, .slice x.bytes.A x.bytes.n x.bytes.c, .slice x.keep.A x.keep.n x.keep.c] 34)).alloc (.cells #[.slice none 0 0, .slice none 0 0, .int .i64 0, .int .i64 0, .bool false] 25)).heap.size := by rw [World.size_alloc, World.size_alloc, World.size_alloc]; omega
  have HRi := Lib.hid (fun W (h : Below w.heap.size w W) => refRight_any X B W (hL.later (h.mono hB)) (Nat.le_trans hB h.size) hN)
  have HLa := Lib.hid (hL.more hB)
  have HBa := Lib.hid (hx.bytes.more hB)
  rw [hr] at HRi
  have HC := Lib.hid (fun W (h : Below w.heap.size w W) => refSync_any X B W (hL.later (h.mono hB)) (Nat.le_trans hB h.size) hr)
  simp only [FileT.agg, PcT.val] at HRi HC ⊢
  have h3 : (((whichN x.kind : Nat) : Int) == 3) = true := by rw [beq_iff_eq]; omega
  have h4 : (((whichN x.kind : Nat) : Int) == 4) = false := by rw [beq_eq_false_iff_ne]; omega
  have h5 : (((whichN x.kind : Nat) : Int) == 5) = false := by rw [beq_eq_false_iff_ne]; omega
  have h6 : (((whichN x.kind : Nat) : Int) == 6) = false := by rw [beq_eq_false_iff_ne]; omega
  have Hwc := Lib.hid (fun W (h : Below w.heap.size w W) => which_any x W)
  generalize whichN x.kind = q at *
  clear hq
  clear hR hD hN hr
  go_enter Try.func15, Try.ntmps15
  obtain ⟨⟨f0, f1, f2, f3, f4⟩, k0, k1, k2, k3, k4⟩ := HV.out
  obtain ⟨d0, d1, d2, d3, d4⟩ := HD.out
  obtain ⟨⟨j0, j1, j2, j3, j4⟩, m0, m1, m2, m3, m4⟩ := HR.out
  go_upto_region 1 with fail
  generalize ((w.alloc (.cells #[.slice X.F.A X.F.n X.F.c, .slice X.lA X.ln X.lc, .int .i64 X.fuse, .int .i64 X.fault, .bool X.off] 25)).alloc (.cells #[.int .i64 x.kind, .int .i64 x.n, .int .i64 x.tear, .slice x.bytes.A x.bytes.n x.bytes.c, .slice x.keep.A x.keep.n x.keep.c] 34)).alloc (.cells #[.slice none 0 0, .slice none 0 0, .int .i64 0, .int .i64 0, .bool false] 25) = W1 at *
  go_wp2_with fail
  refine (HRi.out _ hb).mono ?_
  rintro e W2 ⟨rfl, hbn⟩
  clear f0 f1 f2 f3 f4 k0 k1 k2 k3 k4 d0 d1 d2 d3 d4 j0 j1 j2 j3 j4 m0 m1 m2 m3 m4
  have HV := Lib.hid (HV.out.later hbn)
  have HD := Lib.hid (HD.out.later hbn)
  have HR := Lib.hid (HR.out.later hbn)
  have hn3 := Nat.le_trans hn3 hbn.size
  have hb := bel_next hb hbn
  clear hbn
  obtain ⟨⟨f0, f1, f2, f3, f4⟩, k0, k1, k2, k3, k4⟩ := HV.out
  obtain ⟨d0, d1, d2, d3, d4⟩ := HD.out
  obtain ⟨⟨j0, j1, j2, j3, j4⟩, m0, m1, m2, m3, m4⟩ := HR.out
  go_wp2_with fail
  refine (Hwc.out _ hb).mono ?_
  rintro e W3 ⟨rfl, hbn⟩
  clear f0 f1 f2 f3 f4 k0 k1 k2 k3 k4 d0 d1 d2 d3 d4 j0 j1 j2 j3 j4 m0 m1 m2 m3 m4
  have HV := Lib.hid (HV.out.later hbn)
  have HD := Lib.hid (HD.out.later hbn)
  have HR := Lib.hid (HR.out.later hbn)
  have hn3 := Nat.le_trans hn3 hbn.size
  have hb := bel_next hb hbn
  clear hbn
  obtain ⟨⟨f0, f1, f2, f3, f4⟩, k0, k1, k2, k3, k4⟩ := HV.out
  obtain ⟨d0, d1, d2, d3, d4⟩ := HD.out
  obtain ⟨⟨j0, j1, j2, j3, j4⟩, m0, m1, m2, m3, m4⟩ := HR.out
  go_wp2_with fail
  refine (HC.out _ hb).mono ?_
  rintro e W4 ⟨Y, rfl, hYs, hYL, hb4, haw⟩
  clear f0 f1 f2 f3 f4 k0 k1 k2 k3 k4 d0 d1 d2 d3 d4 j0 j1 j2 j3 j4 m0 m1 m2 m3 m4
  have HO := Lib.hid HO.out
  obtain ⟨ask, hask⟩ : ∃ a, X.s.sync X.long = a := ⟨_, rfl⟩
  rw [hask] at HO hYs ⊢
  clear hask
  have hs4 := hb.size
  have HAw := Lib.hid (show ∀ g, g < w.heap.size → AwayF X g → AwayP x.bytes g → AwayF Y g from fun g hg h1 h2 => haw g (by omega) h1 trivial)
  have ha2 := haw (w.heap.size + 1 + 1) (by omega) (HLa.out.away (by omega)) trivial
  have hb := bel_next hb hb4
  have HR := Lib.hid (HR.out.later hb4)
  have hbe := fbelow_set5 (a := .slice Y.F.A Y.F.n Y.F.c) (b := .slice Y.lA Y.ln Y.lc) (c := .int .i64 Y.fuse) (d := .int .i64 Y.fault) (e := .bool Y.off) hb (show w.heap.size ≤ w.heap.size + 1 + 1 by omega)
  have hLe := Lib.hid (lie_res (g := w.heap.size + 1 + 1) (a := .slice Y.F.A Y.F.n Y.F.c) (b := .slice Y.lA Y.ln Y.lc) (c := .int .i64 Y.fuse) (d := .int .i64 Y.fault) (e := .bool Y.off) hYL ha2)
  have HYs := Lib.hid hYs
  clear hb hYL haw ha2 hYs hb4
  simp only [FileT.agg, PcT.val]
  obtain ⟨⟨j0, j1, j2, j3, j4⟩, m0, m1, m2, m3, m4⟩ := HR.out
  go_wp2
  (try rw [Exit.noGoto_ret])
  refine bodyPost_ret (v := .tuple #[.agg #[.slice Y.F.A Y.F.n Y.F.c, .slice Y.lA Y.ln Y.lc, .int .i64 Y.fuse, .int .i64 Y.fault, .bool Y.off], .int .i64 ask.2]) ?_ rfl ⟨Y, by rw [HO.out]; rfl, by rw [HO.out]; exact HYs.out, hLe.out, hbe, HAw.out⟩
  simp [results, Try.results15, go_sem, *]
set_option maxRecDepth 20000 in
set_option maxHeartbeats 4000000 in
theorem ought_4_off (X : FileT) (x : DeedT) (B N : Nat) (w : World) (hL : LieF w B X) (hx : x.Ok w B N) (hB : B ≤ w.heap.size) (hN : ∀ p ∈ X.Q, p.n ≤ 1048576) (hr : X.right = true) (hq : whichN x.kind = 4) (ho : X.off = true) :
    Calls Try.prog 15 #[X.agg, .agg #[.int .i64 x.kind, .int .i64 x.n, .int .i64 x.tear, .slice x.bytes.A x.bytes.n x.bytes.c, .slice x.keep.A x.keep.n x.keep.c]] w (OpP X (AwayP x.bytes) (doS X.s X.long x) w) := by
  obtain ⟨out, hout⟩ : ∃ out : FileS × Int, (doS X.s X.long x) = out := ⟨_, rfl⟩
  have HO := Lib.hid (show out = (X.s, 10) from hout.symm.trans (by unfold doS; rw [if_neg (show ¬ whichN x.kind = 3 by omega), if_pos hq, if_pos (show X.s.off = true from ho)]))
  rw [hout]
  clear hout
  have hb := bel_alloc (bel_alloc (bel_alloc (Below.refl w.heap.size w) (.cells #[.slice X.F.A X.F.n X.F.c, .slice X.lA X.ln X.lc, .int .i64 X.fuse, .int .i64 X.fault, .bool X.off] 25)) (.cells #[.int .i64 x.kind, .int .i64 x.n, .int .i64 x.tear, .slice x.bytes.A x.bytes.n x.bytes.c, .slice x.keep.A x.keep.n x.keep.c] 34)) (.cells #[.slice none 0 0, .slice none 0 0, .int .i64 0, .int .i64 0, .bool false] 25)
  have HV := Lib.hid (((FVar.new w (.slice X.F.A X.F.n X.F.c) (.slice X.lA X.ln X.lc) (.int .i64 X.fuse) (.int .i64 X.fault) (.bool X.off) 25).lay (.cells #[.int .i64 x.kind, .int .i64 x.n, .int .i64 x.tear, .slice x.bytes.A x.bytes.n x.bytes.c, .slice x.keep.A x.keep.n x.keep.c] 34)).lay (.cells #[.slice none 0 0, .slice none 0 0, .int .i64 0, .int .i64 0, .bool false] 25))
  have hD := (DBox.new (w.alloc (.cells #[.slice X.F.A X.F.n X.F.c, .slice X.lA X.ln X.lc, .int .i64 X.fuse, .int .i64 X.fault, .bool X.off] 25)) x 34).later (bel_alloc (Below.refl _ _) (.cells #[.slice none 0 0, .slice none 0 0, .int .i64 0, .int .i64 0, .bool false] 25))
  rw [World.size_alloc] at hD
  have HD := Lib.hid hD
  have hR := FVar.new ((w.alloc (.cells #[.slice X.F.A X.F.n X.F.c, .slice X.lA X.ln X.lc, .int .i64 X.fuse, .int .i64 X.fault, .bool X.off] 25)).alloc (.cells #[.int .i64 x.kind, .int .i64 x.n, .int .i64 x.tear, .slice x.bytes.A x.bytes.n x.bytes.c, .slice x.keep.A x.keep.n x.keep.c] 34)) (.slice none 0 0) (.slice none 0 0) (.int .i64 0) (.int .i64 0) (.bool false) 25
  rw [World.size_alloc, World.size_alloc] at hR
  have HR := Lib.hid hR
  have hn3 : w.heap.size + 3 ≤ (((w.alloc (.cells #[.slice X.F.A X.F.n X.F.c, .slice X.lA X.ln X.lc, .int .i64 X.fuse, .int .i64 X.fault, .bool X.off] 25)).alloc (.cells #[.int .i64 x.kind, .int .i64 x.n, .int .i64 x.tear, .slice x.bytes.A x.bytes.n x.bytes.c, .slice x.keep.A x.keep.n x.keep.c] 34)).alloc (.cells #[.slice none 0 0, .slice none 0 0, .int .i64 0, .int .i64 0, .bool false] 25)).heap.size := by rw [World.size_alloc, World.size_alloc, World.size_alloc]; omega
  have HRi := Lib.hid (fun W (h : Below w.heap.size w W) => refRight_any X B W (hL.later (h.mono hB)) (Nat.le_trans hB h.size) hN)
  have HLa := Lib.hid (hL.more hB)
  have HBa := Lib.hid (hx.bytes.more hB)
  rw [hr] at HRi
  simp only [FileT.agg, PcT.val] at HRi ⊢
  have h3 : (((whichN x.kind : Nat) : Int) == 3) = false := by rw [beq_eq_false_iff_ne]; omega
  have h4 : (((whichN x.kind : Nat) : Int) == 4) = true := by rw [beq_iff_eq]; omega
  have h5 : (((whichN x.kind : Nat) : Int) == 5) = false := by rw [beq_eq_false_iff_ne]; omega
  have h6 : (((whichN x.kind : Nat) : Int) == 6) = false := by rw [beq_eq_false_iff_ne]; omega
  have Hwc := Lib.hid (fun W (h : Below w.heap.size w W) => which_any x W)
  generalize whichN x.kind = q at *
  clear hq
  have Ho := Lib.hid ho
  clear ho
  clear hR hD hN hr
  go_enter Try.func15, Try.ntmps15
  obtain ⟨⟨f0, f1, f2, f3, f4⟩, k0, k1, k2, k3, k4⟩ := HV.out
  obtain ⟨d0, d1, d2, d3, d4⟩ := HD.out
  obtain ⟨⟨j0, j1, j2, j3, j4⟩, m0, m1, m2, m3, m4⟩ := HR.out
  go_upto_region 1 with fail
  generalize ((w.alloc (.cells #[.slice X.F.A X.F.n X.F.c, .slice X.lA X.ln X.lc, .int .i64 X.fuse, .int .i64 X.fault, .bool X.off] 25)).alloc (.cells #[.int .i64 x.kind, .int .i64 x.n, .int .i64 x.tear, .slice x.bytes.A x.bytes.n x.bytes.c, .slice x.keep.A x.keep.n x.keep.c] 34)).alloc (.cells #[.slice none 0 0, .slice none 0 0, .int .i64 0, .int .i64 0, .bool false] 25) = W1 at *
  go_wp2_with fail
  refine (HRi.out _ hb).mono ?_
  rintro e W2 ⟨rfl, hbn⟩
  clear f0 f1 f2 f3 f4 k0 k1 k2 k3 k4 d0 d1 d2 d3 d4 j0 j1 j2 j3 j4 m0 m1 m2 m3 m4
  have HV := Lib.hid (HV.out.later hbn)
  have HD := Lib.hid (HD.out.later hbn)
  have HR := Lib.hid (HR.out.later hbn)
  have hn3 := Nat.le_trans hn3 hbn.size
  have hb := bel_next hb hbn
  clear hbn
  obtain ⟨⟨f0, f1, f2, f3, f4⟩, k0, k1, k2, k3, k4⟩ := HV.out
  obtain ⟨d0, d1, d2, d3, d4⟩ := HD.out
  obtain ⟨⟨j0, j1, j2, j3, j4⟩, m0, m1, m2, m3, m4⟩ := HR.out
  go_wp2_with fail
  refine (Hwc.out _ hb).mono ?_
  rintro e W3 ⟨rfl, hbn⟩
  clear f0 f1 f2 f3 f4 k0 k1 k2 k3 k4 d0 d1 d2 d3 d4 j0 j1 j2 j3 j4 m0 m1 m2 m3 m4
  have HV := Lib.hid (HV.out.later hbn)
  have HD := Lib.hid (HD.out.later hbn)
  have HR := Lib.hid (HR.out.later hbn)
  have hn3 := Nat.le_trans hn3 hbn.size
  have hb := bel_next hb hbn
  clear hbn
  obtain ⟨⟨f0, f1, f2, f3, f4⟩, k0, k1, k2, k3, k4⟩ := HV.out
  obtain ⟨d0, d1, d2, d3, d4⟩ := HD.out
  obtain ⟨⟨j0, j1, j2, j3, j4⟩, m0, m1, m2, m3, m4⟩ := HR.out
  rw [Ho.out] at f4
  have hbe := fbelow_set5 (a := .slice X.F.A X.F.n X.F.c) (b := .slice X.lA X.ln X.lc) (c := .int .i64 X.fuse) (d := .int .i64 X.fault) (e := .bool true) hb (show w.heap.size ≤ w.heap.size + 1 + 1 by omega)
  have hLe := Lib.hid ((hL.later (hbe.mono hB)).more (Nat.le_trans hB hbe.size))
  clear hb
  go_wp2
  (try rw [Exit.noGoto_ret])
  refine bodyPost_ret (v := .tuple #[.agg #[.slice X.F.A X.F.n X.F.c, .slice X.lA X.ln X.lc, .int .i64 X.fuse, .int .i64 X.fault, .bool true], .int .i64 10]) ?_ rfl ⟨X, (by rw [HO.out]; first | done | rfl | (simp only [FileT.agg, PcT.val, Ho.out])), (by rw [HO.out] <;> rfl), hLe.out, hbe, fun g hg h _ => h⟩
  simp [results, Try.results15, go_sem, *]
set_option maxRecDepth 20000 in
set_option maxHeartbeats 4000000 in
theorem ought_4_on (X : FileT) (x : DeedT) (B N : Nat) (w : World) (hL : LieF w B X) (hx : x.Ok w B N) (hB : B ≤ w.heap.size) (hN : ∀ p ∈ X.Q, p.n ≤ 1048576) (hr : X.right = true) (hq : whichN x.kind = 4) (ho : X.off = false) :
    Calls Try.prog 15 #[X.agg, .agg #[.int .i64 x.kind, .int .i64 x.n, .int .i64 x.tear, .slice x.bytes.A x.bytes.n x.bytes.c, .slice x.keep.A x.keep.n x.keep.c]] w (OpP X (AwayP x.bytes) (doS X.s X.long x) w) := by
  obtain ⟨out, hout⟩ : ∃ out : FileS × Int, (doS X.s X.long x) = out := ⟨_, rfl⟩
  have HO := Lib.hid (show out = (⟨X.F.l, X.L.map (·.l), max x.n (-1), X.fault, X.off⟩, 0) from hout.symm.trans (by unfold doS; rw [if_neg (show ¬ whichN x.kind = 3 by omega), if_pos hq, if_neg (show ¬ X.s.off = true by show ¬ X.off = true; rw [ho]; decide)]; rw [ho]; rfl))
  rw [hout]
  clear hout
  have hb := bel_alloc (bel_alloc (bel_alloc (Below.refl w.heap.size w) (.cells #[.slice X.F.A X.F.n X.F.c, .slice X.lA X.ln X.lc, .int .i64 X.fuse, .int .i64 X.fault, .bool X.off] 25)) (.cells #[.int .i64 x.kind, .int .i64 x.n, .int .i64 x.tear, .slice x.bytes.A x.bytes.n x.bytes.c, .slice x.keep.A x.keep.n x.keep.c] 34)) (.cells #[.slice none 0 0, .slice none 0 0, .int .i64 0, .int .i64 0, .bool false] 25)
  have HV := Lib.hid (((FVar.new w (.slice X.F.A X.F.n X.F.c) (.slice X.lA X.ln X.lc) (.int .i64 X.fuse) (.int .i64 X.fault) (.bool X.off) 25).lay (.cells #[.int .i64 x.kind, .int .i64 x.n, .int .i64 x.tear, .slice x.bytes.A x.bytes.n x.bytes.c, .slice x.keep.A x.keep.n x.keep.c] 34)).lay (.cells #[.slice none 0 0, .slice none 0 0, .int .i64 0, .int .i64 0, .bool false] 25))
  have hD := (DBox.new (w.alloc (.cells #[.slice X.F.A X.F.n X.F.c, .slice X.lA X.ln X.lc, .int .i64 X.fuse, .int .i64 X.fault, .bool X.off] 25)) x 34).later (bel_alloc (Below.refl _ _) (.cells #[.slice none 0 0, .slice none 0 0, .int .i64 0, .int .i64 0, .bool false] 25))
  rw [World.size_alloc] at hD
  have HD := Lib.hid hD
  have hR := FVar.new ((w.alloc (.cells #[.slice X.F.A X.F.n X.F.c, .slice X.lA X.ln X.lc, .int .i64 X.fuse, .int .i64 X.fault, .bool X.off] 25)).alloc (.cells #[.int .i64 x.kind, .int .i64 x.n, .int .i64 x.tear, .slice x.bytes.A x.bytes.n x.bytes.c, .slice x.keep.A x.keep.n x.keep.c] 34)) (.slice none 0 0) (.slice none 0 0) (.int .i64 0) (.int .i64 0) (.bool false) 25
  rw [World.size_alloc, World.size_alloc] at hR
  have HR := Lib.hid hR
  have hn3 : w.heap.size + 3 ≤ (((w.alloc (.cells #[.slice X.F.A X.F.n X.F.c, .slice X.lA X.ln X.lc, .int .i64 X.fuse, .int .i64 X.fault, .bool X.off] 25)).alloc (.cells #[.int .i64 x.kind, .int .i64 x.n, .int .i64 x.tear, .slice x.bytes.A x.bytes.n x.bytes.c, .slice x.keep.A x.keep.n x.keep.c] 34)).alloc (.cells #[.slice none 0 0, .slice none 0 0, .int .i64 0, .int .i64 0, .bool false] 25)).heap.size := by rw [World.size_alloc, World.size_alloc, World.size_alloc]; omega
  have HRi := Lib.hid (fun W (h : Below w.heap.size w W) => refRight_any X B W (hL.later (h.mono hB)) (Nat.le_trans hB h.size) hN)
  have HLa := Lib.hid (hL.more hB)
  have HBa := Lib.hid (hx.bytes.more hB)
  rw [hr] at HRi
  simp only [FileT.agg, PcT.val] at HRi ⊢
  have h3 : (((whichN x.kind : Nat) : Int) == 3) = false := by rw [beq_eq_false_iff_ne]; omega
  have h4 : (((whichN x.kind : Nat) : Int) == 4) = true := by rw [beq_iff_eq]; omega
  have h5 : (((whichN x.kind : Nat) : Int) == 5) = false := by rw [beq_eq_false_iff_ne]; omega
  have h6 : (((whichN x.kind : Nat) : Int) == 6) = false := by rw [beq_eq_false_iff_ne]; omega
  have Hwc := Lib.hid (fun W (h : Below w.heap.size w W) => which_any x W)
  generalize whichN x.kind = q at *
  clear hq
  have Ho := Lib.hid ho
  clear ho
  clear hR hD hN hr
  go_enter Try.func15, Try.ntmps15
  obtain ⟨⟨f0, f1, f2, f3, f4⟩, k0, k1, k2, k3, k4⟩ := HV.out
  obtain ⟨d0, d1, d2, d3, d4⟩ := HD.out
  obtain ⟨⟨j0, j1, j2, j3, j4⟩, m0, m1, m2, m3, m4⟩ := HR.out
  go_upto_region 1 with fail
  generalize ((w.alloc (.cells #[.slice X.F.A X.F.n X.F.c, .slice X.lA X.ln X.lc, .int .i64 X.fuse, .int .i64 X.fault, .bool X.off] 25)).alloc (.cells #[.int .i64 x.kind, .int .i64 x.n, .int .i64 x.tear, .slice x.bytes.A x.bytes.n x.bytes.c, .slice x.keep.A x.keep.n x.keep.c] 34)).alloc (.cells #[.slice none 0 0, .slice none 0 0, .int .i64 0, .int .i64 0, .bool false] 25) = W1 at *
  go_wp2_with fail
  refine (HRi.out _ hb).mono ?_
  rintro e W2 ⟨rfl, hbn⟩
  clear f0 f1 f2 f3 f4 k0 k1 k2 k3 k4 d0 d1 d2 d3 d4 j0 j1 j2 j3 j4 m0 m1 m2 m3 m4
  have HV := Lib.hid (HV.out.later hbn)
  have HD := Lib.hid (HD.out.later hbn)
  have HR := Lib.hid (HR.out.later hbn)
  have hn3 := Nat.le_trans hn3 hbn.size
  have hb := bel_next hb hbn
  clear hbn
  obtain ⟨⟨f0, f1, f2, f3, f4⟩, k0, k1, k2, k3, k4⟩ := HV.out
  obtain ⟨d0, d1, d2, d3, d4⟩ := HD.out
  obtain ⟨⟨j0, j1, j2, j3, j4⟩, m0, m1, m2, m3, m4⟩ := HR.out
  go_wp2_with fail
  refine (Hwc.out _ hb).mono ?_
  rintro e W3 ⟨rfl, hbn⟩
  clear f0 f1 f2 f3 f4 k0 k1 k2 k3 k4 d0 d1 d2 d3 d4 j0 j1 j2 j3 j4 m0 m1 m2 m3 m4
  have HV := Lib.hid (HV.out.later hbn)
  have HD := Lib.hid (HD.out.later hbn)
  have HR := Lib.hid (HR.out.later hbn)
  have hn3 := Nat.le_trans hn3 hbn.size
  have hb := bel_next hb hbn
  clear hbn
  obtain ⟨⟨f0, f1, f2, f3, f4⟩, k0, k1, k2, k3, k4⟩ := HV.out
  obtain ⟨d0, d1, d2, d3, d4⟩ := HD.out
  obtain ⟨⟨j0, j1, j2, j3, j4⟩, m0, m1, m2, m3, m4⟩ := HR.out
  rw [Ho.out] at f4
  have e1 : (if x.n < -1 then -1 else x.n) = max x.n (-1) := by split <;> omega
  have e2 : (if -1 < x.n then x.n else -1) = max x.n (-1) := by split <;> omega
  have Hmx := Lib.hid (max_wf hx.n)
  have HV4 := Lib.hid (HV.out.set2 (.int .i64 (max x.n (-1))))
  have HR4 := Lib.hid (HR.out.other (g := w.heap.size) (i := 2) (.int .i64 (max x.n (-1))) (show w.heap.size + 1 + 1 ≠ w.heap.size by omega))
  have hb4 := Below.setCell hb (p := ⟨w.heap.size, 2, none⟩) (Nat.le_refl w.heap.size) (.int .i64 (max x.n (-1)))
  obtain ⟨mx, hmx⟩ : ∃ m, max x.n (-1) = m := ⟨_, rfl⟩
  rw [hmx] at e1 e2 Hmx HV4 HR4 hb4 HO
  clear hmx hb
  go_upto_region 15 with fail
  clear f0 f1 f2 f3 f4 k0 k1 k2 k3 k4 d0 d1 d2 d3 d4 j0 j1 j2 j3 j4 m0 m1 m2 m3 m4
  clear HV HR HD e1 e2
  generalize W3.setCell ⟨w.heap.size, 2, none⟩ (.int .i64 mx) = W5 at *
  have HV := HV4
  have HR := HR4
  have hb := hb4
  clear HV4 HR4 hb4
  obtain ⟨⟨f0, f1, f2, f3, f4⟩, k0, k1, k2, k3, k4⟩ := HV.out
  obtain ⟨⟨j0, j1, j2, j3, j4⟩, m0, m1, m2, m3, m4⟩ := HR.out
  have hbe := fbelow_set5 (a := .slice X.F.A X.F.n X.F.c) (b := .slice X.lA X.ln X.lc) (c := .int .i64 (mx)) (d := .int .i64 X.fault) (e := .bool X.off) hb (show w.heap.size ≤ w.heap.size + 1 + 1 by omega)
  have hLe := Lib.hid (lie_put hL hbe hB (of := X.off) Hmx.out hL.fault)
  clear hb
  go_wp2
  (try rw [Exit.noGoto_ret])
  refine bodyPost_ret (v := .tuple #[.agg #[.slice X.F.A X.F.n X.F.c, .slice X.lA X.ln X.lc, .int .i64 (mx), .int .i64 X.fault, .bool X.off], .int .i64 0]) ?_ rfl ⟨⟨X.F, X.lA, X.ln, X.lc, X.L, mx, X.fault, X.off⟩, (by rw [HO.out]; first | done | rfl | (simp only [FileT.agg, PcT.val, Ho.out])), (by rw [HO.out] <;> rfl), hLe.out, hbe, fun g hg h _ => ⟨h.firm, h.row, h.loose⟩⟩
  simp [results, Try.results15, go_sem, *]
set_option maxRecDepth 20000 in
set_option maxHeartbeats 4000000 in
theorem ought_5_off (X : FileT) (x : DeedT) (B N : Nat) (w : World) (hL : LieF w B X) (hx : x.Ok w B N) (hB : B ≤ w.heap.size) (hN : ∀ p ∈ X.Q, p.n ≤ 1048576) (hr : X.right = true) (hq : whichN x.kind = 5) (ho : X.off = true) :
    Calls Try.prog 15 #[X.agg, .agg #[.int .i64 x.kind, .int .i64 x.n, .int .i64 x.tear, .slice x.bytes.A x.bytes.n x.bytes.c, .slice x.keep.A x.keep.n x.keep.c]] w (OpP X (AwayP x.bytes) (doS X.s X.long x) w) := by
  obtain ⟨out, hout⟩ : ∃ out : FileS × Int, (doS X.s X.long x) = out := ⟨_, rfl⟩
  have HO := Lib.hid (show out = (X.s, 10) from hout.symm.trans (by unfold doS; rw [if_neg (show ¬ whichN x.kind = 3 by omega), if_neg (show ¬ whichN x.kind = 4 by omega), if_pos hq, if_pos (show X.s.off = true from ho)]))
  rw [hout]
  clear hout
  have hb := bel_alloc (bel_alloc (bel_alloc (Below.refl w.heap.size w) (.cells #[.slice X.F.A X.F.n X.F.c, .slice X.lA X.ln X.lc, .int .i64 X.fuse, .int .i64 X.fault, .bool X.off] 25)) (.cells #[.int .i64 x.kind, .int .i64 x.n, .int .i64 x.tear, .slice x.bytes.A x.bytes.n x.bytes.c, .slice x.keep.A x.keep.n x.keep.c] 34)) (.cells #[.slice none 0 0, .slice none 0 0, .int .i64 0, .int .i64 0, .bool false] 25)
  have HV := Lib.hid (((FVar.new w (.slice X.F.A X.F.n X.F.c) (.slice X.lA X.ln X.lc) (.int .i64 X.fuse) (.int .i64 X.fault) (.bool X.off) 25).lay (.cells #[.int .i64 x.kind, .int .i64 x.n, .int .i64 x.tear, .slice x.bytes.A x.bytes.n x.bytes.c, .slice x.keep.A x.keep.n x.keep.c] 34)).lay (.cells #[.slice none 0 0, .slice none 0 0, .int .i64 0, .int .i64 0, .bool false] 25))
  have hD := (DBox.new (w.alloc (.cells #[.slice X.F.A X.F.n X.F.c, .slice X.lA X.ln X.lc, .int .i64 X.fuse, .int .i64 X.fault, .bool X.off] 25)) x 34).later (bel_alloc (Below.refl _ _) (.cells #[.slice none 0 0, .slice none 0 0, .int .i64 0, .int .i64 0, .bool false] 25))
  rw [World.size_alloc] at hD
  have HD := Lib.hid hD
  have hR := FVar.new ((w.alloc (.cells #[.slice X.F.A X.F.n X.F.c, .slice X.lA X.ln X.lc, .int .i64 X.fuse, .int .i64 X.fault, .bool X.off] 25)).alloc (.cells #[.int .i64 x.kind, .int .i64 x.n, .int .i64 x.tear, .slice x.bytes.A x.bytes.n x.bytes.c, .slice x.keep.A x.keep.n x.keep.c] 34)) (.slice none 0 0) (.slice none 0 0) (.int .i64 0) (.int .i64 0) (.bool false) 25
  rw [World.size_alloc, World.size_alloc] at hR
  have HR := Lib.hid hR
  have hn3 : w.heap.size + 3 ≤ (((w.alloc (.cells #[.slice X.F.A X.F.n X.F.c, .slice X.lA X.ln X.lc, .int .i64 X.fuse, .int .i64 X.fault, .bool X.off] 25)).alloc (.cells #[.int .i64 x.kind, .int .i64 x.n, .int .i64 x.tear, .slice x.bytes.A x.bytes.n x.bytes.c, .slice x.keep.A x.keep.n x.keep.c] 34)).alloc (.cells #[.slice none 0 0, .slice none 0 0, .int .i64 0, .int .i64 0, .bool false] 25)).heap.size := by rw [World.size_alloc, World.size_alloc, World.size_alloc]; omega
  have HRi := Lib.hid (fun W (h : Below w.heap.size w W) => refRight_any X B W (hL.later (h.mono hB)) (Nat.le_trans hB h.size) hN)
  have HLa := Lib.hid (hL.more hB)
  have HBa := Lib.hid (hx.bytes.more hB)
  rw [hr] at HRi
  simp only [FileT.agg, PcT.val] at HRi ⊢
  have h3 : (((whichN x.kind : Nat) : Int) == 3) = false := by rw [beq_eq_false_iff_ne]; omega
  have h4 : (((whichN x.kind : Nat) : Int) == 4) = false := by rw [beq_eq_false_iff_ne]; omega
  have h5 : (((whichN x.kind : Nat) : Int) == 5) = true := by rw [beq_iff_eq]; omega
  have h6 : (((whichN x.kind : Nat) : Int) == 6) = false := by rw [beq_eq_false_iff_ne]; omega
  have Hwc := Lib.hid (fun W (h : Below w.heap.size w W) => which_any x W)
  generalize whichN x.kind = q at *
  clear hq
  have Ho := Lib.hid ho
  clear ho
  clear hR hD hN hr
  go_enter Try.func15, Try.ntmps15
  obtain ⟨⟨f0, f1, f2, f3, f4⟩, k0, k1, k2, k3, k4⟩ := HV.out
  obtain ⟨d0, d1, d2, d3, d4⟩ := HD.out
  obtain ⟨⟨j0, j1, j2, j3, j4⟩, m0, m1, m2, m3, m4⟩ := HR.out
  go_upto_region 1 with fail
  generalize ((w.alloc (.cells #[.slice X.F.A X.F.n X.F.c, .slice X.lA X.ln X.lc, .int .i64 X.fuse, .int .i64 X.fault, .bool X.off] 25)).alloc (.cells #[.int .i64 x.kind, .int .i64 x.n, .int .i64 x.tear, .slice x.bytes.A x.bytes.n x.bytes.c, .slice x.keep.A x.keep.n x.keep.c] 34)).alloc (.cells #[.slice none 0 0, .slice none 0 0, .int .i64 0, .int .i64 0, .bool false] 25) = W1 at *
  go_wp2_with fail
  refine (HRi.out _ hb).mono ?_
  rintro e W2 ⟨rfl, hbn⟩
  clear f0 f1 f2 f3 f4 k0 k1 k2 k3 k4 d0 d1 d2 d3 d4 j0 j1 j2 j3 j4 m0 m1 m2 m3 m4
  have HV := Lib.hid (HV.out.later hbn)
  have HD := Lib.hid (HD.out.later hbn)
  have HR := Lib.hid (HR.out.later hbn)
  have hn3 := Nat.le_trans hn3 hbn.size
  have hb := bel_next hb hbn
  clear hbn
  obtain ⟨⟨f0, f1, f2, f3, f4⟩, k0, k1, k2, k3, k4⟩ := HV.out
  obtain ⟨d0, d1, d2, d3, d4⟩ := HD.out
  obtain ⟨⟨j0, j1, j2, j3, j4⟩, m0, m1, m2, m3, m4⟩ := HR.out
  go_wp2_with fail
  refine (Hwc.out _ hb).mono ?_
  rintro e W3 ⟨rfl, hbn⟩
  clear f0 f1 f2 f3 f4 k0 k1 k2 k3 k4 d0 d1 d2 d3 d4 j0 j1 j2 j3 j4 m0 m1 m2 m3 m4
  have HV := Lib.hid (HV.out.later hbn)
  have HD := Lib.hid (HD.out.later hbn)
  have HR := Lib.hid (HR.out.later hbn)
  have hn3 := Nat.le_trans hn3 hbn.size
  have hb := bel_next hb hbn
  clear hbn
  obtain ⟨⟨f0, f1, f2, f3, f4⟩, k0, k1, k2, k3, k4⟩ := HV.out
  obtain ⟨d0, d1, d2, d3, d4⟩ := HD.out
  obtain ⟨⟨j0, j1, j2, j3, j4⟩, m0, m1, m2, m3, m4⟩ := HR.out
  rw [Ho.out] at f4
  have hbe := fbelow_set5 (a := .slice X.F.A X.F.n X.F.c) (b := .slice X.lA X.ln X.lc) (c := .int .i64 X.fuse) (d := .int .i64 X.fault) (e := .bool true) hb (show w.heap.size ≤ w.heap.size + 1 + 1 by omega)
  have hLe := Lib.hid ((hL.later (hbe.mono hB)).more (Nat.le_trans hB hbe.size))
  clear hb
  go_wp2
  (try rw [Exit.noGoto_ret])
  refine bodyPost_ret (v := .tuple #[.agg #[.slice X.F.A X.F.n X.F.c, .slice X.lA X.ln X.lc, .int .i64 X.fuse, .int .i64 X.fault, .bool true], .int .i64 10]) ?_ rfl ⟨X, (by rw [HO.out]; first | done | rfl | (simp only [FileT.agg, PcT.val, Ho.out])), (by rw [HO.out] <;> rfl), hLe.out, hbe, fun g hg h _ => h⟩
  simp [results, Try.results15, go_sem, *]
set_option maxRecDepth 20000 in
set_option maxHeartbeats 4000000 in
theorem ought_5_on (X : FileT) (x : DeedT) (B N : Nat) (w : World) (hL : LieF w B X) (hx : x.Ok w B N) (hB : B ≤ w.heap.size) (hN : ∀ p ∈ X.Q, p.n ≤ 1048576) (hr : X.right = true) (hq : whichN x.kind = 5) (ho : X.off = false) :
    Calls Try.prog 15 #[X.agg, .agg #[.int .i64 x.kind, .int .i64 x.n, .int .i64 x.tear, .slice x.bytes.A x.bytes.n x.bytes.c, .slice x.keep.A x.keep.n x.keep.c]] w (OpP X (AwayP x.bytes) (doS X.s X.long x) w) := by
  obtain ⟨out, hout⟩ : ∃ out : FileS × Int, (doS X.s X.long x) = out := ⟨_, rfl⟩
  have HO := Lib.hid (show out = (⟨X.F.l, X.L.map (·.l), X.fuse, max x.n (-1), X.off⟩, 0) from hout.symm.trans (by unfold doS; rw [if_neg (show ¬ whichN x.kind = 3 by omega), if_neg (show ¬ whichN x.kind = 4 by omega), if_pos hq, if_neg (show ¬ X.s.off = true by show ¬ X.off = true; rw [ho]; decide)]; rw [ho]; rfl))
  rw [hout]
  clear hout
  have hb := bel_alloc (bel_alloc (bel_alloc (Below.refl w.heap.size w) (.cells #[.slice X.F.A X.F.n X.F.c, .slice X.lA X.ln X.lc, .int .i64 X.fuse, .int .i64 X.fault, .bool X.off] 25)) (.cells #[.int .i64 x.kind, .int .i64 x.n, .int .i64 x.tear, .slice x.bytes.A x.bytes.n x.bytes.c, .slice x.keep.A x.keep.n x.keep.c] 34)) (.cells #[.slice none 0 0, .slice none 0 0, .int .i64 0, .int .i64 0, .bool false] 25)
  have HV := Lib.hid (((FVar.new w (.slice X.F.A X.F.n X.F.c) (.slice X.lA X.ln X.lc) (.int .i64 X.fuse) (.int .i64 X.fault) (.bool X.off) 25).lay (.cells #[.int .i64 x.kind, .int .i64 x.n, .int .i64 x.tear, .slice x.bytes.A x.bytes.n x.bytes.c, .slice x.keep.A x.keep.n x.keep.c] 34)).lay (.cells #[.slice none 0 0, .slice none 0 0, .int .i64 0, .int .i64 0, .bool false] 25))
  have hD := (DBox.new (w.alloc (.cells #[.slice X.F.A X.F.n X.F.c, .slice X.lA X.ln X.lc, .int .i64 X.fuse, .int .i64 X.fault, .bool X.off] 25)) x 34).later (bel_alloc (Below.refl _ _) (.cells #[.slice none 0 0, .slice none 0 0, .int .i64 0, .int .i64 0, .bool false] 25))
  rw [World.size_alloc] at hD
  have HD := Lib.hid hD
  have hR := FVar.new ((w.alloc (.cells #[.slice X.F.A X.F.n X.F.c, .slice X.lA X.ln X.lc, .int .i64 X.fuse, .int .i64 X.fault, .bool X.off] 25)).alloc (.cells #[.int .i64 x.kind, .int .i64 x.n, .int .i64 x.tear, .slice x.bytes.A x.bytes.n x.bytes.c, .slice x.keep.A x.keep.n x.keep.c] 34)) (.slice none 0 0) (.slice none 0 0) (.int .i64 0) (.int .i64 0) (.bool false) 25
  rw [World.size_alloc, World.size_alloc] at hR
  have HR := Lib.hid hR
  have hn3 : w.heap.size + 3 ≤ (((w.alloc (.cells #[.slice X.F.A X.F.n X.F.c, .slice X.lA X.ln X.lc, .int .i64 X.fuse, .int .i64 X.fault, .bool X.off] 25)).alloc (.cells #[.int .i64 x.kind, .int .i64 x.n, .int .i64 x.tear, .slice x.bytes.A x.bytes.n x.bytes.c, .slice x.keep.A x.keep.n x.keep.c] 34)).alloc (.cells #[.slice none 0 0, .slice none 0 0, .int .i64 0, .int .i64 0, .bool false] 25)).heap.size := by rw [World.size_alloc, World.size_alloc, World.size_alloc]; omega
  have HRi := Lib.hid (fun W (h : Below w.heap.size w W) => refRight_any X B W (hL.later (h.mono hB)) (Nat.le_trans hB h.size) hN)
  have HLa := Lib.hid (hL.more hB)
  have HBa := Lib.hid (hx.bytes.more hB)
  rw [hr] at HRi
  simp only [FileT.agg, PcT.val] at HRi ⊢
  have h3 : (((whichN x.kind : Nat) : Int) == 3) = false := by rw [beq_eq_false_iff_ne]; omega
  have h4 : (((whichN x.kind : Nat) : Int) == 4) = false := by rw [beq_eq_false_iff_ne]; omega
  have h5 : (((whichN x.kind : Nat) : Int) == 5) = true := by rw [beq_iff_eq]; omega
  have h6 : (((whichN x.kind : Nat) : Int) == 6) = false := by rw [beq_eq_false_iff_ne]; omega
  have Hwc := Lib.hid (fun W (h : Below w.heap.size w W) => which_any x W)
  generalize whichN x.kind = q at *
  clear hq
  have Ho := Lib.hid ho
  clear ho
  clear hR hD hN hr
  go_enter Try.func15, Try.ntmps15
  obtain ⟨⟨f0, f1, f2, f3, f4⟩, k0, k1, k2, k3, k4⟩ := HV.out
  obtain ⟨d0, d1, d2, d3, d4⟩ := HD.out
  obtain ⟨⟨j0, j1, j2, j3, j4⟩, m0, m1, m2, m3, m4⟩ := HR.out
  go_upto_region 1 with fail
  generalize ((w.alloc (.cells #[.slice X.F.A X.F.n X.F.c, .slice X.lA X.ln X.lc, .int .i64 X.fuse, .int .i64 X.fault, .bool X.off] 25)).alloc (.cells #[.int .i64 x.kind, .int .i64 x.n, .int .i64 x.tear, .slice x.bytes.A x.bytes.n x.bytes.c, .slice x.keep.A x.keep.n x.keep.c] 34)).alloc (.cells #[.slice none 0 0, .slice none 0 0, .int .i64 0, .int .i64 0, .bool false] 25) = W1 at *
  go_wp2_with fail
  refine (HRi.out _ hb).mono ?_
  rintro e W2 ⟨rfl, hbn⟩
  clear f0 f1 f2 f3 f4 k0 k1 k2 k3 k4 d0 d1 d2 d3 d4 j0 j1 j2 j3 j4 m0 m1 m2 m3 m4
  have HV := Lib.hid (HV.out.later hbn)
  have HD := Lib.hid (HD.out.later hbn)
  have HR := Lib.hid (HR.out.later hbn)
  have hn3 := Nat.le_trans hn3 hbn.size
  have hb := bel_next hb hbn
  clear hbn
  obtain ⟨⟨f0, f1, f2, f3, f4⟩, k0, k1, k2, k3, k4⟩ := HV.out
  obtain ⟨d0, d1, d2, d3, d4⟩ := HD.out
  obtain ⟨⟨j0, j1, j2, j3, j4⟩, m0, m1, m2, m3, m4⟩ := HR.out
  go_wp2_with fail
  refine (Hwc.out _ hb).mono ?_
  rintro e W3 ⟨rfl, hbn⟩
  clear f0 f1 f2 f3 f4 k0 k1 k2 k3 k4 d0 d1 d2 d3 d4 j0 j1 j2 j3 j4 m0 m1 m2 m3 m4
  have HV := Lib.hid (HV.out.later hbn)
  have HD := Lib.hid (HD.out.later hbn)
  have HR := Lib.hid (HR.out.later hbn)
  have hn3 := Nat.le_trans hn3 hbn.size
  have hb := bel_next hb hbn
  clear hbn
  obtain ⟨⟨f0, f1, f2, f3, f4⟩, k0, k1, k2, k3, k4⟩ := HV.out
  obtain ⟨d0, d1, d2, d3, d4⟩ := HD.out
  obtain ⟨⟨j0, j1, j2, j3, j4⟩, m0, m1, m2, m3, m4⟩ := HR.out
  rw [Ho.out] at f4
  have e1 : (if x.n < -1 then -1 else x.n) = max x.n (-1) := by split <;> omega
  have e2 : (if -1 < x.n then x.n else -1) = max x.n (-1) := by split <;> omega
  have Hmx := Lib.hid (max_wf hx.n)
  have HV4 := Lib.hid (HV.out.set3 (.int .i64 (max x.n (-1))))
  have HR4 := Lib.hid (HR.out.other (g := w.heap.size) (i := 3) (.int .i64 (max x.n (-1))) (show w.heap.size + 1 + 1 ≠ w.heap.size by omega))
  have hb4 := Below.setCell hb (p := ⟨w.heap.size, 3, none⟩) (Nat.le_refl w.heap.size) (.int .i64 (max x.n (-1)))
  obtain ⟨mx, hmx⟩ : ∃ m, max x.n (-1) = m := ⟨_, rfl⟩
  rw [hmx] at e1 e2 Hmx HV4 HR4 hb4 HO
  clear hmx hb
  go_upto_region 15 with fail
  clear f0 f1 f2 f3 f4 k0 k1 k2 k3 k4 d0 d1 d2 d3 d4 j0 j1 j2 j3 j4 m0 m1 m2 m3 m4
  clear HV HR HD e1 e2
  generalize W3.setCell ⟨w.heap.size, 3, none⟩ (.int .i64 mx) = W5 at *
  have HV := HV4
  have HR := HR4
  have hb := hb4
  clear HV4 HR4 hb4
  obtain ⟨⟨f0, f1, f2, f3, f4⟩, k0, k1, k2, k3, k4⟩ := HV.out
  obtain ⟨⟨j0, j1, j2, j3, j4⟩, m0, m1, m2, m3, m4⟩ := HR.out
  have hbe := fbelow_set5 (a := .slice X.F.A X.F.n X.F.c) (b := .slice X.lA X.ln X.lc) (c := .int .i64 X.fuse) (d := .int .i64 (mx)) (e := .bool X.off) hb (show w.heap.size ≤ w.heap.size + 1 + 1 by omega)
  have hLe := Lib.hid (lie_put hL hbe hB (of := X.off) hL.fuse Hmx.out)
  clear hb
  go_wp2
  (try rw [Exit.noGoto_ret])
  refine bodyPost_ret (v := .tuple #[.agg #[.slice X.F.A X.F.n X.F.c, .slice X.lA X.ln X.lc, .int .i64 X.fuse, .int .i64 (mx), .bool X.off], .int .i64 0]) ?_ rfl ⟨⟨X.F, X.lA, X.ln, X.lc, X.L, X.fuse, mx, X.off⟩, (by rw [HO.out]; first | done | rfl | (simp only [FileT.agg, PcT.val, Ho.out])), (by rw [HO.out] <;> rfl), hLe.out, hbe, fun g hg h _ => ⟨h.firm, h.row, h.loose⟩⟩
  simp [results, Try.results15, go_sem, *]
set_option maxRecDepth 20000 in
set_option maxHeartbeats 4000000 in
theorem ought_6 (X : FileT) (x : DeedT) (B N : Nat) (w : World) (hL : LieF w B X) (hx : x.Ok w B N) (hB : B ≤ w.heap.size) (hN : ∀ p ∈ X.Q, p.n ≤ 1048576) (hr : X.right = true) (hq : whichN x.kind = 6) :
    Calls Try.prog 15 #[X.agg, .agg #[.int .i64 x.kind, .int .i64 x.n, .int .i64 x.tear, .slice x.bytes.A x.bytes.n x.bytes.c, .slice x.keep.A x.keep.n x.keep.c]] w (OpP X (AwayP x.bytes) (doS X.s X.long x) w) := by
  obtain ⟨out, hout⟩ : ∃ out : FileS × Int, (doS X.s X.long x) = out := ⟨_, rfl⟩
  have HO := Lib.hid (show out = (X.s.crash x.keep.l x.tear x.n, 0) from hout.symm.trans (by unfold doS; rw [if_neg (show ¬ whichN x.kind = 3 by omega), if_neg (show ¬ whichN x.kind = 4 by omega), if_neg (show ¬ whichN x.kind = 5 by omega), if_pos hq]))
  rw [hout]
  clear hout
  have hb := bel_alloc (bel_alloc (bel_alloc (Below.refl w.heap.size w) (.cells #[.slice X.F.A X.F.n X.F.c, .slice X.lA X.ln X.lc, .int .i64 X.fuse, .int .i64 X.fault, .bool X.off] 25)) (.cells #[.int .i64 x.kind, .int .i64 x.n, .int .i64 x.tear, .slice x.bytes.A x.bytes.n x.bytes.c, .slice x.keep.A x.keep.n x.keep.c] 34)) (.cells #[.slice none 0 0, .slice none 0 0, .int .i64 0, .int .i64 0, .bool false] 25)
  have HV := Lib.hid (((FVar.new w (.slice X.F.A X.F.n X.F.c) (.slice X.lA X.ln X.lc) (.int .i64 X.fuse) (.int .i64 X.fault) (.bool X.off) 25).lay (.cells #[.int .i64 x.kind, .int .i64 x.n, .int .i64 x.tear, .slice x.bytes.A x.bytes.n x.bytes.c, .slice x.keep.A x.keep.n x.keep.c] 34)).lay (.cells #[.slice none 0 0, .slice none 0 0, .int .i64 0, .int .i64 0, .bool false] 25))
  have hD := (DBox.new (w.alloc (.cells #[.slice X.F.A X.F.n X.F.c, .slice X.lA X.ln X.lc, .int .i64 X.fuse, .int .i64 X.fault, .bool X.off] 25)) x 34).later (bel_alloc (Below.refl _ _) (.cells #[.slice none 0 0, .slice none 0 0, .int .i64 0, .int .i64 0, .bool false] 25))
  rw [World.size_alloc] at hD
  have HD := Lib.hid hD
  have hR := FVar.new ((w.alloc (.cells #[.slice X.F.A X.F.n X.F.c, .slice X.lA X.ln X.lc, .int .i64 X.fuse, .int .i64 X.fault, .bool X.off] 25)).alloc (.cells #[.int .i64 x.kind, .int .i64 x.n, .int .i64 x.tear, .slice x.bytes.A x.bytes.n x.bytes.c, .slice x.keep.A x.keep.n x.keep.c] 34)) (.slice none 0 0) (.slice none 0 0) (.int .i64 0) (.int .i64 0) (.bool false) 25
  rw [World.size_alloc, World.size_alloc] at hR
  have HR := Lib.hid hR
  have hn3 : w.heap.size + 3 ≤ (((w.alloc (.cells #[.slice X.F.A X.F.n X.F.c, .slice X.lA X.ln X.lc, .int .i64 X.fuse, .int .i64 X.fault, .bool X.off] 25)).alloc (.cells #[.int .i64 x.kind, .int .i64 x.n, .int .i64 x.tear, .slice x.bytes.A x.bytes.n x.bytes.c, .slice x.keep.A x.keep.n x.keep.c] 34)).alloc (.cells #[.slice none 0 0, .slice none 0 0, .int .i64 0, .int .i64 0, .bool false] 25)).heap.size := by rw [World.size_alloc, World.size_alloc, World.size_alloc]; omega
  have HRi := Lib.hid (fun W (h : Below w.heap.size w W) => refRight_any X B W (hL.later (h.mono hB)) (Nat.le_trans hB h.size) hN)
  have HLa := Lib.hid (hL.more hB)
  have HBa := Lib.hid (hx.bytes.more hB)
  rw [hr] at HRi
  have HC := Lib.hid (fun W (h : Below w.heap.size w W) => refCrash_any X x.keep x.tear x.n B W (hL.later (h.mono hB)) (hx.keep.later (h.mono hB)) (Nat.le_trans hB h.size) hr)
  simp only [FileT.agg, PcT.val] at HRi HC ⊢
  have h3 : (((whichN x.kind : Nat) : Int) == 3) = false := by rw [beq_eq_false_iff_ne]; omega
  have h4 : (((whichN x.kind : Nat) : Int) == 4) = false := by rw [beq_eq_false_iff_ne]; omega
  have h5 : (((whichN x.kind : Nat) : Int) == 5) = false := by rw [beq_eq_false_iff_ne]; omega
  have h6 : (((whichN x.kind : Nat) : Int) == 6) = true := by rw [beq_iff_eq]; omega
  have Hwc := Lib.hid (fun W (h : Below w.heap.size w W) => which_any x W)
  generalize whichN x.kind = q at *
  clear hq
  clear hR hD hN hr
  go_enter Try.func15, Try.ntmps15
  obtain ⟨⟨f0, f1, f2, f3, f4⟩, k0, k1, k2, k3, k4⟩ := HV.out
  obtain ⟨d0, d1, d2, d3, d4⟩ := HD.out
  obtain ⟨⟨j0, j1, j2, j3, j4⟩, m0, m1, m2, m3, m4⟩ := HR.out
  go_upto_region 1 with fail
  generalize ((w.alloc (.cells #[.slice X.F.A X.F.n X.F.c, .slice X.lA X.ln X.lc, .int .i64 X.fuse, .int .i64 X.fault, .bool X.off] 25)).alloc (.cells #[.int .i64 x.kind, .int .i64 x.n, .int .i64 x.tear, .slice x.bytes.A x.bytes.n x.bytes.c, .slice x.keep.A x.keep.n x.keep.c] 34)).alloc (.cells #[.slice none 0 0, .slice none 0 0, .int .i64 0, .int .i64 0, .bool false] 25) = W1 at *
  go_wp2_with fail
  refine (HRi.out _ hb).mono ?_
  rintro e W2 ⟨rfl, hbn⟩
  clear f0 f1 f2 f3 f4 k0 k1 k2 k3 k4 d0 d1 d2 d3 d4 j0 j1 j2 j3 j4 m0 m1 m2 m3 m4
  have HV := Lib.hid (HV.out.later hbn)
  have HD := Lib.hid (HD.out.later hbn)
  have HR := Lib.hid (HR.out.later hbn)
  have hn3 := Nat.le_trans hn3 hbn.size
  have hb := bel_next hb hbn
  clear hbn
  obtain ⟨⟨f0, f1, f2, f3, f4⟩, k0, k1, k2, k3, k4⟩ := HV.out
  obtain ⟨d0, d1, d2, d3, d4⟩ := HD.out
  obtain ⟨⟨j0, j1, j2, j3, j4⟩, m0, m1, m2, m3, m4⟩ := HR.out
  go_wp2_with fail
  refine (Hwc.out _ hb).mono ?_
  rintro e W3 ⟨rfl, hbn⟩
  clear f0 f1 f2 f3 f4 k0 k1 k2 k3 k4 d0 d1 d2 d3 d4 j0 j1 j2 j3 j4 m0 m1 m2 m3 m4
  have HV := Lib.hid (HV.out.later hbn)
  have HD := Lib.hid (HD.out.later hbn)
  have HR := Lib.hid (HR.out.later hbn)
  have hn3 := Nat.le_trans hn3 hbn.size
  have hb := bel_next hb hbn
  clear hbn
  obtain ⟨⟨f0, f1, f2, f3, f4⟩, k0, k1, k2, k3, k4⟩ := HV.out
  obtain ⟨d0, d1, d2, d3, d4⟩ := HD.out
  obtain ⟨⟨j0, j1, j2, j3, j4⟩, m0, m1, m2, m3, m4⟩ := HR.out
  go_wp2_with fail
  refine (HC.out _ hb).mono ?_
  rintro e W4 ⟨Y, rfl, hYs, hYL, hb4, haw⟩
  clear f0 f1 f2 f3 f4 k0 k1 k2 k3 k4 d0 d1 d2 d3 d4 j0 j1 j2 j3 j4 m0 m1 m2 m3 m4
  have haw : ∀ g, g < W3.heap.size → AwayF X g → True → AwayF Y g := fun g hg _ _ => haw g hg
  have hs4 := hb.size
  have HAw := Lib.hid (show ∀ g, g < w.heap.size → AwayF X g → AwayP x.bytes g → AwayF Y g from fun g hg h1 h2 => haw g (by omega) h1 trivial)
  have ha2 := haw (w.heap.size + 1 + 1) (by omega) (HLa.out.away (by omega)) trivial
  have hb := bel_next hb hb4
  have HR := Lib.hid (HR.out.later hb4)
  have hbe := fbelow_set5 (a := .slice Y.F.A Y.F.n Y.F.c) (b := .slice Y.lA Y.ln Y.lc) (c := .int .i64 Y.fuse) (d := .int .i64 Y.fault) (e := .bool Y.off) hb (show w.heap.size ≤ w.heap.size + 1 + 1 by omega)
  have hLe := Lib.hid (lie_res (g := w.heap.size + 1 + 1) (a := .slice Y.F.A Y.F.n Y.F.c) (b := .slice Y.lA Y.ln Y.lc) (c := .int .i64 Y.fuse) (d := .int .i64 Y.fault) (e := .bool Y.off) hYL ha2)
  have HYs := Lib.hid hYs
  clear hb hYL haw ha2 hYs hb4
  obtain ⟨⟨j0, j1, j2, j3, j4⟩, m0, m1, m2, m3, m4⟩ := HR.out
  go_wp2
  (try rw [Exit.noGoto_ret])
  refine bodyPost_ret (v := .tuple #[.agg #[.slice Y.F.A Y.F.n Y.F.c, .slice Y.lA Y.ln Y.lc, .int .i64 Y.fuse, .int .i64 Y.fault, .bool Y.off], .int .i64 0]) ?_ rfl ⟨Y, by rw [HO.out]; rfl, by rw [HO.out]; exact HYs.out, hLe.out, hbe, HAw.out⟩
  simp [results, Try.results15, go_sem, *]
set_option maxRecDepth 20000 in
set_option maxHeartbeats 4000000 in
theorem ought_a0 (X : FileT) (x : DeedT) (B N : Nat) (w : World) (hL : LieF w B X) (hx : x.Ok w B N) (hB : B ≤ w.heap.size) (hN : ∀ p ∈ X.Q, p.n ≤ 1048576) (hr : X.right = true) (hq : ¬ (whichN x.kind = 3 ∨ whichN x.kind = 4 ∨ whichN x.kind = 5 ∨ whichN x.kind = 6)) (h0 : x.bytes.n = 0) :
    Calls Try.prog 15 #[X.agg, .agg #[.int .i64 x.kind, .int .i64 x.n, .int .i64 x.tear, .slice x.bytes.A x.bytes.n x.bytes.c, .slice x.keep.A x.keep.n x.keep.c]] w (OpP X (AwayP x.bytes) (doS X.s X.long x) w) := by
  obtain ⟨out, hout⟩ : ∃ out : FileS × Int, (doS X.s X.long x) = out := ⟨_, rfl⟩
  have HO := Lib.hid (show out = (X.s, 2) from hout.symm.trans (by unfold doS; rw [if_neg (show ¬ whichN x.kind = 3 by omega), if_neg (show ¬ whichN x.kind = 4 by omega), if_neg (show ¬ whichN x.kind = 5 by omega), if_neg (show ¬ whichN x.kind = 6 by omega), if_pos h0]))
  rw [hout]
  clear hout
  have hb := bel_alloc (bel_alloc (bel_alloc (Below.refl w.heap.size w) (.cells #[.slice X.F.A X.F.n X.F.c, .slice X.lA X.ln X.lc, .int .i64 X.fuse, .int .i64 X.fault, .bool X.off] 25)) (.cells #[.int .i64 x.kind, .int .i64 x.n, .int .i64 x.tear, .slice x.bytes.A x.bytes.n x.bytes.c, .slice x.keep.A x.keep.n x.keep.c] 34)) (.cells #[.slice none 0 0, .slice none 0 0, .int .i64 0, .int .i64 0, .bool false] 25)
  have HV := Lib.hid (((FVar.new w (.slice X.F.A X.F.n X.F.c) (.slice X.lA X.ln X.lc) (.int .i64 X.fuse) (.int .i64 X.fault) (.bool X.off) 25).lay (.cells #[.int .i64 x.kind, .int .i64 x.n, .int .i64 x.tear, .slice x.bytes.A x.bytes.n x.bytes.c, .slice x.keep.A x.keep.n x.keep.c] 34)).lay (.cells #[.slice none 0 0, .slice none 0 0, .int .i64 0, .int .i64 0, .bool false] 25))
  have hD := (DBox.new (w.alloc (.cells #[.slice X.F.A X.F.n X.F.c, .slice X.lA X.ln X.lc, .int .i64 X.fuse, .int .i64 X.fault, .bool X.off] 25)) x 34).later (bel_alloc (Below.refl _ _) (.cells #[.slice none 0 0, .slice none 0 0, .int .i64 0, .int .i64 0, .bool false] 25))
  rw [World.size_alloc] at hD
  have HD := Lib.hid hD
  have hR := FVar.new ((w.alloc (.cells #[.slice X.F.A X.F.n X.F.c, .slice X.lA X.ln X.lc, .int .i64 X.fuse, .int .i64 X.fault, .bool X.off] 25)).alloc (.cells #[.int .i64 x.kind, .int .i64 x.n, .int .i64 x.tear, .slice x.bytes.A x.bytes.n x.bytes.c, .slice x.keep.A x.keep.n x.keep.c] 34)) (.slice none 0 0) (.slice none 0 0) (.int .i64 0) (.int .i64 0) (.bool false) 25
  rw [World.size_alloc, World.size_alloc] at hR
  have HR := Lib.hid hR
  have hn3 : w.heap.size + 3 ≤ (((w.alloc (.cells #[.slice X.F.A X.F.n X.F.c, .slice X.lA X.ln X.lc, .int .i64 X.fuse, .int .i64 X.fault, .bool X.off] 25)).alloc (.cells #[.int .i64 x.kind, .int .i64 x.n, .int .i64 x.tear, .slice x.bytes.A x.bytes.n x.bytes.c, .slice x.keep.A x.keep.n x.keep.c] 34)).alloc (.cells #[.slice none 0 0, .slice none 0 0, .int .i64 0, .int .i64 0, .bool false] 25)).heap.size := by rw [World.size_alloc, World.size_alloc, World.size_alloc]; omega
  have HRi := Lib.hid (fun W (h : Below w.heap.size w W) => refRight_any X B W (hL.later (h.mono hB)) (Nat.le_trans hB h.size) hN)
  have HLa := Lib.hid (hL.more hB)
  have HBa := Lib.hid (hx.bytes.more hB)
  rw [hr] at HRi
  simp only [FileT.agg, PcT.val] at HRi ⊢
  have h3 : (((whichN x.kind : Nat) : Int) == 3) = false := by rw [beq_eq_false_iff_ne]; omega
  have h4 : (((whichN x.kind : Nat) : Int) == 4) = false := by rw [beq_eq_false_iff_ne]; omega
  have h5 : (((whichN x.kind : Nat) : Int) == 5) = false := by rw [beq_eq_false_iff_ne]; omega
  have h6 : (((whichN x.kind : Nat) : Int) == 6) = false := by rw [beq_eq_false_iff_ne]; omega
  have Hwc := Lib.hid (fun W (h : Below w.heap.size w W) => which_any x W)
  generalize whichN x.kind = q at *
  clear hq
  have hl0 : ((x.bytes.n : Int) == 0) = true := by rw [beq_iff_eq]; omega
  clear h0
  clear hR hD hN hr
  go_enter Try.func15, Try.ntmps15
  obtain ⟨⟨f0, f1, f2, f3, f4⟩, k0, k1, k2, k3, k4⟩ := HV.out
  obtain ⟨d0, d1, d2, d3, d4⟩ := HD.out
  obtain ⟨⟨j0, j1, j2, j3, j4⟩, m0, m1, m2, m3, m4⟩ := HR.out
  go_upto_region 1 with fail
  generalize ((w.alloc (.cells #[.slice X.F.A X.F.n X.F.c, .slice X.lA X.ln X.lc, .int .i64 X.fuse, .int .i64 X.fault, .bool X.off] 25)).alloc (.cells #[.int .i64 x.kind, .int .i64 x.n, .int .i64 x.tear, .slice x.bytes.A x.bytes.n x.bytes.c, .slice x.keep.A x.keep.n x.keep.c] 34)).alloc (.cells #[.slice none 0 0, .slice none 0 0, .int .i64 0, .int .i64 0, .bool false] 25) = W1 at *
  go_wp2_with fail
  refine (HRi.out _ hb).mono ?_
  rintro e W2 ⟨rfl, hbn⟩
  clear f0 f1 f2 f3 f4 k0 k1 k2 k3 k4 d0 d1 d2 d3 d4 j0 j1 j2 j3 j4 m0 m1 m2 m3 m4
  have HV := Lib.hid (HV.out.later hbn)
  have HD := Lib.hid (HD.out.later hbn)
  have HR := Lib.hid (HR.out.later hbn)
  have hn3 := Nat.le_trans hn3 hbn.size
  have hb := bel_next hb hbn
  clear hbn
  obtain ⟨⟨f0, f1, f2, f3, f4⟩, k0, k1, k2, k3, k4⟩ := HV.out
  obtain ⟨d0, d1, d2, d3, d4⟩ := HD.out
  obtain ⟨⟨j0, j1, j2, j3, j4⟩, m0, m1, m2, m3, m4⟩ := HR.out
  go_wp2_with fail
  refine (Hwc.out _ hb).mono ?_
  rintro e W3 ⟨rfl, hbn⟩
  clear f0 f1 f2 f3 f4 k0 k1 k2 k3 k4 d0 d1 d2 d3 d4 j0 j1 j2 j3 j4 m0 m1 m2 m3 m4
  have HV := Lib.hid (HV.out.later hbn)
  have HD := Lib.hid (HD.out.later hbn)
  have HR := Lib.hid (HR.out.later hbn)
  have hn3 := Nat.le_trans hn3 hbn.size
  have hb := bel_next hb hbn
  clear hbn
  obtain ⟨⟨f0, f1, f2, f3, f4⟩, k0, k1, k2, k3, k4⟩ := HV.out
  obtain ⟨d0, d1, d2, d3, d4⟩ := HD.out
  obtain ⟨⟨j0, j1, j2, j3, j4⟩, m0, m1, m2, m3, m4⟩ := HR.out
  have hbe := fbelow_set5 (a := .slice X.F.A X.F.n X.F.c) (b := .slice X.lA X.ln X.lc) (c := .int .i64 X.fuse) (d := .int .i64 X.fault) (e := .bool X.off) hb (show w.heap.size ≤ w.heap.size + 1 + 1 by omega)
  have hLe := Lib.hid ((hL.later (hbe.mono hB)).more (Nat.le_trans hB hbe.size))
  clear hb
  go_wp2
  (try rw [Exit.noGoto_ret])
  refine bodyPost_ret (v := .tuple #[.agg #[.slice X.F.A X.F.n X.F.c, .slice X.lA X.ln X.lc, .int .i64 X.fuse, .int .i64 X.fault, .bool X.off], .int .i64 2]) ?_ rfl ⟨X, (by rw [HO.out]; first | done | rfl | (simp only [FileT.agg, PcT.val, Ho.out])), (by rw [HO.out] <;> rfl), hLe.out, hbe, fun g hg h _ => h⟩
  simp [results, Try.results15, go_sem, *]
set_option maxRecDepth 20000 in
set_option maxHeartbeats 4000000 in
theorem ought_a1 (X : FileT) (x : DeedT) (B N : Nat) (w : World) (hL : LieF w B X) (hx : x.Ok w B N) (hB : B ≤ w.heap.size) (hN : ∀ p ∈ X.Q, p.n ≤ 1048576) (hr : X.right = true) (hq : ¬ (whichN x.kind = 3 ∨ whichN x.kind = 4 ∨ whichN x.kind = 5 ∨ whichN x.kind = 6)) (h0 : ¬ x.bytes.n = 0) (hbn6 : x.bytes.n ≤ 1048576) :
    Calls Try.prog 15 #[X.agg, .agg #[.int .i64 x.kind, .int .i64 x.n, .int .i64 x.tear, .slice x.bytes.A x.bytes.n x.bytes.c, .slice x.keep.A x.keep.n x.keep.c]] w (OpP X (AwayP x.bytes) (doS X.s X.long x) w) := by
  obtain ⟨out, hout⟩ : ∃ out : FileS × Int, (doS X.s X.long x) = out := ⟨_, rfl⟩
  have HO := Lib.hid (show out = X.s.append X.long x.bytes.l from hout.symm.trans (by unfold doS; rw [if_neg (show ¬ whichN x.kind = 3 by omega), if_neg (show ¬ whichN x.kind = 4 by omega), if_neg (show ¬ whichN x.kind = 5 by omega), if_neg (show ¬ whichN x.kind = 6 by omega), if_neg h0]))
  rw [hout]
  clear hout
  have hb := bel_alloc (bel_alloc (bel_alloc (Below.refl w.heap.size w) (.cells #[.slice X.F.A X.F.n X.F.c, .slice X.lA X.ln X.lc, .int .i64 X.fuse, .int .i64 X.fault, .bool X.off] 25)) (.cells #[.int .i64 x.kind, .int .i64 x.n, .int .i64 x.tear, .slice x.bytes.A x.bytes.n x.bytes.c, .slice x.keep.A x.keep.n x.keep.c] 34)) (.cells #[.slice none 0 0, .slice none 0 0, .int .i64 0, .int .i64 0, .bool false] 25)
  have HV := Lib.hid (((FVar.new w (.slice X.F.A X.F.n X.F.c) (.slice X.lA X.ln X.lc) (.int .i64 X.fuse) (.int .i64 X.fault) (.bool X.off) 25).lay (.cells #[.int .i64 x.kind, .int .i64 x.n, .int .i64 x.tear, .slice x.bytes.A x.bytes.n x.bytes.c, .slice x.keep.A x.keep.n x.keep.c] 34)).lay (.cells #[.slice none 0 0, .slice none 0 0, .int .i64 0, .int .i64 0, .bool false] 25))
  have hD := (DBox.new (w.alloc (.cells #[.slice X.F.A X.F.n X.F.c, .slice X.lA X.ln X.lc, .int .i64 X.fuse, .int .i64 X.fault, .bool X.off] 25)) x 34).later (bel_alloc (Below.refl _ _) (.cells #[.slice none 0 0, .slice none 0 0, .int .i64 0, .int .i64 0, .bool false] 25))
  rw [World.size_alloc] at hD
  have HD := Lib.hid hD
  have hR := FVar.new ((w.alloc (.cells #[.slice X.F.A X.F.n X.F.c, .slice X.lA X.ln X.lc, .int .i64 X.fuse, .int .i64 X.fault, .bool X.off] 25)).alloc (.cells #[.int .i64 x.kind, .int .i64 x.n, .int .i64 x.tear, .slice x.bytes.A x.bytes.n x.bytes.c, .slice x.keep.A x.keep.n x.keep.c] 34)) (.slice none 0 0) (.slice none 0 0) (.int .i64 0) (.int .i64 0) (.bool false) 25
  rw [World.size_alloc, World.size_alloc] at hR
  have HR := Lib.hid hR
  have hn3 : w.heap.size + 3 ≤ (((w.alloc (.cells #[.slice X.F.A X.F.n X.F.c, .slice X.lA X.ln X.lc, .int .i64 X.fuse, .int .i64 X.fault, .bool X.off] 25)).alloc (.cells #[.int .i64 x.kind, .int .i64 x.n, .int .i64 x.tear, .slice x.bytes.A x.bytes.n x.bytes.c, .slice x.keep.A x.keep.n x.keep.c] 34)).alloc (.cells #[.slice none 0 0, .slice none 0 0, .int .i64 0, .int .i64 0, .bool false] 25)).heap.size := by rw [World.size_alloc, World.size_alloc, World.size_alloc]; omega
  have HRi := Lib.hid (fun W (h : Below w.heap.size w W) => refRight_any X B W (hL.later (h.mono hB)) (Nat.le_trans hB h.size) hN)
  have HLa := Lib.hid (hL.more hB)
  have HBa := Lib.hid (hx.bytes.more hB)
  rw [hr] at HRi
  have HC := Lib.hid (fun W (h : Below w.heap.size w W) => refAppend_any X x.bytes B W (hL.later (h.mono hB)) (hx.bytes.later (h.mono hB)) (Nat.le_trans hB h.size) hr hbn6)
  simp only [FileT.agg, PcT.val] at HRi HC ⊢
  have h3 : (((whichN x.kind : Nat) : Int) == 3) = false := by rw [beq_eq_false_iff_ne]; omega
  have h4 : (((whichN x.kind : Nat) : Int) == 4) = false := by rw [beq_eq_false_iff_ne]; omega
  have h5 : (((whichN x.kind : Nat) : Int) == 5) = false := by rw [beq_eq_false_iff_ne]; omega
  have h6 : (((whichN x.kind : Nat) : Int) == 6) = false := by rw [beq_eq_false_iff_ne]; omega
  have Hwc := Lib.hid (fun W (h : Below w.heap.size w W) => which_any x W)
  generalize whichN x.kind = q at *
  clear hq
  have hl0 : ((x.bytes.n : Int) == 0) = false := by rw [beq_eq_false_iff_ne]; omega
  clear h0
  clear hR hD hN hr
  go_enter Try.func15, Try.ntmps15
  obtain ⟨⟨f0, f1, f2, f3, f4⟩, k0, k1, k2, k3, k4⟩ := HV.out
  obtain ⟨d0, d1, d2, d3, d4⟩ := HD.out
  obtain ⟨⟨j0, j1, j2, j3, j4⟩, m0, m1, m2, m3, m4⟩ := HR.out
  go_upto_region 1 with fail
  generalize ((w.alloc (.cells #[.slice X.F.A X.F.n X.F.c, .slice X.lA X.ln X.lc, .int .i64 X.fuse, .int .i64 X.fault, .bool X.off] 25)).alloc (.cells #[.int .i64 x.kind, .int .i64 x.n, .int .i64 x.tear, .slice x.bytes.A x.bytes.n x.bytes.c, .slice x.keep.A x.keep.n x.keep.c] 34)).alloc (.cells #[.slice none 0 0, .slice none 0 0, .int .i64 0, .int .i64 0, .bool false] 25) = W1 at *
  go_wp2_with fail
  refine (HRi.out _ hb).mono ?_
  rintro e W2 ⟨rfl, hbn⟩
  clear f0 f1 f2 f3 f4 k0 k1 k2 k3 k4 d0 d1 d2 d3 d4 j0 j1 j2 j3 j4 m0 m1 m2 m3 m4
  have HV := Lib.hid (HV.out.later hbn)
  have HD := Lib.hid (HD.out.later hbn)
  have HR := Lib.hid (HR.out.later hbn)
  have hn3 := Nat.le_trans hn3 hbn.size
  have hb := bel_next hb hbn
  clear hbn
  obtain ⟨⟨f0, f1, f2, f3, f4⟩, k0, k1, k2, k3, k4⟩ := HV.out
  obtain ⟨d0, d1, d2, d3, d4⟩ := HD.out
  obtain ⟨⟨j0, j1, j2, j3, j4⟩, m0, m1, m2, m3, m4⟩ := HR.out
  go_wp2_with fail
  refine (Hwc.out _ hb).mono ?_
  rintro e W3 ⟨rfl, hbn⟩
  clear f0 f1 f2 f3 f4 k0 k1 k2 k3 k4 d0 d1 d2 d3 d4 j0 j1 j2 j3 j4 m0 m1 m2 m3 m4
  have HV := Lib.hid (HV.out.later hbn)
  have HD := Lib.hid (HD.out.later hbn)
  have HR := Lib.hid (HR.out.later hbn)
  have hn3 := Nat.le_trans hn3 hbn.size
  have hb := bel_next hb hbn
  clear hbn
  obtain ⟨⟨f0, f1, f2, f3, f4⟩, k0, k1, k2, k3, k4⟩ := HV.out
  obtain ⟨d0, d1, d2, d3, d4⟩ := HD.out
  obtain ⟨⟨j0, j1, j2, j3, j4⟩, m0, m1, m2, m3, m4⟩ := HR.out
  go_wp2_with fail
  refine (HC.out _ hb).mono ?_
  rintro e W4 ⟨Y, rfl, hYs, hYL, hb4, haw⟩
  clear f0 f1 f2 f3 f4 k0 k1 k2 k3 k4 d0 d1 d2 d3 d4 j0 j1 j2 j3 j4 m0 m1 m2 m3 m4
  obtain ⟨ask, hask⟩ : ∃ a, X.s.append X.long x.bytes.l = a := ⟨_, rfl⟩
  rw [hask] at HO hYs ⊢
  clear hask
  have hs4 := hb.size
  have HAw := Lib.hid (show ∀ g, g < w.heap.size → AwayF X g → AwayP x.bytes g → AwayF Y g from fun g hg h1 h2 => haw g (by omega) h1 trivial)
  have ha2 := haw (w.heap.size + 1 + 1) (by omega) (HLa.out.away (by omega)) trivial
  have hb := bel_next hb hb4
  have HR := Lib.hid (HR.out.later hb4)
  have hbe := fbelow_set5 (a := .slice Y.F.A Y.F.n Y.F.c) (b := .slice Y.lA Y.ln Y.lc) (c := .int .i64 Y.fuse) (d := .int .i64 Y.fault) (e := .bool Y.off) hb (show w.heap.size ≤ w.heap.size + 1 + 1 by omega)
  have hLe := Lib.hid (lie_res (g := w.heap.size + 1 + 1) (a := .slice Y.F.A Y.F.n Y.F.c) (b := .slice Y.lA Y.ln Y.lc) (c := .int .i64 Y.fuse) (d := .int .i64 Y.fault) (e := .bool Y.off) hYL ha2)
  have HYs := Lib.hid hYs
  clear hb hYL haw ha2 hYs hb4
  simp only [FileT.agg, PcT.val]
  obtain ⟨⟨j0, j1, j2, j3, j4⟩, m0, m1, m2, m3, m4⟩ := HR.out
  go_wp2
  (try rw [Exit.noGoto_ret])
  refine bodyPost_ret (v := .tuple #[.agg #[.slice Y.F.A Y.F.n Y.F.c, .slice Y.lA Y.ln Y.lc, .int .i64 Y.fuse, .int .i64 Y.fault, .bool Y.off], .int .i64 ask.2]) ?_ rfl ⟨Y, by rw [HO.out]; rfl, by rw [HO.out]; exact HYs.out, hLe.out, hbe, HAw.out⟩
  simp [results, Try.results15, go_sem, *]
end Go.Proofs.Ythoenmggjbojoaa
