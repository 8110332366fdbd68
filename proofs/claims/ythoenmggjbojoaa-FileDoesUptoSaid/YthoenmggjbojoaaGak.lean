import Derived.Test.YthoenmggjbojoaaGaj
/-
  Layer 10: the operations on a file that may not be: the file as it was, and 200.
-/
namespace Go.Proofs.Ythoenmggjbojoaa
open Go.RowKit
set_option linter.unusedVariables false

set_option maxRecDepth 20000 in
set_option maxHeartbeats 2000000 in
theorem appendF_bad (X : FileT) (p : PcT) (Zp : Nat → Prop) (B : Nat) (w : World) (hL : LieF w B X) (hB : B ≤ w.heap.size) (hN : ∀ p ∈ X.Q, p.n ≤ 1048576) (hr : X.right = false) :
    Calls Try.prog 29 #[X.agg, p.val] w (OpP X Zp (X.s, 200) w) := by
  have hb1 := bel_alloc (bel_alloc (bel_alloc (Below.refl w.heap.size w) (.cells #[.slice X.F.A X.F.n X.F.c, .slice X.lA X.ln X.lc, .int .i64 X.fuse, .int .i64 X.fault, .bool X.off] 25)) (.cells #[.slice p.A p.n p.c] 22)) (.cells #[.slice none 0 0, .slice none 0 0, .int .i64 0, .int .i64 0, .bool false] 25)
  have HX := (FBox.new w X 25).later (bel_alloc (bel_alloc (Below.refl _ _) (.cells #[.slice p.A p.n p.c] 22)) (.cells #[.slice none 0 0, .slice none 0 0, .int .i64 0, .int .i64 0, .bool false] 25))
  have hch := checkF_any X B _ (hL.later (hb1.mono hB)) (Nat.le_trans hB hb1.size) hN
  rw [hr] at hch
  have HV := FVar.new ((w.alloc (.cells #[.slice X.F.A X.F.n X.F.c, .slice X.lA X.ln X.lc, .int .i64 X.fuse, .int .i64 X.fault, .bool X.off] 25)).alloc (.cells #[.slice p.A p.n p.c] 22)) (.slice none 0 0) (.slice none 0 0) (.int .i64 0) (.int .i64 0) (.bool false) 25
  rw [World.size_alloc, World.size_alloc] at HV
  simp only [FileT.agg, PcT.val] at hch ⊢
  obtain ⟨f0, f1, f2, f3, f4⟩ := HX
  clear hN hr
  go_enter Try.func29, Try.ntmps29
  go_wp2_with fail
  generalize (((w.alloc (.cells #[.slice X.F.A X.F.n X.F.c, .slice X.lA X.ln X.lc, .int .i64 X.fuse, .int .i64 X.fault, .bool X.off] 25)).alloc (.cells #[.slice p.A p.n p.c] 22)).alloc (.cells #[.slice none 0 0, .slice none 0 0, .int .i64 0, .int .i64 0, .bool false] 25)) = W1 at *
  refine hch.mono ?_
  rintro e W2 ⟨rfl, hb2⟩
  have hb3 := bel_next hb1 hb2
  have f0' := kept_later hb2 f0
  have f1' := kept_later hb2 f1
  have f2' := kept_later hb2 f2
  have f3' := kept_later hb2 f3
  have f4' := kept_later hb2 f4
  obtain ⟨⟨j0, j1, j2, j3, j4⟩, k0, k1, k2, k3, k4⟩ := HV.later hb2
  have hbe := fbelow_set5 (a := .slice X.F.A X.F.n X.F.c) (b := .slice X.lA X.ln X.lc) (c := .int .i64 X.fuse) (d := .int .i64 X.fault) (e := .bool X.off) hb3 (show w.heap.size ≤ w.heap.size + 1 + 1 by omega)
  have hLe := (hL.later (hbe.mono hB)).more (Nat.le_trans hB hbe.size)
  clear hch f0 f1 f2 f3 f4 HV hb1 hb2 hL
  go_wp2
  (try rw [Exit.noGoto_ret])
  refine bodyPost_ret (v := .tuple #[.agg #[.slice X.F.A X.F.n X.F.c, .slice X.lA X.ln X.lc, .int .i64 X.fuse, .int .i64 X.fault, .bool X.off], .int .i64 200]) ?_ rfl ⟨X, rfl, rfl, hLe, hbe, fun _ _ h _ => h⟩
  simp [results, Try.results29, go_sem, *]
set_option maxRecDepth 20000 in
set_option maxHeartbeats 2000000 in
theorem syncF_bad (X : FileT)  (Zp : Nat → Prop) (B : Nat) (w : World) (hL : LieF w B X) (hB : B ≤ w.heap.size) (hN : ∀ p ∈ X.Q, p.n ≤ 1048576) (hr : X.right = false) :
    Calls Try.prog 30 #[X.agg] w (OpP X Zp (X.s, 200) w) := by
  have hb1 := bel_alloc (bel_alloc (Below.refl w.heap.size w) (.cells #[.slice X.F.A X.F.n X.F.c, .slice X.lA X.ln X.lc, .int .i64 X.fuse, .int .i64 X.fault, .bool X.off] 25)) (.cells #[.slice none 0 0, .slice none 0 0, .int .i64 0, .int .i64 0, .bool false] 25)
  have HX := (FBox.new w X 25).later (bel_alloc (Below.refl _ _) (.cells #[.slice none 0 0, .slice none 0 0, .int .i64 0, .int .i64 0, .bool false] 25))
  have hch := checkF_any X B _ (hL.later (hb1.mono hB)) (Nat.le_trans hB hb1.size) hN
  rw [hr] at hch
  have HV := FVar.new (w.alloc (.cells #[.slice X.F.A X.F.n X.F.c, .slice X.lA X.ln X.lc, .int .i64 X.fuse, .int .i64 X.fault, .bool X.off] 25)) (.slice none 0 0) (.slice none 0 0) (.int .i64 0) (.int .i64 0) (.bool false) 25
  rw [World.size_alloc] at HV
  simp only [FileT.agg, PcT.val] at hch ⊢
  obtain ⟨f0, f1, f2, f3, f4⟩ := HX
  clear hN hr
  go_enter Try.func30, Try.ntmps30
  go_wp2_with fail
  generalize ((w.alloc (.cells #[.slice X.F.A X.F.n X.F.c, .slice X.lA X.ln X.lc, .int .i64 X.fuse, .int .i64 X.fault, .bool X.off] 25)).alloc (.cells #[.slice none 0 0, .slice none 0 0, .int .i64 0, .int .i64 0, .bool false] 25)) = W1 at *
  refine hch.mono ?_
  rintro e W2 ⟨rfl, hb2⟩
  have hb3 := bel_next hb1 hb2
  have f0' := kept_later hb2 f0
  have f1' := kept_later hb2 f1
  have f2' := kept_later hb2 f2
  have f3' := kept_later hb2 f3
  have f4' := kept_later hb2 f4
  obtain ⟨⟨j0, j1, j2, j3, j4⟩, k0, k1, k2, k3, k4⟩ := HV.later hb2
  have hbe := fbelow_set5 (a := .slice X.F.A X.F.n X.F.c) (b := .slice X.lA X.ln X.lc) (c := .int .i64 X.fuse) (d := .int .i64 X.fault) (e := .bool X.off) hb3 (show w.heap.size ≤ w.heap.size + 1 by omega)
  have hLe := (hL.later (hbe.mono hB)).more (Nat.le_trans hB hbe.size)
  clear hch f0 f1 f2 f3 f4 HV hb1 hb2 hL
  go_wp2
  (try rw [Exit.noGoto_ret])
  refine bodyPost_ret (v := .tuple #[.agg #[.slice X.F.A X.F.n X.F.c, .slice X.lA X.ln X.lc, .int .i64 X.fuse, .int .i64 X.fault, .bool X.off], .int .i64 200]) ?_ rfl ⟨X, rfl, rfl, hLe, hbe, fun _ _ h _ => h⟩
  simp [results, Try.results30, go_sem, *]
set_option maxRecDepth 20000 in
set_option maxHeartbeats 2000000 in
theorem setF_bad (X : FileT) (fv : Value) (Zp : Nat → Prop) (B : Nat) (w : World) (hL : LieF w B X) (hB : B ≤ w.heap.size) (hN : ∀ p ∈ X.Q, p.n ≤ 1048576) (hr : X.right = false) :
    Calls Try.prog 45 #[X.agg, fv] w (OpP X Zp (X.s, 200) w) := by
  have hb1 := bel_alloc (bel_alloc (Below.refl w.heap.size w) (.cells #[.slice X.F.A X.F.n X.F.c, .slice X.lA X.ln X.lc, .int .i64 X.fuse, .int .i64 X.fault, .bool X.off] 25)) (.cells #[.slice none 0 0, .slice none 0 0, .int .i64 0, .int .i64 0, .bool false] 25)
  have HX := (FBox.new w X 25).later (bel_alloc (Below.refl _ _) (.cells #[.slice none 0 0, .slice none 0 0, .int .i64 0, .int .i64 0, .bool false] 25))
  have hch := checkF_any X B _ (hL.later (hb1.mono hB)) (Nat.le_trans hB hb1.size) hN
  rw [hr] at hch
  have HV := FVar.new (w.alloc (.cells #[.slice X.F.A X.F.n X.F.c, .slice X.lA X.ln X.lc, .int .i64 X.fuse, .int .i64 X.fault, .bool X.off] 25)) (.slice none 0 0) (.slice none 0 0) (.int .i64 0) (.int .i64 0) (.bool false) 25
  rw [World.size_alloc] at HV
  simp only [FileT.agg, PcT.val] at hch ⊢
  obtain ⟨f0, f1, f2, f3, f4⟩ := HX
  clear hN hr
  go_enter Try.func45, Try.ntmps45
  go_wp2_with fail
  generalize ((w.alloc (.cells #[.slice X.F.A X.F.n X.F.c, .slice X.lA X.ln X.lc, .int .i64 X.fuse, .int .i64 X.fault, .bool X.off] 25)).alloc (.cells #[.slice none 0 0, .slice none 0 0, .int .i64 0, .int .i64 0, .bool false] 25)) = W1 at *
  refine hch.mono ?_
  rintro e W2 ⟨rfl, hb2⟩
  have hb3 := bel_next hb1 hb2
  have f0' := kept_later hb2 f0
  have f1' := kept_later hb2 f1
  have f2' := kept_later hb2 f2
  have f3' := kept_later hb2 f3
  have f4' := kept_later hb2 f4
  obtain ⟨⟨j0, j1, j2, j3, j4⟩, k0, k1, k2, k3, k4⟩ := HV.later hb2
  have hbe := fbelow_set5 (a := .slice X.F.A X.F.n X.F.c) (b := .slice X.lA X.ln X.lc) (c := .int .i64 X.fuse) (d := .int .i64 X.fault) (e := .bool X.off) hb3 (show w.heap.size ≤ w.heap.size + 1 by omega)
  have hLe := (hL.later (hbe.mono hB)).more (Nat.le_trans hB hbe.size)
  clear hch f0 f1 f2 f3 f4 HV hb1 hb2 hL
  go_wp2
  (try rw [Exit.noGoto_ret])
  refine bodyPost_ret (v := .tuple #[.agg #[.slice X.F.A X.F.n X.F.c, .slice X.lA X.ln X.lc, .int .i64 X.fuse, .int .i64 X.fault, .bool X.off], .int .i64 200]) ?_ rfl ⟨X, rfl, rfl, hLe, hbe, fun _ _ h _ => h⟩
  simp [results, Try.results45, go_sem, *]
set_option maxRecDepth 20000 in
set_option maxHeartbeats 2000000 in
theorem crashF_bad (X : FileT) (k : BoT) (tear cut : Int) (Zp : Nat → Prop) (B : Nat) (w : World) (hL : LieF w B X) (hB : B ≤ w.heap.size) (hN : ∀ p ∈ X.Q, p.n ≤ 1048576) (hr : X.right = false) :
    Calls Try.prog 26 #[X.agg, .slice k.A k.n k.c, .int .i64 tear, .int .i64 cut] w (OpP X Zp (X.s, 200) w) := by
  have hb1 := bel_alloc (bel_alloc (Below.refl w.heap.size w) (.cells #[.slice X.F.A X.F.n X.F.c, .slice X.lA X.ln X.lc, .int .i64 X.fuse, .int .i64 X.fault, .bool X.off] 25)) (.cells #[.slice none 0 0, .slice none 0 0, .int .i64 0, .int .i64 0, .bool false] 25)
  have HX := (FBox.new w X 25).later (bel_alloc (Below.refl _ _) (.cells #[.slice none 0 0, .slice none 0 0, .int .i64 0, .int .i64 0, .bool false] 25))
  have hch := checkF_any X B _ (hL.later (hb1.mono hB)) (Nat.le_trans hB hb1.size) hN
  rw [hr] at hch
  have HV := FVar.new (w.alloc (.cells #[.slice X.F.A X.F.n X.F.c, .slice X.lA X.ln X.lc, .int .i64 X.fuse, .int .i64 X.fault, .bool X.off] 25)) (.slice none 0 0) (.slice none 0 0) (.int .i64 0) (.int .i64 0) (.bool false) 25
  rw [World.size_alloc] at HV
  simp only [FileT.agg, PcT.val] at hch ⊢
  obtain ⟨f0, f1, f2, f3, f4⟩ := HX
  clear hN hr
  go_enter Try.func26, Try.ntmps26
  go_wp2_with fail
  generalize ((w.alloc (.cells #[.slice X.F.A X.F.n X.F.c, .slice X.lA X.ln X.lc, .int .i64 X.fuse, .int .i64 X.fault, .bool X.off] 25)).alloc (.cells #[.slice none 0 0, .slice none 0 0, .int .i64 0, .int .i64 0, .bool false] 25)) = W1 at *
  refine hch.mono ?_
  rintro e W2 ⟨rfl, hb2⟩
  have hb3 := bel_next hb1 hb2
  have f0' := kept_later hb2 f0
  have f1' := kept_later hb2 f1
  have f2' := kept_later hb2 f2
  have f3' := kept_later hb2 f3
  have f4' := kept_later hb2 f4
  obtain ⟨⟨j0, j1, j2, j3, j4⟩, k0, k1, k2, k3, k4⟩ := HV.later hb2
  have hbe := fbelow_set5 (a := .slice X.F.A X.F.n X.F.c) (b := .slice X.lA X.ln X.lc) (c := .int .i64 X.fuse) (d := .int .i64 X.fault) (e := .bool X.off) hb3 (show w.heap.size ≤ w.heap.size + 1 by omega)
  have hLe := (hL.later (hbe.mono hB)).more (Nat.le_trans hB hbe.size)
  clear hch f0 f1 f2 f3 f4 HV hb1 hb2 hL
  go_wp2
  (try rw [Exit.noGoto_ret])
  refine bodyPost_ret (v := .tuple #[.agg #[.slice X.F.A X.F.n X.F.c, .slice X.lA X.ln X.lc, .int .i64 X.fuse, .int .i64 X.fault, .bool X.off], .int .i64 200]) ?_ rfl ⟨X, rfl, rfl, hLe, hbe, fun _ _ h _ => h⟩
  simp [results, Try.results26, go_sem, *]
set_option maxRecDepth 20000 in
set_option maxHeartbeats 2000000 in
theorem lightF_bad (X : FileT) (B : Nat) (n : Int) (w : World) (hL : LieF w B X) (hB : B ≤ w.heap.size) (hN : ∀ p ∈ X.Q, p.n ≤ 1048576) (hr : X.right = false) :
    Calls Try.prog 27 #[X.agg, .int .i64 n] w (OpP X (fun _ => True) (X.s, 200) w) := by
  have hb1 := bel_alloc (bel_alloc (bel_alloc (Below.refl w.heap.size w) (.cells #[.slice X.F.A X.F.n X.F.c, .slice X.lA X.ln X.lc, .int .i64 X.fuse, .int .i64 X.fault, .bool X.off] 25)) (.cells #[.int .i64 n] 3)) (.cells #[.slice none 0 0, .slice none 0 0, .int .i64 0, .int .i64 0, .bool false] 25)
  have hV1 := ((FVar.new w (.slice X.F.A X.F.n X.F.c) (.slice X.lA X.ln X.lc) (.int .i64 X.fuse) (.int .i64 X.fault) (.bool X.off) 25).lay (.cells #[.int .i64 n] 3)).lay (.cells #[.slice none 0 0, .slice none 0 0, .int .i64 0, .int .i64 0, .bool false] 25)
  have hV2 := FVar.new ((w.alloc (.cells #[.slice X.F.A X.F.n X.F.c, .slice X.lA X.ln X.lc, .int .i64 X.fuse, .int .i64 X.fault, .bool X.off] 25)).alloc (.cells #[.int .i64 n] 3)) (.slice none 0 0) (.slice none 0 0) (.int .i64 0) (.int .i64 0) (.bool false) 25
  have hsz : (((w.alloc (.cells #[.slice X.F.A X.F.n X.F.c, .slice X.lA X.ln X.lc, .int .i64 X.fuse, .int .i64 X.fault, .bool X.off] 25)).alloc (.cells #[.int .i64 n] 3)).alloc (.cells #[.slice none 0 0, .slice none 0 0, .int .i64 0, .int .i64 0, .bool false] 25)).heap.size = w.heap.size + 1 + 1 + 1 := by simp
  have hb : ((w.alloc (.cells #[.slice X.F.A X.F.n X.F.c, .slice X.lA X.ln X.lc, .int .i64 X.fuse, .int .i64 X.fault, .bool X.off] 25)).alloc (.cells #[.int .i64 n] 3)).cell? ⟨w.heap.size + 1, 0, none⟩ = some (.int .i64 n) := by
    have h := World.cell?_alloc_new (w.alloc (.cells #[.slice X.F.A X.F.n X.F.c, .slice X.lA X.ln X.lc, .int .i64 X.fuse, .int .i64 X.fault, .bool X.off] 25)) #[.int .i64 n] 3 0
    rw [World.size_alloc] at h
    exact h
  rw [World.size_alloc, World.size_alloc] at hV2
  have hbb := cell_keep hb (.cells #[.slice none 0 0, .slice none 0 0, .int .i64 0, .int .i64 0, .bool false] 25)
  have hst := fun fv => setF_bad X fv (fun _ => True) B _ (hL.later (hb1.mono hB)) (Nat.le_trans hB hb1.size) hN hr
  have hmf : ∀ (fn : Fn) (first cap : Array Value) (w : World), (Instr.makeFunc fn first cap).run Try.prog w = .ok (.func fn first cap) w := fun _ _ _ _ => rfl
  simp only [FileT.agg, PcT.val] at hst ⊢
  obtain ⟨⟨f0, f1, f2, f3, f4⟩, -⟩ := hV1
  have HL := Lib.hid hL
  clear hb hL hN hr
  go_enter Try.func27, Try.ntmps27
  go_wp2_with fail
  generalize ((w.alloc (.cells #[.slice X.F.A X.F.n X.F.c, .slice X.lA X.ln X.lc, .int .i64 X.fuse, .int .i64 X.fault, .bool X.off] 25)).alloc (.cells #[.int .i64 n] 3)).alloc (.cells #[.slice none 0 0, .slice none 0 0, .int .i64 0, .int .i64 0, .bool false] 25) = W1 at *
  refine (hst _).mono ?_
  rintro e W2 ⟨Y, rfl, hYs, hYL, hb2, haw⟩
  have hV4 := hV2.later hb2
  have hb3 := bel_next hb1 hb2
  obtain ⟨⟨j0, j1, j2, j3, j4⟩, k0, k1, k2, k3, k4⟩ := hV4
  have hbe := fbelow_set5 (a := .slice Y.F.A Y.F.n Y.F.c) (b := .slice Y.lA Y.ln Y.lc) (c := .int .i64 Y.fuse) (d := .int .i64 Y.fault) (e := .bool Y.off) hb3 (show w.heap.size ≤ w.heap.size + 1 + 1 by omega)
  have HYs := Lib.hid hYs
  have HS := Lib.hid hsz
  have HAw := Lib.hid (show ∀ k, k < w.heap.size → AwayF X k → True → AwayF Y k from fun k hk h1 _ => haw k (by omega) h1 trivial)
  have HYL := Lib.hid (lie_res (g := w.heap.size + 1 + 1) (a := .slice Y.F.A Y.F.n Y.F.c) (b := .slice Y.lA Y.ln Y.lc) (c := .int .i64 Y.fuse) (d := .int .i64 Y.fault) (e := .bool Y.off) hYL (haw (w.heap.size + 1 + 1) (by omega) ((HL.out.more hB).away (by omega)) trivial))
  clear hst hYs hYL haw hsz hV2 hb1 hb2 hb3 HL f0 f1 f2 f3 f4 hbb
  simp only [FileT.agg, PcT.val]
  go_wp2
  refine bodyPost_ret (v := .tuple #[.agg #[.slice Y.F.A Y.F.n Y.F.c, .slice Y.lA Y.ln Y.lc, .int .i64 Y.fuse, .int .i64 Y.fault, .bool Y.off], .int .i64 200]) ?_ rfl ⟨Y, rfl, HYs.out, HYL.out, hbe, HAw.out⟩
  simp [results, Try.results27, go_sem, *]
set_option maxRecDepth 20000 in
set_option maxHeartbeats 2000000 in
theorem refuseF_bad (X : FileT) (B : Nat) (n : Int) (w : World) (hL : LieF w B X) (hB : B ≤ w.heap.size) (hN : ∀ p ∈ X.Q, p.n ≤ 1048576) (hr : X.right = false) :
    Calls Try.prog 28 #[X.agg, .int .i64 n] w (OpP X (fun _ => True) (X.s, 200) w) := by
  have hb1 := bel_alloc (bel_alloc (bel_alloc (Below.refl w.heap.size w) (.cells #[.slice X.F.A X.F.n X.F.c, .slice X.lA X.ln X.lc, .int .i64 X.fuse, .int .i64 X.fault, .bool X.off] 25)) (.cells #[.int .i64 n] 3)) (.cells #[.slice none 0 0, .slice none 0 0, .int .i64 0, .int .i64 0, .bool false] 25)
  have hV1 := ((FVar.new w (.slice X.F.A X.F.n X.F.c) (.slice X.lA X.ln X.lc) (.int .i64 X.fuse) (.int .i64 X.fault) (.bool X.off) 25).lay (.cells #[.int .i64 n] 3)).lay (.cells #[.slice none 0 0, .slice none 0 0, .int .i64 0, .int .i64 0, .bool false] 25)
  have hV2 := FVar.new ((w.alloc (.cells #[.slice X.F.A X.F.n X.F.c, .slice X.lA X.ln X.lc, .int .i64 X.fuse, .int .i64 X.fault, .bool X.off] 25)).alloc (.cells #[.int .i64 n] 3)) (.slice none 0 0) (.slice none 0 0) (.int .i64 0) (.int .i64 0) (.bool false) 25
  have hsz : (((w.alloc (.cells #[.slice X.F.A X.F.n X.F.c, .slice X.lA X.ln X.lc, .int .i64 X.fuse, .int .i64 X.fault, .bool X.off] 25)).alloc (.cells #[.int .i64 n] 3)).alloc (.cells #[.slice none 0 0, .slice none 0 0, .int .i64 0, .int .i64 0, .bool false] 25)).heap.size = w.heap.size + 1 + 1 + 1 := by simp
  have hb : ((w.alloc (.cells #[.slice X.F.A X.F.n X.F.c, .slice X.lA X.ln X.lc, .int .i64 X.fuse, .int .i64 X.fault, .bool X.off] 25)).alloc (.cells #[.int .i64 n] 3)).cell? ⟨w.heap.size + 1, 0, none⟩ = some (.int .i64 n) := by
    have h := World.cell?_alloc_new (w.alloc (.cells #[.slice X.F.A X.F.n X.F.c, .slice X.lA X.ln X.lc, .int .i64 X.fuse, .int .i64 X.fault, .bool X.off] 25)) #[.int .i64 n] 3 0
    rw [World.size_alloc] at h
    exact h
  rw [World.size_alloc, World.size_alloc] at hV2
  have hbb := cell_keep hb (.cells #[.slice none 0 0, .slice none 0 0, .int .i64 0, .int .i64 0, .bool false] 25)
  have hst := fun fv => setF_bad X fv (fun _ => True) B _ (hL.later (hb1.mono hB)) (Nat.le_trans hB hb1.size) hN hr
  have hmf : ∀ (fn : Fn) (first cap : Array Value) (w : World), (Instr.makeFunc fn first cap).run Try.prog w = .ok (.func fn first cap) w := fun _ _ _ _ => rfl
  simp only [FileT.agg, PcT.val] at hst ⊢
  obtain ⟨⟨f0, f1, f2, f3, f4⟩, -⟩ := hV1
  have HL := Lib.hid hL
  clear hb hL hN hr
  go_enter Try.func28, Try.ntmps28
  go_wp2_with fail
  generalize ((w.alloc (.cells #[.slice X.F.A X.F.n X.F.c, .slice X.lA X.ln X.lc, .int .i64 X.fuse, .int .i64 X.fault, .bool X.off] 25)).alloc (.cells #[.int .i64 n] 3)).alloc (.cells #[.slice none 0 0, .slice none 0 0, .int .i64 0, .int .i64 0, .bool false] 25) = W1 at *
  refine (hst _).mono ?_
  rintro e W2 ⟨Y, rfl, hYs, hYL, hb2, haw⟩
  have hV4 := hV2.later hb2
  have hb3 := bel_next hb1 hb2
  obtain ⟨⟨j0, j1, j2, j3, j4⟩, k0, k1, k2, k3, k4⟩ := hV4
  have hbe := fbelow_set5 (a := .slice Y.F.A Y.F.n Y.F.c) (b := .slice Y.lA Y.ln Y.lc) (c := .int .i64 Y.fuse) (d := .int .i64 Y.fault) (e := .bool Y.off) hb3 (show w.heap.size ≤ w.heap.size + 1 + 1 by omega)
  have HYs := Lib.hid hYs
  have HS := Lib.hid hsz
  have HAw := Lib.hid (show ∀ k, k < w.heap.size → AwayF X k → True → AwayF Y k from fun k hk h1 _ => haw k (by omega) h1 trivial)
  have HYL := Lib.hid (lie_res (g := w.heap.size + 1 + 1) (a := .slice Y.F.A Y.F.n Y.F.c) (b := .slice Y.lA Y.ln Y.lc) (c := .int .i64 Y.fuse) (d := .int .i64 Y.fault) (e := .bool Y.off) hYL (haw (w.heap.size + 1 + 1) (by omega) ((HL.out.more hB).away (by omega)) trivial))
  clear hst hYs hYL haw hsz hV2 hb1 hb2 hb3 HL f0 f1 f2 f3 f4 hbb
  simp only [FileT.agg, PcT.val]
  go_wp2
  refine bodyPost_ret (v := .tuple #[.agg #[.slice Y.F.A Y.F.n Y.F.c, .slice Y.lA Y.ln Y.lc, .int .i64 Y.fuse, .int .i64 Y.fault, .bool Y.off], .int .i64 200]) ?_ rfl ⟨Y, rfl, HYs.out, HYL.out, hbe, HAw.out⟩
  simp [results, Try.results28, go_sem, *]
set_option maxRecDepth 20000 in
set_option maxHeartbeats 2000000 in
theorem does_3_bad (X : FileT) (x : DeedT) (B N : Nat) (w : World) (hL : LieF w B X) (hx : x.Ok w B N) (hB : B ≤ w.heap.size) (hN : ∀ p ∈ X.Q, p.n ≤ 1048576) (hr : X.right = false) (hq : whichN x.kind = 3) :
    Calls Try.prog 14 #[X.agg, .agg #[.int .i64 x.kind, .int .i64 x.n, .int .i64 x.tear, .slice x.bytes.A x.bytes.n x.bytes.c, .slice x.keep.A x.keep.n x.keep.c]] w (OpP X (AwayP x.bytes) (X.s, 200) w) := by
  have hb1 := bel_alloc (bel_alloc (bel_alloc (Below.refl w.heap.size w) (.cells #[.slice X.F.A X.F.n X.F.c, .slice X.lA X.ln X.lc, .int .i64 X.fuse, .int .i64 X.fault, .bool X.off] 25)) (.cells #[.int .i64 x.kind, .int .i64 x.n, .int .i64 x.tear, .slice x.bytes.A x.bytes.n x.bytes.c, .slice x.keep.A x.keep.n x.keep.c] 34)) (.cells #[.slice none 0 0, .slice none 0 0, .int .i64 0, .int .i64 0, .bool false] 25)
  have HX := (FBox.new w X 25).later (bel_alloc (bel_alloc (Below.refl _ _) (.cells #[.int .i64 x.kind, .int .i64 x.n, .int .i64 x.tear, .slice x.bytes.A x.bytes.n x.bytes.c, .slice x.keep.A x.keep.n x.keep.c] 34)) (.cells #[.slice none 0 0, .slice none 0 0, .int .i64 0, .int .i64 0, .bool false] 25))
  have HD := (DBox.new (w.alloc (.cells #[.slice X.F.A X.F.n X.F.c, .slice X.lA X.ln X.lc, .int .i64 X.fuse, .int .i64 X.fault, .bool X.off] 25)) x 34).later (bel_alloc (Below.refl _ _) (.cells #[.slice none 0 0, .slice none 0 0, .int .i64 0, .int .i64 0, .bool false] 25))
  have HV := FVar.new ((w.alloc (.cells #[.slice X.F.A X.F.n X.F.c, .slice X.lA X.ln X.lc, .int .i64 X.fuse, .int .i64 X.fault, .bool X.off] 25)).alloc (.cells #[.int .i64 x.kind, .int .i64 x.n, .int .i64 x.tear, .slice x.bytes.A x.bytes.n x.bytes.c, .slice x.keep.A x.keep.n x.keep.c] 34)) (.slice none 0 0) (.slice none 0 0) (.int .i64 0) (.int .i64 0) (.bool false) 25
  rw [World.size_alloc] at HD
  rw [World.size_alloc, World.size_alloc] at HV
  have hsz : (((w.alloc (.cells #[.slice X.F.A X.F.n X.F.c, .slice X.lA X.ln X.lc, .int .i64 X.fuse, .int .i64 X.fault, .bool X.off] 25)).alloc (.cells #[.int .i64 x.kind, .int .i64 x.n, .int .i64 x.tear, .slice x.bytes.A x.bytes.n x.bytes.c, .slice x.keep.A x.keep.n x.keep.c] 34)).alloc (.cells #[.slice none 0 0, .slice none 0 0, .int .i64 0, .int .i64 0, .bool false] 25)).heap.size = w.heap.size + 1 + 1 + 1 := by simp
  have hcall := Lib.hid (fun W (hw : Below w.heap.size w W) => show Calls _ _ _ W (OpP X (fun _ => True) (X.s, 200) W) from
    have HLw := hL.later (hw.mono hB)
    have HXw := hx.later (hw.mono hB)
    have HBw := Nat.le_trans hB hw.size
    syncF_bad X _ B _ HLw HBw hN hr)
  have h3 : (((whichN x.kind : Nat) : Int) == 3) = true := by rw [beq_iff_eq]; omega
  have h4 : (((whichN x.kind : Nat) : Int) == 4) = false := by rw [beq_eq_false_iff_ne]; omega
  have h5 : (((whichN x.kind : Nat) : Int) == 5) = false := by rw [beq_eq_false_iff_ne]; omega
  have h6 : (((whichN x.kind : Nat) : Int) == 6) = false := by rw [beq_eq_false_iff_ne]; omega
  clear hq
  simp only [FileT.agg, PcT.val] at hcall ⊢
  have HL := Lib.hid hL
  have hwc := fun W => which_any x W
  generalize whichN x.kind = q at *
  obtain ⟨f0, f1, f2, f3, f4⟩ := HX
  obtain ⟨d0, d1, d2, d3, d4⟩ := HD
  have HX := Lib.hid (show FBox _ _ X from ⟨f0, f1, f2, f3, f4⟩)
  have HD := Lib.hid (show DBox _ _ x from ⟨d0, d1, d2, d3, d4⟩)
  clear hL hx hr hN
  go_enter Try.func14, Try.ntmps14
  go_wp2_with fail
  generalize ((w.alloc (.cells #[.slice X.F.A X.F.n X.F.c, .slice X.lA X.ln X.lc, .int .i64 X.fuse, .int .i64 X.fault, .bool X.off] 25)).alloc (.cells #[.int .i64 x.kind, .int .i64 x.n, .int .i64 x.tear, .slice x.bytes.A x.bytes.n x.bytes.c, .slice x.keep.A x.keep.n x.keep.c] 34)).alloc (.cells #[.slice none 0 0, .slice none 0 0, .int .i64 0, .int .i64 0, .bool false] 25) = W1 at *
  refine (hwc _).mono ?_
  rintro e W2 ⟨rfl, hb2⟩
  clear f0 f1 f2 f3 f4 d0 d1 d2 d3 d4 hwc
  obtain ⟨f0, f1, f2, f3, f4⟩ := HX.out.later hb2
  obtain ⟨d0, d1, d2, d3, d4⟩ := HD.out.later hb2
  have hb3 := bel_next hb1 hb2
  have hs2 := hb2.size
  have HV2 := Lib.hid (HV.later hb2)
  clear HV hb1 hb2 HX HD
  go_wp2_with fail
  refine (hcall.out _ hb3).mono ?_
  rintro e W3 ⟨Y, rfl, hYs, hYL, hb4, haw⟩
  have hb5 := bel_next hb3 hb4
  have hs3 := hb4.size
  obtain ⟨⟨j0, j1, j2, j3, j4⟩, k0, k1, k2, k3, k4⟩ := HV2.out.later hb4
  have hbe := fbelow_set5 (a := .slice Y.F.A Y.F.n Y.F.c) (b := .slice Y.lA Y.ln Y.lc) (c := .int .i64 Y.fuse) (d := .int .i64 Y.fault) (e := .bool Y.off) hb5 (show w.heap.size ≤ w.heap.size + 1 + 1 by omega)
  have HYs := Lib.hid hYs
  have HAw := Lib.hid (show ∀ k, k < w.heap.size → AwayF X k → AwayP x.bytes k → AwayF Y k from fun k hk h1 h2 => haw k (by omega) h1 trivial)
  have HYL := Lib.hid (lie_res (g := w.heap.size + 1 + 1) (a := .slice Y.F.A Y.F.n Y.F.c) (b := .slice Y.lA Y.ln Y.lc) (c := .int .i64 Y.fuse) (d := .int .i64 Y.fault) (e := .bool Y.off) hYL (haw (w.heap.size + 1 + 1) (by omega) ((HL.out.more hB).away (by omega)) trivial))
  clear hcall hYs hYL haw hsz HV2 hb4 hb5 hb3 HL f0 f1 f2 f3 f4 d0 d1 d2 d3 d4 hs2 hs3
  simp only [FileT.agg, PcT.val]
  go_wp2
  (try rw [Exit.noGoto_ret])
  refine bodyPost_ret (v := .tuple #[.agg #[.slice Y.F.A Y.F.n Y.F.c, .slice Y.lA Y.ln Y.lc, .int .i64 Y.fuse, .int .i64 Y.fault, .bool Y.off], .int .i64 200]) ?_ rfl ⟨Y, rfl, HYs.out, HYL.out, hbe, HAw.out⟩
  simp [results, Try.results14, go_sem, *]
set_option maxRecDepth 20000 in
set_option maxHeartbeats 2000000 in
theorem does_4_bad (X : FileT) (x : DeedT) (B N : Nat) (w : World) (hL : LieF w B X) (hx : x.Ok w B N) (hB : B ≤ w.heap.size) (hN : ∀ p ∈ X.Q, p.n ≤ 1048576) (hr : X.right = false) (hq : whichN x.kind = 4) :
    Calls Try.prog 14 #[X.agg, .agg #[.int .i64 x.kind, .int .i64 x.n, .int .i64 x.tear, .slice x.bytes.A x.bytes.n x.bytes.c, .slice x.keep.A x.keep.n x.keep.c]] w (OpP X (AwayP x.bytes) (X.s, 200) w) := by
  have hb1 := bel_alloc (bel_alloc (bel_alloc (Below.refl w.heap.size w) (.cells #[.slice X.F.A X.F.n X.F.c, .slice X.lA X.ln X.lc, .int .i64 X.fuse, .int .i64 X.fault, .bool X.off] 25)) (.cells #[.int .i64 x.kind, .int .i64 x.n, .int .i64 x.tear, .slice x.bytes.A x.bytes.n x.bytes.c, .slice x.keep.A x.keep.n x.keep.c] 34)) (.cells #[.slice none 0 0, .slice none 0 0, .int .i64 0, .int .i64 0, .bool false] 25)
  have HX := (FBox.new w X 25).later (bel_alloc (bel_alloc (Below.refl _ _) (.cells #[.int .i64 x.kind, .int .i64 x.n, .int .i64 x.tear, .slice x.bytes.A x.bytes.n x.bytes.c, .slice x.keep.A x.keep.n x.keep.c] 34)) (.cells #[.slice none 0 0, .slice none 0 0, .int .i64 0, .int .i64 0, .bool false] 25))
  have HD := (DBox.new (w.alloc (.cells #[.slice X.F.A X.F.n X.F.c, .slice X.lA X.ln X.lc, .int .i64 X.fuse, .int .i64 X.fault, .bool X.off] 25)) x 34).later (bel_alloc (Below.refl _ _) (.cells #[.slice none 0 0, .slice none 0 0, .int .i64 0, .int .i64 0, .bool false] 25))
  have HV := FVar.new ((w.alloc (.cells #[.slice X.F.A X.F.n X.F.c, .slice X.lA X.ln X.lc, .int .i64 X.fuse, .int .i64 X.fault, .bool X.off] 25)).alloc (.cells #[.int .i64 x.kind, .int .i64 x.n, .int .i64 x.tear, .slice x.bytes.A x.bytes.n x.bytes.c, .slice x.keep.A x.keep.n x.keep.c] 34)) (.slice none 0 0) (.slice none 0 0) (.int .i64 0) (.int .i64 0) (.bool false) 25
  rw [World.size_alloc] at HD
  rw [World.size_alloc, World.size_alloc] at HV
  have hsz : (((w.alloc (.cells #[.slice X.F.A X.F.n X.F.c, .slice X.lA X.ln X.lc, .int .i64 X.fuse, .int .i64 X.fault, .bool X.off] 25)).alloc (.cells #[.int .i64 x.kind, .int .i64 x.n, .int .i64 x.tear, .slice x.bytes.A x.bytes.n x.bytes.c, .slice x.keep.A x.keep.n x.keep.c] 34)).alloc (.cells #[.slice none 0 0, .slice none 0 0, .int .i64 0, .int .i64 0, .bool false] 25)).heap.size = w.heap.size + 1 + 1 + 1 := by simp
  have hcall := Lib.hid (fun W (hw : Below w.heap.size w W) => show Calls _ _ _ W (OpP X (fun _ => True) (X.s, 200) W) from
    have HLw := hL.later (hw.mono hB)
    have HXw := hx.later (hw.mono hB)
    have HBw := Nat.le_trans hB hw.size
    lightF_bad X B x.n _ HLw HBw hN hr)
  have h3 : (((whichN x.kind : Nat) : Int) == 3) = false := by rw [beq_eq_false_iff_ne]; omega
  have h4 : (((whichN x.kind : Nat) : Int) == 4) = true := by rw [beq_iff_eq]; omega
  have h5 : (((whichN x.kind : Nat) : Int) == 5) = false := by rw [beq_eq_false_iff_ne]; omega
  have h6 : (((whichN x.kind : Nat) : Int) == 6) = false := by rw [beq_eq_false_iff_ne]; omega
  clear hq
  simp only [FileT.agg, PcT.val] at hcall ⊢
  have HL := Lib.hid hL
  have hwc := fun W => which_any x W
  generalize whichN x.kind = q at *
  obtain ⟨f0, f1, f2, f3, f4⟩ := HX
  obtain ⟨d0, d1, d2, d3, d4⟩ := HD
  have HX := Lib.hid (show FBox _ _ X from ⟨f0, f1, f2, f3, f4⟩)
  have HD := Lib.hid (show DBox _ _ x from ⟨d0, d1, d2, d3, d4⟩)
  clear hL hx hr hN
  go_enter Try.func14, Try.ntmps14
  go_wp2_with fail
  generalize ((w.alloc (.cells #[.slice X.F.A X.F.n X.F.c, .slice X.lA X.ln X.lc, .int .i64 X.fuse, .int .i64 X.fault, .bool X.off] 25)).alloc (.cells #[.int .i64 x.kind, .int .i64 x.n, .int .i64 x.tear, .slice x.bytes.A x.bytes.n x.bytes.c, .slice x.keep.A x.keep.n x.keep.c] 34)).alloc (.cells #[.slice none 0 0, .slice none 0 0, .int .i64 0, .int .i64 0, .bool false] 25) = W1 at *
  refine (hwc _).mono ?_
  rintro e W2 ⟨rfl, hb2⟩
  clear f0 f1 f2 f3 f4 d0 d1 d2 d3 d4 hwc
  obtain ⟨f0, f1, f2, f3, f4⟩ := HX.out.later hb2
  obtain ⟨d0, d1, d2, d3, d4⟩ := HD.out.later hb2
  have hb3 := bel_next hb1 hb2
  have hs2 := hb2.size
  have HV2 := Lib.hid (HV.later hb2)
  clear HV hb1 hb2 HX HD
  go_wp2_with fail
  refine (hcall.out _ hb3).mono ?_
  rintro e W3 ⟨Y, rfl, hYs, hYL, hb4, haw⟩
  have hb5 := bel_next hb3 hb4
  have hs3 := hb4.size
  obtain ⟨⟨j0, j1, j2, j3, j4⟩, k0, k1, k2, k3, k4⟩ := HV2.out.later hb4
  have hbe := fbelow_set5 (a := .slice Y.F.A Y.F.n Y.F.c) (b := .slice Y.lA Y.ln Y.lc) (c := .int .i64 Y.fuse) (d := .int .i64 Y.fault) (e := .bool Y.off) hb5 (show w.heap.size ≤ w.heap.size + 1 + 1 by omega)
  have HYs := Lib.hid hYs
  have HAw := Lib.hid (show ∀ k, k < w.heap.size → AwayF X k → AwayP x.bytes k → AwayF Y k from fun k hk h1 h2 => haw k (by omega) h1 trivial)
  have HYL := Lib.hid (lie_res (g := w.heap.size + 1 + 1) (a := .slice Y.F.A Y.F.n Y.F.c) (b := .slice Y.lA Y.ln Y.lc) (c := .int .i64 Y.fuse) (d := .int .i64 Y.fault) (e := .bool Y.off) hYL (haw (w.heap.size + 1 + 1) (by omega) ((HL.out.more hB).away (by omega)) trivial))
  clear hcall hYs hYL haw hsz HV2 hb4 hb5 hb3 HL f0 f1 f2 f3 f4 d0 d1 d2 d3 d4 hs2 hs3
  simp only [FileT.agg, PcT.val]
  go_wp2
  (try rw [Exit.noGoto_ret])
  refine bodyPost_ret (v := .tuple #[.agg #[.slice Y.F.A Y.F.n Y.F.c, .slice Y.lA Y.ln Y.lc, .int .i64 Y.fuse, .int .i64 Y.fault, .bool Y.off], .int .i64 200]) ?_ rfl ⟨Y, rfl, HYs.out, HYL.out, hbe, HAw.out⟩
  simp [results, Try.results14, go_sem, *]
set_option maxRecDepth 20000 in
set_option maxHeartbeats 2000000 in
theorem does_5_bad (X : FileT) (x : DeedT) (B N : Nat) (w : World) (hL : LieF w B X) (hx : x.Ok w B N) (hB : B ≤ w.heap.size) (hN : ∀ p ∈ X.Q, p.n ≤ 1048576) (hr : X.right = false) (hq : whichN x.kind = 5) :
    Calls Try.prog 14 #[X.agg, .agg #[.int .i64 x.kind, .int .i64 x.n, .int .i64 x.tear, .slice x.bytes.A x.bytes.n x.bytes.c, .slice x.keep.A x.keep.n x.keep.c]] w (OpP X (AwayP x.bytes) (X.s, 200) w) := by
  have hb1 := bel_alloc (bel_alloc (bel_alloc (Below.refl w.heap.size w) (.cells #[.slice X.F.A X.F.n X.F.c, .slice X.lA X.ln X.lc, .int .i64 X.fuse, .int .i64 X.fault, .bool X.off] 25)) (.cells #[.int .i64 x.kind, .int .i64 x.n, .int .i64 x.tear, .slice x.bytes.A x.bytes.n x.bytes.c, .slice x.keep.A x.keep.n x.keep.c] 34)) (.cells #[.slice none 0 0, .slice none 0 0, .int .i64 0, .int .i64 0, .bool false] 25)
  have HX := (FBox.new w X 25).later (bel_alloc (bel_alloc (Below.refl _ _) (.cells #[.int .i64 x.kind, .int .i64 x.n, .int .i64 x.tear, .slice x.bytes.A x.bytes.n x.bytes.c, .slice x.keep.A x.keep.n x.keep.c] 34)) (.cells #[.slice none 0 0, .slice none 0 0, .int .i64 0, .int .i64 0, .bool false] 25))
  have HD := (DBox.new (w.alloc (.cells #[.slice X.F.A X.F.n X.F.c, .slice X.lA X.ln X.lc, .int .i64 X.fuse, .int .i64 X.fault, .bool X.off] 25)) x 34).later (bel_alloc (Below.refl _ _) (.cells #[.slice none 0 0, .slice none 0 0, .int .i64 0, .int .i64 0, .bool false] 25))
  have HV := FVar.new ((w.alloc (.cells #[.slice X.F.A X.F.n X.F.c, .slice X.lA X.ln X.lc, .int .i64 X.fuse, .int .i64 X.fault, .bool X.off] 25)).alloc (.cells #[.int .i64 x.kind, .int .i64 x.n, .int .i64 x.tear, .slice x.bytes.A x.bytes.n x.bytes.c, .slice x.keep.A x.keep.n x.keep.c] 34)) (.slice none 0 0) (.slice none 0 0) (.int .i64 0) (.int .i64 0) (.bool false) 25
  rw [World.size_alloc] at HD
  rw [World.size_alloc, World.size_alloc] at HV
  have hsz : (((w.alloc (.cells #[.slice X.F.A X.F.n X.F.c, .slice X.lA X.ln X.lc, .int .i64 X.fuse, .int .i64 X.fault, .bool X.off] 25)).alloc (.cells #[.int .i64 x.kind, .int .i64 x.n, .int .i64 x.tear, .slice x.bytes.A x.bytes.n x.bytes.c, .slice x.keep.A x.keep.n x.keep.c] 34)).alloc (.cells #[.slice none 0 0, .slice none 0 0, .int .i64 0, .int .i64 0, .bool false] 25)).heap.size = w.heap.size + 1 + 1 + 1 := by simp
  have hcall := Lib.hid (fun W (hw : Below w.heap.size w W) => show Calls _ _ _ W (OpP X (fun _ => True) (X.s, 200) W) from
    have HLw := hL.later (hw.mono hB)
    have HXw := hx.later (hw.mono hB)
    have HBw := Nat.le_trans hB hw.size
    refuseF_bad X B x.n _ HLw HBw hN hr)
  have h3 : (((whichN x.kind : Nat) : Int) == 3) = false := by rw [beq_eq_false_iff_ne]; omega
  have h4 : (((whichN x.kind : Nat) : Int) == 4) = false := by rw [beq_eq_false_iff_ne]; omega
  have h5 : (((whichN x.kind : Nat) : Int) == 5) = true := by rw [beq_iff_eq]; omega
  have h6 : (((whichN x.kind : Nat) : Int) == 6) = false := by rw [beq_eq_false_iff_ne]; omega
  clear hq
  simp only [FileT.agg, PcT.val] at hcall ⊢
  have HL := Lib.hid hL
  have hwc := fun W => which_any x W
  generalize whichN x.kind = q at *
  obtain ⟨f0, f1, f2, f3, f4⟩ := HX
  obtain ⟨d0, d1, d2, d3, d4⟩ := HD
  have HX := Lib.hid (show FBox _ _ X from ⟨f0, f1, f2, f3, f4⟩)
  have HD := Lib.hid (show DBox _ _ x from ⟨d0, d1, d2, d3, d4⟩)
  clear hL hx hr hN
  go_enter Try.func14, Try.ntmps14
  go_wp2_with fail
  generalize ((w.alloc (.cells #[.slice X.F.A X.F.n X.F.c, .slice X.lA X.ln X.lc, .int .i64 X.fuse, .int .i64 X.fault, .bool X.off] 25)).alloc (.cells #[.int .i64 x.kind, .int .i64 x.n, .int .i64 x.tear, .slice x.bytes.A x.bytes.n x.bytes.c, .slice x.keep.A x.keep.n x.keep.c] 34)).alloc (.cells #[.slice none 0 0, .slice none 0 0, .int .i64 0, .int .i64 0, .bool false] 25) = W1 at *
  refine (hwc _).mono ?_
  rintro e W2 ⟨rfl, hb2⟩
  clear f0 f1 f2 f3 f4 d0 d1 d2 d3 d4 hwc
  obtain ⟨f0, f1, f2, f3, f4⟩ := HX.out.later hb2
  obtain ⟨d0, d1, d2, d3, d4⟩ := HD.out.later hb2
  have hb3 := bel_next hb1 hb2
  have hs2 := hb2.size
  have HV2 := Lib.hid (HV.later hb2)
  clear HV hb1 hb2 HX HD
  go_wp2_with fail
  refine (hcall.out _ hb3).mono ?_
  rintro e W3 ⟨Y, rfl, hYs, hYL, hb4, haw⟩
  have hb5 := bel_next hb3 hb4
  have hs3 := hb4.size
  obtain ⟨⟨j0, j1, j2, j3, j4⟩, k0, k1, k2, k3, k4⟩ := HV2.out.later hb4
  have hbe := fbelow_set5 (a := .slice Y.F.A Y.F.n Y.F.c) (b := .slice Y.lA Y.ln Y.lc) (c := .int .i64 Y.fuse) (d := .int .i64 Y.fault) (e := .bool Y.off) hb5 (show w.heap.size ≤ w.heap.size + 1 + 1 by omega)
  have HYs := Lib.hid hYs
  have HAw := Lib.hid (show ∀ k, k < w.heap.size → AwayF X k → AwayP x.bytes k → AwayF Y k from fun k hk h1 h2 => haw k (by omega) h1 trivial)
  have HYL := Lib.hid (lie_res (g := w.heap.size + 1 + 1) (a := .slice Y.F.A Y.F.n Y.F.c) (b := .slice Y.lA Y.ln Y.lc) (c := .int .i64 Y.fuse) (d := .int .i64 Y.fault) (e := .bool Y.off) hYL (haw (w.heap.size + 1 + 1) (by omega) ((HL.out.more hB).away (by omega)) trivial))
  clear hcall hYs hYL haw hsz HV2 hb4 hb5 hb3 HL f0 f1 f2 f3 f4 d0 d1 d2 d3 d4 hs2 hs3
  simp only [FileT.agg, PcT.val]
  go_wp2
  (try rw [Exit.noGoto_ret])
  refine bodyPost_ret (v := .tuple #[.agg #[.slice Y.F.A Y.F.n Y.F.c, .slice Y.lA Y.ln Y.lc, .int .i64 Y.fuse, .int .i64 Y.fault, .bool Y.off], .int .i64 200]) ?_ rfl ⟨Y, rfl, HYs.out, HYL.out, hbe, HAw.out⟩
  simp [results, Try.results14, go_sem, *]
set_option maxRecDepth 20000 in
set_option maxHeartbeats 2000000 in
theorem does_6_bad (X : FileT) (x : DeedT) (B N : Nat) (w : World) (hL : LieF w B X) (hx : x.Ok w B N) (hB : B ≤ w.heap.size) (hN : ∀ p ∈ X.Q, p.n ≤ 1048576) (hr : X.right = false) (hq : whichN x.kind = 6) :
    Calls Try.prog 14 #[X.agg, .agg #[.int .i64 x.kind, .int .i64 x.n, .int .i64 x.tear, .slice x.bytes.A x.bytes.n x.bytes.c, .slice x.keep.A x.keep.n x.keep.c]] w (OpP X (AwayP x.bytes) (X.s, 200) w) := by
  have hb1 := bel_alloc (bel_alloc (bel_alloc (Below.refl w.heap.size w) (.cells #[.slice X.F.A X.F.n X.F.c, .slice X.lA X.ln X.lc, .int .i64 X.fuse, .int .i64 X.fault, .bool X.off] 25)) (.cells #[.int .i64 x.kind, .int .i64 x.n, .int .i64 x.tear, .slice x.bytes.A x.bytes.n x.bytes.c, .slice x.keep.A x.keep.n x.keep.c] 34)) (.cells #[.slice none 0 0, .slice none 0 0, .int .i64 0, .int .i64 0, .bool false] 25)
  have HX := (FBox.new w X 25).later (bel_alloc (bel_alloc (Below.refl _ _) (.cells #[.int .i64 x.kind, .int .i64 x.n, .int .i64 x.tear, .slice x.bytes.A x.bytes.n x.bytes.c, .slice x.keep.A x.keep.n x.keep.c] 34)) (.cells #[.slice none 0 0, .slice none 0 0, .int .i64 0, .int .i64 0, .bool false] 25))
  have HD := (DBox.new (w.alloc (.cells #[.slice X.F.A X.F.n X.F.c, .slice X.lA X.ln X.lc, .int .i64 X.fuse, .int .i64 X.fault, .bool X.off] 25)) x 34).later (bel_alloc (Below.refl _ _) (.cells #[.slice none 0 0, .slice none 0 0, .int .i64 0, .int .i64 0, .bool false] 25))
  have HV := FVar.new ((w.alloc (.cells #[.slice X.F.A X.F.n X.F.c, .slice X.lA X.ln X.lc, .int .i64 X.fuse, .int .i64 X.fault, .bool X.off] 25)).alloc (.cells #[.int .i64 x.kind, .int .i64 x.n, .int .i64 x.tear, .slice x.bytes.A x.bytes.n x.bytes.c, .slice x.keep.A x.keep.n x.keep.c] 34)) (.slice none 0 0) (.slice none 0 0) (.int .i64 0) (.int .i64 0) (.bool false) 25
  rw [World.size_alloc] at HD
  rw [World.size_alloc, World.size_alloc] at HV
  have hsz : (((w.alloc (.cells #[.slice X.F.A X.F.n X.F.c, .slice X.lA X.ln X.lc, .int .i64 X.fuse, .int .i64 X.fault, .bool X.off] 25)).alloc (.cells #[.int .i64 x.kind, .int .i64 x.n, .int .i64 x.tear, .slice x.bytes.A x.bytes.n x.bytes.c, .slice x.keep.A x.keep.n x.keep.c] 34)).alloc (.cells #[.slice none 0 0, .slice none 0 0, .int .i64 0, .int .i64 0, .bool false] 25)).heap.size = w.heap.size + 1 + 1 + 1 := by simp
  have hcall := Lib.hid (fun W (hw : Below w.heap.size w W) => show Calls _ _ _ W (OpP X (fun _ => True) (X.s, 200) W) from
    have HLw := hL.later (hw.mono hB)
    have HXw := hx.later (hw.mono hB)
    have HBw := Nat.le_trans hB hw.size
    crashF_bad X x.keep x.tear x.n _ B _ HLw HBw hN hr)
  have h3 : (((whichN x.kind : Nat) : Int) == 3) = false := by rw [beq_eq_false_iff_ne]; omega
  have h4 : (((whichN x.kind : Nat) : Int) == 4) = false := by rw [beq_eq_false_iff_ne]; omega
  have h5 : (((whichN x.kind : Nat) : Int) == 5) = false := by rw [beq_eq_false_iff_ne]; omega
  have h6 : (((whichN x.kind : Nat) : Int) == 6) = true := by rw [beq_iff_eq]; omega
  clear hq
  simp only [FileT.agg, PcT.val] at hcall ⊢
  have HL := Lib.hid hL
  have hwc := fun W => which_any x W
  generalize whichN x.kind = q at *
  obtain ⟨f0, f1, f2, f3, f4⟩ := HX
  obtain ⟨d0, d1, d2, d3, d4⟩ := HD
  have HX := Lib.hid (show FBox _ _ X from ⟨f0, f1, f2, f3, f4⟩)
  have HD := Lib.hid (show DBox _ _ x from ⟨d0, d1, d2, d3, d4⟩)
  clear hL hx hr hN
  go_enter Try.func14, Try.ntmps14
  go_wp2_with fail
  generalize ((w.alloc (.cells #[.slice X.F.A X.F.n X.F.c, .slice X.lA X.ln X.lc, .int .i64 X.fuse, .int .i64 X.fault, .bool X.off] 25)).alloc (.cells #[.int .i64 x.kind, .int .i64 x.n, .int .i64 x.tear, .slice x.bytes.A x.bytes.n x.bytes.c, .slice x.keep.A x.keep.n x.keep.c] 34)).alloc (.cells #[.slice none 0 0, .slice none 0 0, .int .i64 0, .int .i64 0, .bool false] 25) = W1 at *
  refine (hwc _).mono ?_
  rintro e W2 ⟨rfl, hb2⟩
  clear f0 f1 f2 f3 f4 d0 d1 d2 d3 d4 hwc
  obtain ⟨f0, f1, f2, f3, f4⟩ := HX.out.later hb2
  obtain ⟨d0, d1, d2, d3, d4⟩ := HD.out.later hb2
  have hb3 := bel_next hb1 hb2
  have hs2 := hb2.size
  have HV2 := Lib.hid (HV.later hb2)
  clear HV hb1 hb2 HX HD
  go_wp2_with fail
  refine (hcall.out _ hb3).mono ?_
  rintro e W3 ⟨Y, rfl, hYs, hYL, hb4, haw⟩
  have hb5 := bel_next hb3 hb4
  have hs3 := hb4.size
  obtain ⟨⟨j0, j1, j2, j3, j4⟩, k0, k1, k2, k3, k4⟩ := HV2.out.later hb4
  have hbe := fbelow_set5 (a := .slice Y.F.A Y.F.n Y.F.c) (b := .slice Y.lA Y.ln Y.lc) (c := .int .i64 Y.fuse) (d := .int .i64 Y.fault) (e := .bool Y.off) hb5 (show w.heap.size ≤ w.heap.size + 1 + 1 by omega)
  have HYs := Lib.hid hYs
  have HAw := Lib.hid (show ∀ k, k < w.heap.size → AwayF X k → AwayP x.bytes k → AwayF Y k from fun k hk h1 h2 => haw k (by omega) h1 trivial)
  have HYL := Lib.hid (lie_res (g := w.heap.size + 1 + 1) (a := .slice Y.F.A Y.F.n Y.F.c) (b := .slice Y.lA Y.ln Y.lc) (c := .int .i64 Y.fuse) (d := .int .i64 Y.fault) (e := .bool Y.off) hYL (haw (w.heap.size + 1 + 1) (by omega) ((HL.out.more hB).away (by omega)) trivial))
  clear hcall hYs hYL haw hsz HV2 hb4 hb5 hb3 HL f0 f1 f2 f3 f4 d0 d1 d2 d3 d4 hs2 hs3
  simp only [FileT.agg, PcT.val]
  go_wp2
  (try rw [Exit.noGoto_ret])
  refine bodyPost_ret (v := .tuple #[.agg #[.slice Y.F.A Y.F.n Y.F.c, .slice Y.lA Y.ln Y.lc, .int .i64 Y.fuse, .int .i64 Y.fault, .bool Y.off], .int .i64 200]) ?_ rfl ⟨Y, rfl, HYs.out, HYL.out, hbe, HAw.out⟩
  simp [results, Try.results14, go_sem, *]
set_option maxRecDepth 20000 in
set_option maxHeartbeats 2000000 in
theorem does_a_bad (X : FileT) (x : DeedT) (B N : Nat) (w : World) (hL : LieF w B X) (hx : x.Ok w B N) (hB : B ≤ w.heap.size) (hN : ∀ p ∈ X.Q, p.n ≤ 1048576) (hr : X.right = false) (hq : ¬ (whichN x.kind = 3 ∨ whichN x.kind = 4 ∨ whichN x.kind = 5 ∨ whichN x.kind = 6)) :
    Calls Try.prog 14 #[X.agg, .agg #[.int .i64 x.kind, .int .i64 x.n, .int .i64 x.tear, .slice x.bytes.A x.bytes.n x.bytes.c, .slice x.keep.A x.keep.n x.keep.c]] w (OpP X (AwayP x.bytes) (X.s, 200) w) := by
  have hb1 := bel_alloc (bel_alloc (bel_alloc (Below.refl w.heap.size w) (.cells #[.slice X.F.A X.F.n X.F.c, .slice X.lA X.ln X.lc, .int .i64 X.fuse, .int .i64 X.fault, .bool X.off] 25)) (.cells #[.int .i64 x.kind, .int .i64 x.n, .int .i64 x.tear, .slice x.bytes.A x.bytes.n x.bytes.c, .slice x.keep.A x.keep.n x.keep.c] 34)) (.cells #[.slice none 0 0, .slice none 0 0, .int .i64 0, .int .i64 0, .bool false] 25)
  have HX := (FBox.new w X 25).later (bel_alloc (bel_alloc (Below.refl _ _) (.cells #[.int .i64 x.kind, .int .i64 x.n, .int .i64 x.tear, .slice x.bytes.A x.bytes.n x.bytes.c, .slice x.keep.A x.keep.n x.keep.c] 34)) (.cells #[.slice none 0 0, .slice none 0 0, .int .i64 0, .int .i64 0, .bool false] 25))
  have HD := (DBox.new (w.alloc (.cells #[.slice X.F.A X.F.n X.F.c, .slice X.lA X.ln X.lc, .int .i64 X.fuse, .int .i64 X.fault, .bool X.off] 25)) x 34).later (bel_alloc (Below.refl _ _) (.cells #[.slice none 0 0, .slice none 0 0, .int .i64 0, .int .i64 0, .bool false] 25))
  have HV := FVar.new ((w.alloc (.cells #[.slice X.F.A X.F.n X.F.c, .slice X.lA X.ln X.lc, .int .i64 X.fuse, .int .i64 X.fault, .bool X.off] 25)).alloc (.cells #[.int .i64 x.kind, .int .i64 x.n, .int .i64 x.tear, .slice x.bytes.A x.bytes.n x.bytes.c, .slice x.keep.A x.keep.n x.keep.c] 34)) (.slice none 0 0) (.slice none 0 0) (.int .i64 0) (.int .i64 0) (.bool false) 25
  rw [World.size_alloc] at HD
  rw [World.size_alloc, World.size_alloc] at HV
  have hsz : (((w.alloc (.cells #[.slice X.F.A X.F.n X.F.c, .slice X.lA X.ln X.lc, .int .i64 X.fuse, .int .i64 X.fault, .bool X.off] 25)).alloc (.cells #[.int .i64 x.kind, .int .i64 x.n, .int .i64 x.tear, .slice x.bytes.A x.bytes.n x.bytes.c, .slice x.keep.A x.keep.n x.keep.c] 34)).alloc (.cells #[.slice none 0 0, .slice none 0 0, .int .i64 0, .int .i64 0, .bool false] 25)).heap.size = w.heap.size + 1 + 1 + 1 := by simp
  have hcall := Lib.hid (fun W (hw : Below w.heap.size w W) => show Calls _ _ _ W (OpP X (AwayP x.bytes) (X.s, 200) W) from
    have HLw := hL.later (hw.mono hB)
    have HXw := hx.later (hw.mono hB)
    have HBw := Nat.le_trans hB hw.size
    appendF_bad X x.bytes _ B _ HLw HBw hN hr)
  have h3 : (((whichN x.kind : Nat) : Int) == 3) = false := by rw [beq_eq_false_iff_ne]; omega
  have h4 : (((whichN x.kind : Nat) : Int) == 4) = false := by rw [beq_eq_false_iff_ne]; omega
  have h5 : (((whichN x.kind : Nat) : Int) == 5) = false := by rw [beq_eq_false_iff_ne]; omega
  have h6 : (((whichN x.kind : Nat) : Int) == 6) = false := by rw [beq_eq_false_iff_ne]; omega
  clear hq
  simp only [FileT.agg, PcT.val] at hcall ⊢
  have HL := Lib.hid hL
  have hwc := fun W => which_any x W
  generalize whichN x.kind = q at *
  obtain ⟨f0, f1, f2, f3, f4⟩ := HX
  obtain ⟨d0, d1, d2, d3, d4⟩ := HD
  have HX := Lib.hid (show FBox _ _ X from ⟨f0, f1, f2, f3, f4⟩)
  have HD := Lib.hid (show DBox _ _ x from ⟨d0, d1, d2, d3, d4⟩)
  have HXb := Lib.hid (hx.bytes.more hB)
  clear hL hx hr hN
  go_enter Try.func14, Try.ntmps14
  go_wp2_with fail
  generalize ((w.alloc (.cells #[.slice X.F.A X.F.n X.F.c, .slice X.lA X.ln X.lc, .int .i64 X.fuse, .int .i64 X.fault, .bool X.off] 25)).alloc (.cells #[.int .i64 x.kind, .int .i64 x.n, .int .i64 x.tear, .slice x.bytes.A x.bytes.n x.bytes.c, .slice x.keep.A x.keep.n x.keep.c] 34)).alloc (.cells #[.slice none 0 0, .slice none 0 0, .int .i64 0, .int .i64 0, .bool false] 25) = W1 at *
  refine (hwc _).mono ?_
  rintro e W2 ⟨rfl, hb2⟩
  clear f0 f1 f2 f3 f4 d0 d1 d2 d3 d4 hwc
  obtain ⟨f0, f1, f2, f3, f4⟩ := HX.out.later hb2
  obtain ⟨d0, d1, d2, d3, d4⟩ := HD.out.later hb2
  have hb3 := bel_next hb1 hb2
  have hs2 := hb2.size
  have HV2 := Lib.hid (HV.later hb2)
  clear HV hb1 hb2 HX HD
  go_wp2_with fail
  refine (hcall.out _ hb3).mono ?_
  rintro e W3 ⟨Y, rfl, hYs, hYL, hb4, haw⟩
  have hb5 := bel_next hb3 hb4
  have hs3 := hb4.size
  obtain ⟨⟨j0, j1, j2, j3, j4⟩, k0, k1, k2, k3, k4⟩ := HV2.out.later hb4
  have hbe := fbelow_set5 (a := .slice Y.F.A Y.F.n Y.F.c) (b := .slice Y.lA Y.ln Y.lc) (c := .int .i64 Y.fuse) (d := .int .i64 Y.fault) (e := .bool Y.off) hb5 (show w.heap.size ≤ w.heap.size + 1 + 1 by omega)
  have HYs := Lib.hid hYs
  have HAw := Lib.hid (show ∀ k, k < w.heap.size → AwayF X k → AwayP x.bytes k → AwayF Y k from fun k hk h1 h2 => haw k (by omega) h1 h2)
  have HYL := Lib.hid (lie_res (g := w.heap.size + 1 + 1) (a := .slice Y.F.A Y.F.n Y.F.c) (b := .slice Y.lA Y.ln Y.lc) (c := .int .i64 Y.fuse) (d := .int .i64 Y.fault) (e := .bool Y.off) hYL (haw (w.heap.size + 1 + 1) (by omega) ((HL.out.more hB).away (by omega)) (HXb.out.away (by omega))))
  clear hcall hYs hYL haw hsz HV2 hb4 hb5 hb3 HL f0 f1 f2 f3 f4 d0 d1 d2 d3 d4 hs2 hs3
  simp only [FileT.agg, PcT.val]
  go_wp2
  (try rw [Exit.noGoto_ret])
  refine bodyPost_ret (v := .tuple #[.agg #[.slice Y.F.A Y.F.n Y.F.c, .slice Y.lA Y.ln Y.lc, .int .i64 Y.fuse, .int .i64 Y.fault, .bool Y.off], .int .i64 200]) ?_ rfl ⟨Y, rfl, HYs.out, HYL.out, hbe, HAw.out⟩
  simp [results, Try.results14, go_sem, *]
theorem does_bad (X : FileT) (x : DeedT) (B N : Nat) (w : World) (hL : LieF w B X) (hx : x.Ok w B N) (hB : B ≤ w.heap.size) (hN : ∀ p ∈ X.Q, p.n ≤ 1048576) (hr : X.right = false) :
    Calls Try.prog 14 #[X.agg, .agg #[.int .i64 x.kind, .int .i64 x.n, .int .i64 x.tear, .slice x.bytes.A x.bytes.n x.bytes.c, .slice x.keep.A x.keep.n x.keep.c]] w (OpP X (AwayP x.bytes) (X.s, 200) w) := by
  by_cases h3 : whichN x.kind = 3
  · exact does_3_bad X x B N w hL hx hB hN hr h3
  · by_cases h4 : whichN x.kind = 4
    · exact does_4_bad X x B N w hL hx hB hN hr h4
    · by_cases h5 : whichN x.kind = 5
      · exact does_5_bad X x B N w hL hx hB hN hr h5
      · by_cases h6 : whichN x.kind = 6
        · exact does_6_bad X x B N w hL hx hB hN hr h6
        · exact does_a_bad X x B N w hL hx hB hN hr (by omega)
end Go.Proofs.Ythoenmggjbojoaa
