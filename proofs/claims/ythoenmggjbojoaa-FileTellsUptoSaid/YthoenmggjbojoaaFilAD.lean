/-
  Layer 10: Light and Refuse.
-/
import Derived.Test.YthoenmggjbojoaaFilAC
namespace Go.Proofs.Ythoenmggjbojoaa
open Go.RowKit
set_option linter.unusedVariables false

theorem max_wf {n : Int} (h : (Lit.int .i64 n).wf = true) : (Lit.int .i64 (max n (-1))).wf = true := by
  have hb := wf_i64 h
  simp [Lit.wf, IntKind.min, IntKind.max, IntKind.bits, IntKind.signed]; omega
theorem FVar.lay {W : World} {g : Nat} {a b c d e : Value} (h : FVar W g a b c d e) (o : Obj) : FVar (W.alloc o) g a b c d e := h.later (bel_alloc (Below.refl _ _) o)
theorem light1_any (g b : Nat) (n m : Int) (hm : m = max n (-1)) (v0 v1 v4 : Value) (x2 x3 : Int) (w : World) (hV : FVar w g v0 v1 (.int .i64 x2) (.int .i64 x3) v4) (hb : w.cell? ⟨b, 0, none⟩ = some (.int .i64 n)) :
    Calls Try.prog 46 #[.pointer (some ⟨g, 0, none⟩), .pointer (some ⟨b, 0, none⟩)] w fun e w' => e = .returned (.tuple #[]) ∧ w.setCell ⟨g, 2, none⟩ (.int .i64 (m)) = w' := by
  obtain ⟨⟨h0, h1, h2, h3, h4⟩, k0, k1, k2, k3, k4⟩ := hV
  clear h0 h1 h4 k0 k1 k4
  by_cases h : n < -1
  · obtain rfl : m = -1 := by omega
    clear hm
    go_enter Try.func46, Try.ntmps46
    go_wp2
    all_goals
      go_end0
      exact ⟨rfl, rfl⟩
  · obtain rfl : n = m := by omega
    clear hm
    go_enter Try.func46, Try.ntmps46
    go_wp2
    all_goals
      go_end0
      exact ⟨rfl, rfl⟩
set_option maxRecDepth 20000 in
set_option maxHeartbeats 2000000 in
theorem set_light (X : FileT) (B b : Nat) (n m : Int) (hm : m = max n (-1)) (w : World) (hL : LieF w B X) (hB : B ≤ w.heap.size) (hr : X.right = true) (hn : (Lit.int .i64 n).wf = true) (hb : w.cell? ⟨b, 0, none⟩ = some (.int .i64 n)) :
    Calls Try.prog 45 #[X.agg, .func (.func 46) #[] #[.pointer (some ⟨b, 0, none⟩)]] w (OpP X (fun _ => True) (if X.off = true then (X.s, 10) else (⟨X.F.l, X.L.map (·.l), m, X.fault, false⟩, 0)) w) := by
  have Hm := Lib.hid hm
  have hwm : (Lit.int .i64 m).wf = true := by rw [hm]; exact max_wf hn
  clear hm
  have HO := Lib.hid (show (X.off = true → (if X.off = true then (X.s, 10) else (⟨X.F.l, X.L.map (·.l), m, X.fault, false⟩, (0 : Int))) = (X.s, 10)) ∧ (¬ X.off = true → (if X.off = true then (X.s, 10) else (⟨X.F.l, X.L.map (·.l), m, X.fault, false⟩, (0 : Int))) = (⟨X.F.l, X.L.map (·.l), m, X.fault, false⟩, (0 : Int))) from ⟨fun h => if_pos h, fun h => if_neg h⟩)
  generalize (if X.off = true then (X.s, 10) else (⟨X.F.l, X.L.map (·.l), m, X.fault, false⟩, (0 : Int))) = out at *
  have hb1 := bel_alloc (bel_alloc (Below.refl w.heap.size w) (.cells #[.slice X.F.A X.F.n X.F.c, .slice X.lA X.ln X.lc, .int .i64 X.fuse, .int .i64 X.fault, .bool X.off] 25)) (.cells #[.slice none 0 0, .slice none 0 0, .int .i64 0, .int .i64 0, .bool false] 25)
  have hV1 := (FVar.new w (.slice X.F.A X.F.n X.F.c) (.slice X.lA X.ln X.lc) (.int .i64 X.fuse) (.int .i64 X.fault) (.bool X.off) 25).lay (.cells #[.slice none 0 0, .slice none 0 0, .int .i64 0, .int .i64 0, .bool false] 25)
  have hV2 := FVar.new (w.alloc (.cells #[.slice X.F.A X.F.n X.F.c, .slice X.lA X.ln X.lc, .int .i64 X.fuse, .int .i64 X.fault, .bool X.off] 25)) (.slice none 0 0) (.slice none 0 0) (.int .i64 0) (.int .i64 0) (.bool false) 25
  rw [World.size_alloc] at hV2
  have hbb := kept_later (bel_alloc (bel_alloc (Below.refl _ _) (.cells #[.slice X.F.A X.F.n X.F.c, .slice X.lA X.ln X.lc, .int .i64 X.fuse, .int .i64 X.fault, .bool X.off] 25)) (.cells #[.slice none 0 0, .slice none 0 0, .int .i64 0, .int .i64 0, .bool false] 25)) hb
  obtain ⟨hN, hl, hln⟩ := right_rows hL hr
  have hch := checkF_any X B _ (hL.later (hb1.mono hB)) (Nat.le_trans hB hb1.size) hN
  rw [if_pos hr] at hch
  simp only [FileT.agg, PcT.val] at hch ⊢
  obtain ⟨⟨f0, f1, f2, f3, f4⟩, -⟩ := hV1
  have HL := Lib.hid hL
  have Hn := Lib.hid hwm
  clear hwm
  have hsz : ((w.alloc (.cells #[.slice X.F.A X.F.n X.F.c, .slice X.lA X.ln X.lc, .int .i64 X.fuse, .int .i64 X.fault, .bool X.off] 25)).alloc (.cells #[.slice none 0 0, .slice none 0 0, .int .i64 0, .int .i64 0, .bool false] 25)).heap.size = w.heap.size + 1 + 1 := by simp
  clear hb hN hl hln hL hn
  go_enter Try.func45, Try.ntmps45
  go_wp2_with fail
  have HV1 := Lib.hid ((FVar.new w (.slice X.F.A X.F.n X.F.c) (.slice X.lA X.ln X.lc) (.int .i64 X.fuse) (.int .i64 X.fault) (.bool X.off) 25).lay (.cells #[.slice none 0 0, .slice none 0 0, .int .i64 0, .int .i64 0, .bool false] 25))
  generalize (w.alloc (.cells #[.slice X.F.A X.F.n X.F.c, .slice X.lA X.ln X.lc, .int .i64 X.fuse, .int .i64 X.fault, .bool X.off] 25)).alloc (.cells #[.slice none 0 0, .slice none 0 0, .int .i64 0, .int .i64 0, .bool false] 25) = W1 at *
  refine hch.mono ?_
  rintro e W2 ⟨rfl, hb2⟩
  have hV3 := HV1.out.later hb2
  have hV4 := hV2.later hb2
  have hb3 := bel_next hb1 hb2
  have hbc := kept_later hb2 hbb
  have HS := Lib.hid hsz
  have hs2 := hb2.size
  clear hch hb1 hb2 HV1 hV2 f0 f1 f2 f3 f4 hbb hsz
  cases ho : X.off
  · rw [ho] at HO hV3
    have HO2 := Lib.hid (HO.out.2 (by decide))
    have hli := light1_any w.heap.size b n m Hm.out _ _ _ _ _ W2 hV3 hbc
    have hmf : ∀ (fn : Fn) (first cap : Array Value) (w : World), (Instr.makeFunc fn first cap).run Try.prog w = .ok (.func fn first cap) w := fun _ _ _ _ => rfl
    have Hho := Lib.hid ho
    have HV5 := Lib.hid (hV3.set2 (.int .i64 m))
    obtain ⟨⟨f0, f1, f2, f3, f4⟩, -⟩ := hV3
    have hne : w.heap.size ≠ w.heap.size + 1 := by omega
    have HV6 := Lib.hid (fvar_other (g := w.heap.size) 2 (.int .i64 (m)) hne hV4)
    have hb4 := hb3.setCell (p := ⟨w.heap.size, 2, none⟩) (Nat.le_refl _) (.int .i64 (m))
    clear HO ho hV4 hne
    go_wp2_with fail
    refine hli.mono ?_
    rintro e W3 ⟨rfl, rfl⟩
    clear hli
    generalize W2.setCell ⟨w.heap.size, 2, none⟩ (.int .i64 (m)) = W3 at *
    clear f0 f1 f2 f3 f4
    obtain ⟨⟨f0, f1, f2, f3, f4⟩, -⟩ := HV5.out
    obtain ⟨⟨j0, j1, j2, j3, j4⟩, k0, k1, k2, k3, k4⟩ := HV6.out
    have hbe := fbelow_set5 (a := .slice X.F.A X.F.n X.F.c) (b := .slice X.lA X.ln X.lc) (c := .int .i64 m) (d := .int .i64 X.fault) (e := .bool false) hb4 (show w.heap.size ≤ w.heap.size + 1 by omega)
    have hL5 := (HL.out.later (hbe.mono hB)).more (Nat.le_trans hB hbe.size)
    have HLe := Lib.hid (show LieF _ _ (⟨X.F, X.lA, X.ln, X.lc, X.L, m, X.fault, false⟩ : FileT) from ⟨hL5.firm, hL5.row, hL5.loose, hL5.nil, hL5.fits, hL5.most, Hn.out, hL5.fault⟩)
    clear hL5
    go_wp2
    refine bodyPost_ret (v := .tuple #[.agg #[.slice X.F.A X.F.n X.F.c, .slice X.lA X.ln X.lc, .int .i64 m, .int .i64 X.fault, .bool false], .int .i64 0]) ?_ rfl ⟨⟨X.F, X.lA, X.ln, X.lc, X.L, m, X.fault, false⟩, by rw [HO2.out]; rfl, by rw [HO2.out]; first | rfl | (rw [← Hho.out]; rfl), HLe.out, hbe, fun _ _ h _ => ⟨h.firm, h.row, h.loose⟩⟩
    simp [results, Try.results45, go_sem, *]
  · rw [ho] at HO hV3
    have HO2 := Lib.hid (HO.out.1 rfl)
    have Hho := Lib.hid ho
    obtain ⟨⟨f0, f1, f2, f3, f4⟩, -⟩ := hV3
    obtain ⟨⟨j0, j1, j2, j3, j4⟩, k0, k1, k2, k3, k4⟩ := hV4
    have hbe := fbelow_set5 (a := .slice X.F.A X.F.n X.F.c) (b := .slice X.lA X.ln X.lc) (c := .int .i64 X.fuse) (d := .int .i64 X.fault) (e := .bool true) hb3 (show w.heap.size ≤ w.heap.size + 1 by omega)
    have HLe := Lib.hid ((HL.out.later (hbe.mono hB)).more (Nat.le_trans hB hbe.size))
    clear HO
    clear ho
    go_wp2
    refine bodyPost_ret (v := .tuple #[.agg #[.slice X.F.A X.F.n X.F.c, .slice X.lA X.ln X.lc, .int .i64 X.fuse, .int .i64 X.fault, .bool true], .int .i64 10]) ?_ rfl ⟨X, by rw [HO2.out]; unfold FileT.agg; rw [Hho.out]; rfl, by rw [HO2.out], HLe.out, hbe, fun _ _ h _ => ⟨h.firm, h.row, h.loose⟩⟩
    simp [results, Try.results45, go_sem, *]
set_option maxRecDepth 20000 in
set_option maxHeartbeats 2000000 in
theorem lightF_any (X : FileT) (B : Nat) (n : Int) (w : World) (hL : LieF w B X) (hB : B ≤ w.heap.size) (hr : X.right = true) (hn : (Lit.int .i64 n).wf = true) :
    Calls Try.prog 27 #[X.agg, .int .i64 n] w (OpP X (fun _ => True) (if X.off = true then (X.s, 10) else (⟨X.F.l, X.L.map (·.l), max n (-1), X.fault, false⟩, 0)) w) := by
  have hb1 := bel_alloc (bel_alloc (bel_alloc (Below.refl w.heap.size w) (.cells #[.slice X.F.A X.F.n X.F.c, .slice X.lA X.ln X.lc, .int .i64 X.fuse, .int .i64 X.fault, .bool X.off] 25)) (.cells #[.int .i64 n] 3)) (.cells #[.slice none 0 0, .slice none 0 0, .int .i64 0, .int .i64 0, .bool false] 25)
  have hV1 := ((FVar.new w (.slice X.F.A X.F.n X.F.c) (.slice X.lA X.ln X.lc) (.int .i64 X.fuse) (.int .i64 X.fault) (.bool X.off) 25).lay (.cells #[.int .i64 n] 3)).lay (.cells #[.slice none 0 0, .slice none 0 0, .int .i64 0, .int .i64 0, .bool false] 25)
  have hV2 := FVar.new ((w.alloc (.cells #[.slice X.F.A X.F.n X.F.c, .slice X.lA X.ln X.lc, .int .i64 X.fuse, .int .i64 X.fault, .bool X.off] 25)).alloc (.cells #[.int .i64 n] 3)) (.slice none 0 0) (.slice none 0 0) (.int .i64 0) (.int .i64 0) (.bool false) 25
  have hsz : (((w.alloc (.cells #[.slice X.F.A X.F.n X.F.c, .slice X.lA X.ln X.lc, .int .i64 X.fuse, .int .i64 X.fault, .bool X.off] 25)).alloc (.cells #[.int .i64 n] 3)).alloc (.cells #[.slice none 0 0, .slice none 0 0, .int .i64 0, .int .i64 0, .bool false] 25)).heap.size = w.heap.size + 1 + 1 + 1 := by simp
  have hb : ((w.alloc (.cells #[.slice X.F.A X.F.n X.F.c, .slice X.lA X.ln X.lc, .int .i64 X.fuse, .int .i64 X.fault, .bool X.off] 25)).alloc (.cells #[.int .i64 n] 3)).cell? ⟨w.heap.size + 1, 0, none⟩ = some (.int .i64 n) := by
    have h := World.cell?_alloc_new (w.alloc (.cells #[.slice X.F.A X.F.n X.F.c, .slice X.lA X.ln X.lc, .int .i64 X.fuse, .int .i64 X.fault, .bool X.off] 25)) #[.int .i64 n] 3 0
    rw [World.size_alloc] at h
    exact h
  rw [World.size_alloc, World.size_alloc] at hV2
  have hbb := cell_keep hb (.cells #[.slice none 0 0, .slice none 0 0, .int .i64 0, .int .i64 0, .bool false] 25)
  have hst := set_light X B (w.heap.size + 1) n _ rfl _ (hL.later (hb1.mono hB)) (Nat.le_trans hB hb1.size) hr hn hbb
  generalize (if X.off = true then (X.s, 10) else (⟨X.F.l, X.L.map (·.l), max n (-1), X.fault, false⟩, (0 : Int))) = out at *
  have hmf : ∀ (fn : Fn) (first cap : Array Value) (w : World), (Instr.makeFunc fn first cap).run Try.prog w = .ok (.func fn first cap) w := fun _ _ _ _ => rfl
  simp only [FileT.agg, PcT.val] at hst ⊢
  obtain ⟨⟨f0, f1, f2, f3, f4⟩, -⟩ := hV1
  have HL := Lib.hid hL
  clear hb hL hn
  go_enter Try.func27, Try.ntmps27
  go_wp2_with fail
  generalize ((w.alloc (.cells #[.slice X.F.A X.F.n X.F.c, .slice X.lA X.ln X.lc, .int .i64 X.fuse, .int .i64 X.fault, .bool X.off] 25)).alloc (.cells #[.int .i64 n] 3)).alloc (.cells #[.slice none 0 0, .slice none 0 0, .int .i64 0, .int .i64 0, .bool false] 25) = W1 at *
  refine hst.mono ?_
  rintro e W2 ⟨Y, rfl, hYs, hYL, hb2, haw⟩
  have hV4 := hV2.later hb2
  have hb3 := bel_next hb1 hb2
  obtain ⟨⟨j0, j1, j2, j3, j4⟩, k0, k1, k2, k3, k4⟩ := hV4
  have hbe := fbelow_set5 (a := .slice Y.F.A Y.F.n Y.F.c) (b := .slice Y.lA Y.ln Y.lc) (c := .int .i64 Y.fuse) (d := .int .i64 Y.fault) (e := .bool Y.off) hb3 (show w.heap.size ≤ w.heap.size + 1 + 1 by omega)
  have HYs := Lib.hid hYs
  have HS := Lib.hid hsz
  have HAw := Lib.hid (show ∀ k, k < w.heap.size → AwayF X k → True → AwayF Y k from fun k hk h1 _ => haw k (by omega) h1 trivial)
  have HYL := Lib.hid (lie_res (g := w.heap.size + 1 + 1) (a := .slice Y.F.A Y.F.n Y.F.c) (b := .slice Y.lA Y.ln Y.lc) (c := .int .i64 Y.fuse) (d := .int .i64 Y.fault) (e := .bool Y.off) hYL (haw (w.heap.size + 1 + 1) (by omega) ((HL.out.more hB).away (by omega)) trivial))
  clear hst hYs hYL haw hsz hV2 hb1 hb2 hb3 HL f0 f1 f2 f3 f4 hbb
  simp only [FileT.agg, PcT.val]
  go_wp2
  refine bodyPost_ret (v := .tuple #[.agg #[.slice Y.F.A Y.F.n Y.F.c, .slice Y.lA Y.ln Y.lc, .int .i64 Y.fuse, .int .i64 Y.fault, .bool Y.off], .int .i64 out.2]) ?_ rfl ⟨Y, rfl, HYs.out, HYL.out, hbe, HAw.out⟩
  simp [results, Try.results27, go_sem, *]
theorem refuse1_any (g b : Nat) (n m : Int) (hm : m = max n (-1)) (v0 v1 v4 : Value) (x2 x3 : Int) (w : World) (hV : FVar w g v0 v1 (.int .i64 x2) (.int .i64 x3) v4) (hb : w.cell? ⟨b, 0, none⟩ = some (.int .i64 n)) :
    Calls Try.prog 47 #[.pointer (some ⟨g, 0, none⟩), .pointer (some ⟨b, 0, none⟩)] w fun e w' => e = .returned (.tuple #[]) ∧ w.setCell ⟨g, 3, none⟩ (.int .i64 (m)) = w' := by
  obtain ⟨⟨h0, h1, h2, h3, h4⟩, k0, k1, k2, k3, k4⟩ := hV
  clear h0 h1 h4 k0 k1 k4
  by_cases h : n < -1
  · obtain rfl : m = -1 := by omega
    clear hm
    go_enter Try.func47, Try.ntmps47
    go_wp2
    all_goals
      go_end0
      exact ⟨rfl, rfl⟩
  · obtain rfl : n = m := by omega
    clear hm
    go_enter Try.func47, Try.ntmps47
    go_wp2
    all_goals
      go_end0
      exact ⟨rfl, rfl⟩
set_option maxRecDepth 20000 in
set_option maxHeartbeats 2000000 in
theorem set_refuse (X : FileT) (B b : Nat) (n m : Int) (hm : m = max n (-1)) (w : World) (hL : LieF w B X) (hB : B ≤ w.heap.size) (hr : X.right = true) (hn : (Lit.int .i64 n).wf = true) (hb : w.cell? ⟨b, 0, none⟩ = some (.int .i64 n)) :
    Calls Try.prog 45 #[X.agg, .func (.func 47) #[] #[.pointer (some ⟨b, 0, none⟩)]] w (OpP X (fun _ => True) (if X.off = true then (X.s, 10) else (⟨X.F.l, X.L.map (·.l), X.fuse, m, false⟩, 0)) w) := by
  have Hm := Lib.hid hm
  have hwm : (Lit.int .i64 m).wf = true := by rw [hm]; exact max_wf hn
  clear hm
  have HO := Lib.hid (show (X.off = true → (if X.off = true then (X.s, 10) else (⟨X.F.l, X.L.map (·.l), X.fuse, m, false⟩, (0 : Int))) = (X.s, 10)) ∧ (¬ X.off = true → (if X.off = true then (X.s, 10) else (⟨X.F.l, X.L.map (·.l), X.fuse, m, false⟩, (0 : Int))) = (⟨X.F.l, X.L.map (·.l), X.fuse, m, false⟩, (0 : Int))) from ⟨fun h => if_pos h, fun h => if_neg h⟩)
  generalize (if X.off = true then (X.s, 10) else (⟨X.F.l, X.L.map (·.l), X.fuse, m, false⟩, (0 : Int))) = out at *
  have hb1 := bel_alloc (bel_alloc (Below.refl w.heap.size w) (.cells #[.slice X.F.A X.F.n X.F.c, .slice X.lA X.ln X.lc, .int .i64 X.fuse, .int .i64 X.fault, .bool X.off] 25)) (.cells #[.slice none 0 0, .slice none 0 0, .int .i64 0, .int .i64 0, .bool false] 25)
  have hV1 := (FVar.new w (.slice X.F.A X.F.n X.F.c) (.slice X.lA X.ln X.lc) (.int .i64 X.fuse) (.int .i64 X.fault) (.bool X.off) 25).lay (.cells #[.slice none 0 0, .slice none 0 0, .int .i64 0, .int .i64 0, .bool false] 25)
  have hV2 := FVar.new (w.alloc (.cells #[.slice X.F.A X.F.n X.F.c, .slice X.lA X.ln X.lc, .int .i64 X.fuse, .int .i64 X.fault, .bool X.off] 25)) (.slice none 0 0) (.slice none 0 0) (.int .i64 0) (.int .i64 0) (.bool false) 25
  rw [World.size_alloc] at hV2
  have hbb := kept_later (bel_alloc (bel_alloc (Below.refl _ _) (.cells #[.slice X.F.A X.F.n X.F.c, .slice X.lA X.ln X.lc, .int .i64 X.fuse, .int .i64 X.fault, .bool X.off] 25)) (.cells #[.slice none 0 0, .slice none 0 0, .int .i64 0, .int .i64 0, .bool false] 25)) hb
  obtain ⟨hN, hl, hln⟩ := right_rows hL hr
  have hch := checkF_any X B _ (hL.later (hb1.mono hB)) (Nat.le_trans hB hb1.size) hN
  rw [if_pos hr] at hch
  simp only [FileT.agg, PcT.val] at hch ⊢
  obtain ⟨⟨f0, f1, f2, f3, f4⟩, -⟩ := hV1
  have HL := Lib.hid hL
  have Hn := Lib.hid hwm
  clear hwm
  have hsz : ((w.alloc (.cells #[.slice X.F.A X.F.n X.F.c, .slice X.lA X.ln X.lc, .int .i64 X.fuse, .int .i64 X.fault, .bool X.off] 25)).alloc (.cells #[.slice none 0 0, .slice none 0 0, .int .i64 0, .int .i64 0, .bool false] 25)).heap.size = w.heap.size + 1 + 1 := by simp
  clear hb hN hl hln hL hn
  go_enter Try.func45, Try.ntmps45
  go_wp2_with fail
  have HV1 := Lib.hid ((FVar.new w (.slice X.F.A X.F.n X.F.c) (.slice X.lA X.ln X.lc) (.int .i64 X.fuse) (.int .i64 X.fault) (.bool X.off) 25).lay (.cells #[.slice none 0 0, .slice none 0 0, .int .i64 0, .int .i64 0, .bool false] 25))
  generalize (w.alloc (.cells #[.slice X.F.A X.F.n X.F.c, .slice X.lA X.ln X.lc, .int .i64 X.fuse, .int .i64 X.fault, .bool X.off] 25)).alloc (.cells #[.slice none 0 0, .slice none 0 0, .int .i64 0, .int .i64 0, .bool false] 25) = W1 at *
  refine hch.mono ?_
  rintro e W2 ⟨rfl, hb2⟩
  have hV3 := HV1.out.later hb2
  have hV4 := hV2.later hb2
  have hb3 := bel_next hb1 hb2
  have hbc := kept_later hb2 hbb
  have HS := Lib.hid hsz
  have hs2 := hb2.size
  clear hch hb1 hb2 HV1 hV2 f0 f1 f2 f3 f4 hbb hsz
  cases ho : X.off
  · rw [ho] at HO hV3
    have HO2 := Lib.hid (HO.out.2 (by decide))
    have hli := refuse1_any w.heap.size b n m Hm.out _ _ _ _ _ W2 hV3 hbc
    have hmf : ∀ (fn : Fn) (first cap : Array Value) (w : World), (Instr.makeFunc fn first cap).run Try.prog w = .ok (.func fn first cap) w := fun _ _ _ _ => rfl
    have Hho := Lib.hid ho
    have HV5 := Lib.hid (hV3.set3 (.int .i64 m))
    obtain ⟨⟨f0, f1, f2, f3, f4⟩, -⟩ := hV3
    have hne : w.heap.size ≠ w.heap.size + 1 := by omega
    have HV6 := Lib.hid (fvar_other (g := w.heap.size) 3 (.int .i64 (m)) hne hV4)
    have hb4 := hb3.setCell (p := ⟨w.heap.size, 3, none⟩) (Nat.le_refl _) (.int .i64 (m))
    clear HO ho hV4 hne
    go_wp2_with fail
    refine hli.mono ?_
    rintro e W3 ⟨rfl, rfl⟩
    clear hli
    generalize W2.setCell ⟨w.heap.size, 3, none⟩ (.int .i64 (m)) = W3 at *
    clear f0 f1 f2 f3 f4
    obtain ⟨⟨f0, f1, f2, f3, f4⟩, -⟩ := HV5.out
    obtain ⟨⟨j0, j1, j2, j3, j4⟩, k0, k1, k2, k3, k4⟩ := HV6.out
    have hbe := fbelow_set5 (a := .slice X.F.A X.F.n X.F.c) (b := .slice X.lA X.ln X.lc) (c := .int .i64 X.fuse) (d := .int .i64 m) (e := .bool false) hb4 (show w.heap.size ≤ w.heap.size + 1 by omega)
    have hL5 := (HL.out.later (hbe.mono hB)).more (Nat.le_trans hB hbe.size)
    have HLe := Lib.hid (show LieF _ _ (⟨X.F, X.lA, X.ln, X.lc, X.L, X.fuse, m, false⟩ : FileT) from ⟨hL5.firm, hL5.row, hL5.loose, hL5.nil, hL5.fits, hL5.most, hL5.fuse, Hn.out⟩)
    clear hL5
    go_wp2
    refine bodyPost_ret (v := .tuple #[.agg #[.slice X.F.A X.F.n X.F.c, .slice X.lA X.ln X.lc, .int .i64 X.fuse, .int .i64 m, .bool false], .int .i64 0]) ?_ rfl ⟨⟨X.F, X.lA, X.ln, X.lc, X.L, X.fuse, m, false⟩, by rw [HO2.out]; rfl, by rw [HO2.out]; first | rfl | (rw [← Hho.out]; rfl), HLe.out, hbe, fun _ _ h _ => ⟨h.firm, h.row, h.loose⟩⟩
    simp [results, Try.results45, go_sem, *]
  · rw [ho] at HO hV3
    have HO2 := Lib.hid (HO.out.1 rfl)
    have Hho := Lib.hid ho
    obtain ⟨⟨f0, f1, f2, f3, f4⟩, -⟩ := hV3
    obtain ⟨⟨j0, j1, j2, j3, j4⟩, k0, k1, k2, k3, k4⟩ := hV4
    have hbe := fbelow_set5 (a := .slice X.F.A X.F.n X.F.c) (b := .slice X.lA X.ln X.lc) (c := .int .i64 X.fuse) (d := .int .i64 X.fault) (e := .bool true) hb3 (show w.heap.size ≤ w.heap.size + 1 by omega)
    have HLe := Lib.hid ((HL.out.later (hbe.mono hB)).more (Nat.le_trans hB hbe.size))
    clear HO
    clear ho
    go_wp2
    refine bodyPost_ret (v := .tuple #[.agg #[.slice X.F.A X.F.n X.F.c, .slice X.lA X.ln X.lc, .int .i64 X.fuse, .int .i64 X.fault, .bool true], .int .i64 10]) ?_ rfl ⟨X, by rw [HO2.out]; unfold FileT.agg; rw [Hho.out]; rfl, by rw [HO2.out], HLe.out, hbe, fun _ _ h _ => ⟨h.firm, h.row, h.loose⟩⟩
    simp [results, Try.results45, go_sem, *]
set_option maxRecDepth 20000 in
set_option maxHeartbeats 2000000 in
theorem refuseF_any (X : FileT) (B : Nat) (n : Int) (w : World) (hL : LieF w B X) (hB : B ≤ w.heap.size) (hr : X.right = true) (hn : (Lit.int .i64 n).wf = true) :
    Calls Try.prog 28 #[X.agg, .int .i64 n] w (OpP X (fun _ => True) (if X.off = true then (X.s, 10) else (⟨X.F.l, X.L.map (·.l), X.fuse, max n (-1), false⟩, 0)) w) := by
  have hb1 := bel_alloc (bel_alloc (bel_alloc (Below.refl w.heap.size w) (.cells #[.slice X.F.A X.F.n X.F.c, .slice X.lA X.ln X.lc, .int .i64 X.fuse, .int .i64 X.fault, .bool X.off] 25)) (.cells #[.int .i64 n] 3)) (.cells #[.slice none 0 0, .slice none 0 0, .int .i64 0, .int .i64 0, .bool false] 25)
  have hV1 := ((FVar.new w (.slice X.F.A X.F.n X.F.c) (.slice X.lA X.ln X.lc) (.int .i64 X.fuse) (.int .i64 X.fault) (.bool X.off) 25).lay (.cells #[.int .i64 n] 3)).lay (.cells #[.slice none 0 0, .slice none 0 0, .int .i64 0, .int .i64 0, .bool false] 25)
  have hV2 := FVar.new ((w.alloc (.cells #[.slice X.F.A X.F.n X.F.c, .slice X.lA X.ln X.lc, .int .i64 X.fuse, .int .i64 X.fault, .bool X.off] 25)).alloc (.cells #[.int .i64 n] 3)) (.slice none 0 0) (.slice none 0 0) (.int .i64 0) (.int .i64 0) (.bool false) 25
  have hsz : (((w.alloc (.cells #[.slice X.F.A X.F.n X.F.c, .slice X.lA X.ln X.lc, .int .i64 X.fuse, .int .i64 X.fault, .bool X.off] 25)).alloc (.cells #[.int .i64 n] 3)).alloc (.cells #[.slice none 0 0, .slice none 0 0, .int .i64 0, .int .i64 0, .bool false] 25)).heap.size = w.heap.size + 1 + 1 + 1 := by simp
  have hb : ((w.alloc (.cells #[.slice X.F.A X.F.n X.F.c, .slice X.lA X.ln X.lc, .int .i64 X.fuse, .int .i64 X.fault, .bool X.off] 25)).alloc (.cells #[.int .i64 n] 3)).cell? ⟨w.heap.size + 1, 0, none⟩ = some (.int .i64 n) := by
    have h := World.cell?_alloc_new (w.alloc (.cells #[.slice X.F.A X.F.n X.F.c, .slice X.lA X.ln X.lc, .int .i64 X.fuse, .int .i64 X.fault, .bool X.off] 25)) #[.int .i64 n] 3 0
    rw [World.size_alloc] at h
    exact h
  rw [World.size_alloc, World.size_alloc] at hV2
  have hbb := cell_keep hb (.cells #[.slice none 0 0, .slice none 0 0, .int .i64 0, .int .i64 0, .bool false] 25)
  have hst := set_refuse X B (w.heap.size + 1) n _ rfl _ (hL.later (hb1.mono hB)) (Nat.le_trans hB hb1.size) hr hn hbb
  generalize (if X.off = true then (X.s, 10) else (⟨X.F.l, X.L.map (·.l), X.fuse, max n (-1), false⟩, (0 : Int))) = out at *
  have hmf : ∀ (fn : Fn) (first cap : Array Value) (w : World), (Instr.makeFunc fn first cap).run Try.prog w = .ok (.func fn first cap) w := fun _ _ _ _ => rfl
  simp only [FileT.agg, PcT.val] at hst ⊢
  obtain ⟨⟨f0, f1, f2, f3, f4⟩, -⟩ := hV1
  have HL := Lib.hid hL
  clear hb hL hn
  go_enter Try.func28, Try.ntmps28
  go_wp2_with fail
  generalize ((w.alloc (.cells #[.slice X.F.A X.F.n X.F.c, .slice X.lA X.ln X.lc, .int .i64 X.fuse, .int .i64 X.fault, .bool X.off] 25)).alloc (.cells #[.int .i64 n] 3)).alloc (.cells #[.slice none 0 0, .slice none 0 0, .int .i64 0, .int .i64 0, .bool false] 25) = W1 at *
  refine hst.mono ?_
  rintro e W2 ⟨Y, rfl, hYs, hYL, hb2, haw⟩
  have hV4 := hV2.later hb2
  have hb3 := bel_next hb1 hb2
  obtain ⟨⟨j0, j1, j2, j3, j4⟩, k0, k1, k2, k3, k4⟩ := hV4
  have hbe := fbelow_set5 (a := .slice Y.F.A Y.F.n Y.F.c) (b := .slice Y.lA Y.ln Y.lc) (c := .int .i64 Y.fuse) (d := .int .i64 Y.fault) (e := .bool Y.off) hb3 (show w.heap.size ≤ w.heap.size + 1 + 1 by omega)
  have HYs := Lib.hid hYs
  have HS := Lib.hid hsz
  have HAw := Lib.hid (show ∀ k, k < w.heap.size → AwayF X k → True → AwayF Y k from fun k hk h1 _ => haw k (by omega) h1 trivial)
  have HYL := Lib.hid (lie_res (g := w.heap.size + 1 + 1) (a := .slice Y.F.A Y.F.n Y.F.c) (b := .slice Y.lA Y.ln Y.lc) (c := .int .i64 Y.fuse) (d := .int .i64 Y.fault) (e := .bool Y.off) hYL (haw (w.heap.size + 1 + 1) (by omega) ((HL.out.more hB).away (by omega)) trivial))
  clear hst hYs hYL haw hsz hV2 hb1 hb2 hb3 HL f0 f1 f2 f3 f4 hbb
  simp only [FileT.agg, PcT.val]
  go_wp2
  refine bodyPost_ret (v := .tuple #[.agg #[.slice Y.F.A Y.F.n Y.F.c, .slice Y.lA Y.ln Y.lc, .int .i64 Y.fuse, .int .i64 Y.fault, .bool Y.off], .int .i64 out.2]) ?_ rfl ⟨Y, rfl, HYs.out, HYL.out, hbe, HAw.out⟩
  simp [results, Try.results28, go_sem, *]
end Go.Proofs.Ythoenmggjbojoaa
