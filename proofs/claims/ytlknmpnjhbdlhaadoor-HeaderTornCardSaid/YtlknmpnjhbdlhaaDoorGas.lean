import Derived.Test.YtlknmpnjhbdlhaaDoorGar
import Derived.Test.YtlknmpnjhbdlhaaDoorGak
/-
  Layer 12: the walk of HeaderTorn.
-/
namespace Go.Proofs.YtlknmpnjhbdlhaaDoor
open Go.RowKit
set_option linter.unusedVariables false

theorem crash_one (l P : List UInt8) (d : Nat) (hd : d < P.length) : FileS.crash ⟨l, [P], -1, -1, false⟩ [] 0 (d : Int) = ⟨l ++ P.take d, [], -1, -1, false⟩ := by
  have hs : survN P 0 [] 0 (d : Int) = d := by
    unfold survN
    simp
    omega
  unfold FileS.crash
  simp only
  rw [crashGo, hs, crashGo]
  by_cases h : 0 < d
  · rw [if_pos h, Nat.sub_self]
    simp [zerosU]
  · rw [if_neg h, show d = 0 by omega]
    simp
theorem bot_nil (w : World) (B : Nat) : BoT.Ok w B ⟨none, 0, 0, []⟩ := ⟨⟨rfl, fun h => absurd h (Nat.lt_irrefl 0)⟩, fun _ => rfl, Nat.le_refl _, Nat.zero_le _⟩
/-- The numbers of the cut. -/
theorem torn_wraps {n0 m d n1 : Nat} (hn : n0 ≤ 249000) (hn1 : n0 + m = n1) (h1 : 64 ≤ m) (h2 : m ≤ 127) (hd : d < m) : IntKind.i64.wrap ((n1 : Int) - (n0 : Int)) = (m : Int) ∧ (n1 : Int) - (n0 : Int) = (m : Int) ∧ IntKind.i64.wrap (m : Int) = (m : Int) ∧ ((m : Int) < 64) = False ∧ IntKind.u64.wrap (m : Int) = (m : Int) ∧ IntKind.i64.wrap (d : Int) = (d : Int) ∧ IntKind.u64.wrap (d : Int) = (d : Int) ∧ ((m : Int) == 0) = false := by
  refine ⟨?_, by omega, ?_, eq_false (by omega), ?_, ?_, ?_, beq_eq_false_iff_ne.2 (by omega)⟩
  · rw [IntKind.wrap_i64]; omega
  · rw [IntKind.wrap_i64]; omega
  · simp [IntKind.wrap, IntKind.bits, IntKind.signed]; omega
  · rw [IntKind.wrap_i64]; omega
  · simp [IntKind.wrap, IntKind.bits, IntKind.signed]; omega
/-- A loss's variable. -/
def LBox (w : World) (h : Nat) (s : LossT) : Prop := w.heap[h]? = some (.cells #[.int .i64 s.cut, .slice s.lA s.ln s.lc] 60 (0, 0))
theorem LBox.later {w w' : World} {h : Nat} {s : LossT} (hb : LBox w h s) (hl : Below w.heap.size w w') : LBox w' h s := blk_later hb hl
theorem LBox.lt {w : World} {h : Nat} {s : LossT} (hb : LBox w h s) : h < w.heap.size := blk_lt hb
theorem LBox.c0 {w : World} {h : Nat} {s : LossT} (hb : LBox w h s) : w.cell? ⟨h, 0, none⟩ = some (.int .i64 s.cut) := (cell_of_row _ _ 0 _ _ _ hb).trans rfl
theorem LBox.c1 {w : World} {h : Nat} {s : LossT} (hb : LBox w h s) : w.cell? ⟨h, 1, none⟩ = some (.slice s.lA s.ln s.lc) := (cell_of_row _ _ 1 _ _ _ hb).trans rfl
/-- A file of one firm row and pieces, calm. -/
structure CalmF (X : FileT) (fi : List UInt8) (lo : List (List UInt8)) (L : Option (Nat × Nat × Nat)) (k : Nat) : Prop where
  s : X.s = ⟨fi, lo, -1, -1, false⟩
  ne : ∀ l ∈ lo, l ≠ []
  len : (fi ++ lo.flatten).length ≤ k
  last : Hdr.lastH (fi ++ lo.flatten) = L
theorem CalmF.right {X : FileT} {fi : List UInt8} {lo : List (List UInt8)} {L : Option (Nat × Nat × Nat)} {k : Nat} {W : World} {B : Nat} (h : CalmF X fi lo L k) (hl : LieF W B X) (hk : k ≤ 524288) : X.right = true := right_calm hl h.s h.ne (Nat.le_trans h.len hk)
theorem CalmF.all {X : FileT} {fi : List UInt8} {lo : List (List UInt8)} {L : Option (Nat × Nat × Nat)} {k : Nat} (h : CalmF X fi lo L k) : X.all = fi ++ lo.flatten := by rw [← all_s, h.s]; rfl
theorem CalmF.more {X : FileT} {fi : List UInt8} {lo : List (List UInt8)} {L : Option (Nat × Nat × Nat)} {k k' : Nat} (h : CalmF X fi lo L k) (hk : k ≤ k') : CalmF X fi lo L k' := ⟨h.s, h.ne, Nat.le_trans h.len hk, h.last⟩
theorem CalmF.snoc {X Y : FileT} {fi P : List UInt8} {lo : List (List UInt8)} {L L' : Option (Nat × Nat × Nat)} {k q : Nat} (h : CalmF X fi lo L k) (hs : Y.s = ⟨fi, lo ++ [P], -1, -1, false⟩) (hP : P ≠ []) (hq : P.length ≤ q) (hL : Hdr.lastH ((fi ++ lo.flatten) ++ P) = L') : CalmF Y fi (lo ++ [P]) L' (k + q) := by
  refine ⟨hs, fun x hx => ?_, ?_, ?_⟩
  · rcases List.mem_append.1 hx with hh | hh
    · exact h.ne x hh
    · rw [List.mem_singleton.1 hh]; exact hP
  · rw [flat_snoc, ← List.append_assoc, List.length_append]
    have := h.len
    omega
  · rw [flat_snoc, ← List.append_assoc]
    exact hL
theorem CalmF.head {X Y : FileT} {fi : List UInt8} {lo : List (List UInt8)} {L : Option (Nat × Nat × Nat)} {k g b : Nat} (h : CalmF X fi lo L k) (hs : Y.s = ⟨fi, lo ++ [Hdr.headL (fi ++ lo.flatten).length g b], -1, -1, false⟩) (h1 : 1 ≤ g) (hg : g < 18446744073709551616) (hb : b < 524288) :
    CalmF Y fi (lo ++ [Hdr.headL (fi ++ lo.flatten).length g b]) (some (g, b, (fi ++ lo.flatten).length + Hdr.gapN (fi ++ lo.flatten).length)) (k + 127) :=
  h.snoc hs (head_ne _ _ _) (by rw [Hdr.head_len]; unfold Hdr.gapN; omega) (Hdr.last_put _ g b h1 hg hb)
theorem CalmF.piece {X Y : FileT} {fi bs : List UInt8} {lo : List (List UInt8)} {L : Option (Nat × Nat × Nat)} {k : Nat} (h : CalmF X fi lo L k) (hs : Y.s = ⟨fi, lo ++ [Fra.pieceL (fi ++ lo.flatten) (Fra.encL bs)], -1, -1, false⟩) (hb : bs.length ≤ 300) :
    CalmF Y fi (lo ++ [Fra.pieceL (fi ++ lo.flatten) (Fra.encL bs)]) L (k + 8300) :=
  h.snoc hs (piece_ne _ _) (Fra.piece_len _ _ (by rw [Fra.encL_len]; omega)) (by rw [Hdr.last_piece]; exact h.last)
theorem set_fat {W : World} {gf : Nat} {X Y : FileT} {k : Nat} {a : List (Nat)} (hv : FVar W gf (.slice X.F.A X.F.n X.F.c) (.slice X.lA X.ln X.lc) (.int .i64 X.fuse) (.int .i64 X.fault) (.bool X.off)) (hl : LieF W W.heap.size Y) (ha : AwayF Y gf) : FAt (((((W.setCell ⟨gf, 0, none⟩ (.slice Y.F.A Y.F.n Y.F.c)).setCell ⟨gf, 1, none⟩ (.slice Y.lA Y.ln Y.lc)).setCell ⟨gf, 2, none⟩ (.int .i64 Y.fuse)).setCell ⟨gf, 3, none⟩ (.int .i64 Y.fault)).setCell ⟨gf, 4, none⟩ (.bool Y.off)) gf Y := by
  have h := FAt.set hv hl ha
  unfold set5F at h
  exact h
/-- What stays behind a store of a file: the header's box, the last one's, the loss. -/
structure Rest (w : World) (h : Nat) (g b : Nat) (gl : Nat) (L : Option (Nat × Nat × Nat)) (hs : Nat) (s : LossT) (W : World) : Prop where
  h : HBox W h g (b : Nat)
  l : HBox W gl (fG L) (fA L : Nat)
  s : LBox W hs s
  bel : Below w.heap.size w W
theorem Rest.later {w W W' : World} {h g b gl hs : Nat} {L : Option (Nat × Nat × Nat)} {s : LossT} (r : Rest w h g b gl L hs s W) (hb : Below W.heap.size W W') : Rest w h g b gl L hs s W' := ⟨r.h.later hb, r.l.later hb, r.s.later hb, bel_next r.bel hb⟩
theorem Rest.drew {w W : World} {h g b gl hs : Nat} {L : Option (Nat × Nat × Nat)} {s : LossT} (r : Rest w h g b gl L hs s W) : Rest w h g b gl L hs s W.drew := ⟨r.h, r.l, r.s, below_drew1 r.bel⟩
theorem Rest.set5 {w W : World} {h g b gl hs gf : Nat} {L : Option (Nat × Nat × Nat)} {s : LossT} (r : Rest w h g b gl L hs s W) (h1 : h ≠ gf) (h2 : gl ≠ gf) (h3 : hs ≠ gf) (hw : w.heap.size ≤ gf) (v0 v1 v2 v3 v4 : Value) :
    Rest w h g b gl L hs s (((((W.setCell ⟨gf, 0, none⟩ v0).setCell ⟨gf, 1, none⟩ v1).setCell ⟨gf, 2, none⟩ v2).setCell ⟨gf, 3, none⟩ v3).setCell ⟨gf, 4, none⟩ v4) := by
  have e1 := set5_other (W := W) () h1 (a := v0) (b := v1) (c := v2) (d := v3) (e := v4)
  have e2 := set5_other (W := W) () h2 (a := v0) (b := v1) (c := v2) (d := v3) (e := v4)
  have e3 := set5_other (W := W) () h3 (a := v0) (b := v1) (c := v2) (d := v3) (e := v4)
  have e4 := fbelow_set5 (a := v0) (b := v1) (c := v2) (d := v3) (e := v4) r.bel hw
  unfold set5F at e1 e2 e3 e4
  exact ⟨e1.trans r.h, e2.trans r.l, e3.trans r.s, e4⟩
/-- The file's variable after a store. -/
theorem set_fat2 {W W' : World} {gf : Nat} {X Y : FileT} (hf : FAt W gf X) (hb : Below W.heap.size W W') (hl : LieF W' W'.heap.size Y) (ha : AwayF Y gf) : ∀ V, ((((W'.setCell ⟨gf, 0, none⟩ (.slice Y.F.A Y.F.n Y.F.c)).setCell ⟨gf, 1, none⟩ (.slice Y.lA Y.ln Y.lc)).setCell ⟨gf, 2, none⟩ (.int .i64 Y.fuse)).setCell ⟨gf, 3, none⟩ (.int .i64 Y.fault)).setCell ⟨gf, 4, none⟩ (.bool Y.off) = V → FAt V gf Y := by
  rintro V rfl
  have h := FAt.set (hf.v.later hb) hl ha
  unfold set5F at h
  exact h
theorem Rest.set5e {w W : World} {h g b gl hs gf : Nat} {L : Option (Nat × Nat × Nat)} {s : LossT} (r : Rest w h g b gl L hs s W) (h1 : h ≠ gf) (h2 : gl ≠ gf) (h3 : hs ≠ gf) (hw : w.heap.size ≤ gf) (v0 v1 v2 v3 v4 : Value) :
    ∀ V, ((((W.setCell ⟨gf, 0, none⟩ v0).setCell ⟨gf, 1, none⟩ v1).setCell ⟨gf, 2, none⟩ v2).setCell ⟨gf, 3, none⟩ v3).setCell ⟨gf, 4, none⟩ v4 = V → Rest w h g b gl L hs s V := by
  rintro V rfl
  exact r.set5 h1 h2 h3 hw v0 v1 v2 v3 v4
set_option maxRecDepth 100000 in
set_option maxHeartbeats 8000000 in
theorem headerTorn_walk (w : World) (A : Option Addr) (n c : Nat) (xs : List StepT) (hx : Shows w w.heap.size 3 A n (xs.flatMap StepT.cells)) (hok : ∀ x ∈ xs, x.Ok w w.heap.size) (hA : A = none → c = 0) (hnc : n ≤ c) (hcm : c ≤ maxLen)
    (g : Nat) (a : Int) (hg : g < 18446744073709551616) (wa : (Lit.int .i64 a).wf = true) (s : LossT) (hs : s.Ok w w.heap.size) (htab : Tab w) :
    Calls Tryd.prog 7 #[.slice A n c, .agg #[.int .u64 (g : Int), .int .i64 a], s.agg] w fun e w' => e = .returned (.bool true) ∧ Below w.heap.size w w' := by
  have HWK := Lib.hid (fun W (h : Below w.heap.size w W) => hwakes_any W (htab.below h htab.lt))
  have HST := Lib.hid (fun W (h : Below w.heap.size w W) => steps_any A n c xs W (htab.below h htab.lt) ((hx.below h).more h.size) (fun x hxm => ⟨((hok x hxm).p.later h).more h.size, (hok x hxm).g, (hok x hxm).a⟩) hnc hcm)
  have HFN := Lib.hid (fun W (h : Below w.heap.size w W) (X : FileT) (fi : List UInt8) (lo : List (List UInt8)) (L : Option (Nat × Nat × Nat)) (k : Nat) (hl : LieF W W.heap.size X) (hc : CalmF X fi lo L k) (hk : k ≤ 524288) => finds_any X (fi ++ lo.flatten) L W (htab.below h htab.lt) hl hc.all (hc.right hl hk) hc.last)
  have HLN := Lib.hid (fun W (X : FileT) (fi : List UInt8) (lo : List (List UInt8)) (L : Option (Nat × Nat × Nat)) (k : Nat) (hl : LieF W W.heap.size X) (hc : CalmF X fi lo L k) (hk : k ≤ 524288) => lenHS X (fi ++ lo.flatten).length W hl (hc.right hl hk) (by rw [hc.all]))
  have HCK := Lib.hid (fun W => checkH_any g a W)
  have HPH := Lib.hid (fun W (h : Below w.heap.size w W) (X : FileT) (fi : List UInt8) (lo : List (List UInt8)) (b : Nat) (L : Option (Nat × Nat × Nat)) (k : Nat) (hl : LieF W W.heap.size X) (hc : CalmF X fi lo L k) (hk : k + 127 ≤ 524288) (h1 : 1 ≤ g) (hb : b < 524288) => putHS X fi lo g b W (htab.below h htab.lt) hl hc.s (hc.right hl (by omega)) h1 hg hb (by have := hc.len; omega))
  have HPR := Lib.hid (fun W (h : Below w.heap.size w W) (X : FileT) (p : PcT) (fi : List UInt8) (lo : List (List UInt8)) (L : Option (Nat × Nat × Nat)) (k : Nat) (hl : LieF W W.heap.size X) (hp : p.Ok W W.heap.size) (hc : CalmF X fi lo L k) (hn : 1 ≤ p.n ∧ p.n ≤ 300) (hk : k + 8300 ≤ 524288) => putS X p fi lo W (htab.below h htab.lt) hl hp hc.s (hc.right hl (by omega)) (by omega) (by
    have h1 := hc.len
    have h2 := Fra.piece_len (fi ++ lo.flatten) (Fra.encL p.l) (by rw [Fra.encL_len, hp.len]; omega)
    omega))
  have HG := Lib.hid hg
  have HSR := Lib.hid hs
  clear hx hok hA hnc hcm htab hg wa hs
  unfold LossT.agg
  go_enter Tryd.func7, Tryd.ntmps7
  go_wp2_with fail
  obtain ⟨W1, hW1⟩ : ∃ W1, (w.alloc (.cells #[.int .u64 (g : Int), .int .i64 a] 24)).alloc (.cells #[.int .i64 s.cut, .slice s.lA s.ln s.lc] 60) = W1 := ⟨_, rfl⟩
  have hb1 : Below w.heap.size w W1 := by rw [← hW1]; exact bel_alloc (bel_alloc (Below.refl _ _) _) _
  have hh1 : HBox W1 w.heap.size g a := by
    rw [← hW1]
    exact (show HBox _ _ g a from heap_alloc_new w _).later (bel_alloc (Below.refl _ _) _)
  have hl1 : LBox W1 (w.heap.size + 1) s := by
    have h : LBox ((w.alloc (.cells #[.int .u64 (g : Int), .int .i64 a] 24)).alloc (.cells #[.int .i64 s.cut, .slice s.lA s.ln s.lc] 60)) (w.alloc (.cells #[.int .u64 (g : Int), .int .i64 a] 24)).heap.size s := heap_alloc_new _ _
    rw [World.size_alloc] at h
    rw [← hW1]
    exact h
  rw [hW1]
  clear hW1
  refine (HWK.out _ hb1).mono ?_
  rintro e W2 ⟨rfl, hb2⟩
  have hb3 := bel_next hb1 hb2
  have hh2 := hh1.later hb2
  have hl2 := hl1.later hb2
  clear hb1 hb2 hh1 hl1 HWK
  go_wp2_with fail
  refine (HST.out _ hb3).mono ?_
  rintro e W3 ⟨Y, l, rfl, hYs, hn, hYL, hb4, hYa⟩
  simp only [FileT.agg, PcT.val]
  have hc3 : CalmF Y l [] (Hdr.lastH l) 249000 := ⟨hYs, fun l h => (List.not_mem_nil h).elim, by simpa using hn, by simp⟩
  have hb5 := bel_next hb3 hb4
  have hfa := FAt.new hYL 37
  have hbb := bel_alloc (bel_alloc (Below.refl W3.heap.size W3) (.cells #[.slice Y.F.A Y.F.n Y.F.c, .slice Y.lA Y.ln Y.lc, .int .i64 Y.fuse, .int .i64 Y.fault, .bool Y.off] 37)) (.cells #[.int .u64 (fG (Hdr.lastH l) : Nat), .int .i64 (fA (Hdr.lastH l) : Nat)] 24)
  have hf4 := hfa.later (bel_alloc (Below.refl _ _) (.cells #[.int .u64 (fG (Hdr.lastH l) : Nat), .int .i64 (fA (Hdr.lastH l) : Nat)] 24))
  have hr4 : HBox ((W3.alloc (.cells #[.slice Y.F.A Y.F.n Y.F.c, .slice Y.lA Y.ln Y.lc, .int .i64 Y.fuse, .int .i64 Y.fault, .bool Y.off] 37)).alloc (.cells #[.int .u64 (fG (Hdr.lastH l) : Nat), .int .i64 (fA (Hdr.lastH l) : Nat)] 24)) (W3.heap.size + 1) (fG (Hdr.lastH l)) (fA (Hdr.lastH l) : Nat) := by
    have h : HBox ((W3.alloc (.cells #[.slice Y.F.A Y.F.n Y.F.c, .slice Y.lA Y.ln Y.lc, .int .i64 Y.fuse, .int .i64 Y.fault, .bool Y.off] 37)).alloc (.cells #[.int .u64 (fG (Hdr.lastH l) : Nat), .int .i64 (fA (Hdr.lastH l) : Nat)] 24)) (W3.alloc (.cells #[.slice Y.F.A Y.F.n Y.F.c, .slice Y.lA Y.ln Y.lc, .int .i64 Y.fuse, .int .i64 Y.fault, .bool Y.off] 37)).heap.size (fG (Hdr.lastH l)) (fA (Hdr.lastH l) : Nat) := heap_alloc_new _ _
    rw [World.size_alloc] at h
    exact h
  have hh4 := hh2.later (hb4.trans (hbb.mono hb4.size))
  have hl4 := hl2.later (hb4.trans (hbb.mono hb4.size))
  have hb6 := bel_next hb5 hbb
  have hgl := hl2.lt
  have hs3 := hb4.size
  go_upto_region 6 with fail
  generalize (W3.alloc (.cells #[.slice Y.F.A Y.F.n Y.F.c, .slice Y.lA Y.ln Y.lc, .int .i64 Y.fuse, .int .i64 Y.fault, .bool Y.off] 37)).alloc (.cells #[.int .u64 (fG (Hdr.lastH l) : Nat), .int .i64 (fA (Hdr.lastH l) : Nat)] 24) = W4 at *
  obtain ⟨gf, hgf⟩ : ∃ gf, W3.heap.size = gf := ⟨_, rfl⟩
  rw [hgf] at hf4 hr4 hs3 ⊢
  have hgw : w.heap.size + 1 < gf := by omega
  have ge1 : w.heap.size ≠ gf := by omega
  have ge2 : gf + 1 ≠ gf := by omega
  have ge3 : w.heap.size + 1 ≠ gf := by omega
  have ge4 : w.heap.size ≤ gf := by omega
  clear hfa hbb hb3 hb4 hb5 hh2 hl2 HST hYs hYL hYa hn hgf hgl hs3
  have x0 := hh4.c0
  have x1 := hh4.c1
  go_wp2_with fail
  refine (HCK.out W4).mono ?_
  rintro e W5 ⟨rfl, hb7⟩
  clear x0 x1 HCK
  by_cases hk : okH g a = true
  · rw [errH_yes hk]
    obtain ⟨k1, k2, k3⟩ := okH_iff.1 hk
    obtain ⟨b, rfl⟩ : ∃ b : Nat, a = (b : Int) := ⟨a.toNat, by omega⟩
    have k4 : b < 524288 := by omega
    have RS5 := Lib.hid (show Rest w w.heap.size g b (gf + 1) (Hdr.lastH l) (w.heap.size + 1) s W5 from ⟨hh4.later hb7, hr4.later hb7, hl4.later hb7, bel_next hb6 hb7⟩)
    have HF5 := Lib.hid (hf4.later hb7)
    have HC5 := Lib.hid hc3
    have HK14 := Lib.hid (And.intro k1 k4)
    obtain ⟨L, hL⟩ : ∃ L, Hdr.lastH l = L := ⟨_, rfl⟩
    rw [hL] at RS5 HC5 ⊢
    have HLL := Lib.hid hL
    clear hk k1 k2 k3 k4 hh4 hr4 hl4 hf4 hb6 hb7 hc3 hL
    -- the length
    have hvl := HF5.out.v
    have j0 := hvl.1.1
    have j1 := hvl.1.2.1
    have j2 := hvl.1.2.2.1
    have j3 := hvl.1.2.2.2.1
    have j4 := hvl.1.2.2.2.2
    have k0 := hvl.2.1
    have k1 := hvl.2.2.1
    have k2 := hvl.2.2.2.1
    have k3 := hvl.2.2.2.2.1
    have k4 := hvl.2.2.2.2.2
    obtain ⟨n0, hn0⟩ : ∃ n0, l.length = n0 := ⟨_, rfl⟩
    have hln := HLN.out W5 Y l [] L 249000 HF5.out.l HC5.out (by omega)
    rw [List.flatten_nil, List.append_nil, hn0] at hln
    have HN0 := Lib.hid hn0
    simp only [FileT.agg, PcT.val] at hln
    have HPL := Lib.hid (show (l ++ [Hdr.headL l.length g b].flatten).length = n0 + (Hdr.gapN n0 + 64) by rw [List.flatten_cons, List.flatten_nil, List.append_nil, List.length_append, Hdr.head_len, hn0])
    have HPT := Lib.hid (show Hdr.lastH (l ++ [Hdr.headL l.length g b].flatten) = some (g, b, l.length + Hdr.gapN l.length) by rw [List.flatten_cons, List.flatten_nil, List.append_nil]; exact Hdr.last_put l g b HK14.out.1 HG.out HK14.out.2)
    obtain ⟨m, hm⟩ : ∃ m, Hdr.gapN n0 + 64 = m := ⟨_, rfl⟩
    have hm2 : 64 ≤ m ∧ m ≤ 127 := by rw [← hm]; unfold Hdr.gapN; omega
    have hnm : n0 ≤ 249000 := by have := HC5.out.len; rw [List.flatten_nil, List.append_nil, hn0] at this; exact this
    clear hvl hn0
    go_wp2_with fail
    refine hln.mono ?_
    rintro e W6 ⟨rfl, hb6⟩
    have RS6 := Lib.hid (RS5.out.later hb6)
    have HF6 := Lib.hid (HF5.out.later hb6)
    clear hln j0 j1 j2 j3 j4 k0 k1 k2 k3 k4 hb6 RS5 HF5
    -- the header
    have hpt := HPH.out W6 RS6.out.bel Y l [] b L 249000 HF6.out.l HC5.out (by omega) HK14.out.1 HK14.out.2
    rw [List.flatten_nil, List.append_nil] at hpt
    simp only [FileT.agg, PcT.val] at hpt
    have hvl := HF6.out.v
    have j0 := hvl.1.1
    have j1 := hvl.1.2.1
    have j2 := hvl.1.2.2.1
    have j3 := hvl.1.2.2.2.1
    have j4 := hvl.1.2.2.2.2
    have k0 := hvl.2.1
    have k1 := hvl.2.2.1
    have k2 := hvl.2.2.2.1
    have k3 := hvl.2.2.2.2.1
    have k4 := hvl.2.2.2.2.2
    have y0 := RS6.out.h.c0
    have y1 := RS6.out.h.c1
    clear hvl
    go_upto_region 10 with (go_at_call 16; refine hpt.mono ?_; rintro e W7 ⟨Y1, rfl, hYs, hYL, hbY, hYa⟩; simp only [FileT.agg, PcT.val]; have hv5 := HF6.out.v.later hbY; obtain ⟨⟨m0, m1, m2, m3, m4⟩, l0, l1, l2, l3, l4⟩ := hv5)
    have hfe := set_fat2 HF6.out hbY hYL (hYa gf (Nat.lt_of_succ_lt RS6.out.l.lt) HF6.out.a trivial)
    have hre := (RS6.out.later hbY).set5e ge1 ge2 ge3 ge4 (.slice Y1.F.A Y1.F.n Y1.F.c) (.slice Y1.lA Y1.ln Y1.lc) (.int .i64 Y1.fuse) (.int .i64 Y1.fault) (.bool Y1.off)
    clear hpt y0 y1 j0 j1 j2 j3 j4 k0 k1 k2 k3 k4 m0 m1 m2 m3 m4 l0 l1 l2 l3 l4 hYa hYL hbY
    obtain ⟨W8, hW⟩ : ∃ V, ((((W7.setCell ⟨gf, 0, none⟩ (.slice Y1.F.A Y1.F.n Y1.F.c)).setCell ⟨gf, 1, none⟩ (.slice Y1.lA Y1.ln Y1.lc)).setCell ⟨gf, 2, none⟩ (.int .i64 Y1.fuse)).setCell ⟨gf, 3, none⟩ (.int .i64 Y1.fault)).setCell ⟨gf, 4, none⟩ (.bool Y1.off) = V := ⟨_, rfl⟩
    have HF8 := Lib.hid (hfe _ hW)
    have RS8 := Lib.hid (hre _ hW)
    rw [hW]
    clear hW hfe hre HF6 RS6
    have HC8 := Lib.hid (show CalmF Y1 l [Hdr.headL l.length g b] (some (g, b, l.length + Hdr.gapN l.length)) 249127 from ⟨hYs, fun x hx => by rw [List.mem_singleton.1 hx]; exact head_ne _ _ _, by rw [HPL.out]; omega, HPT.out⟩)
    clear hYs HC5
    have hfn := HFN.out W8 RS8.out.bel Y1 l [Hdr.headL l.length g b] (some (g, b, l.length + Hdr.gapN l.length)) 249127 HF8.out.l HC8.out (by omega)
    simp only [FileT.agg, PcT.val, fG, fA, Option.isSome] at hfn
    have hvl := HF8.out.v
    have j0 := hvl.1.1
    have j1 := hvl.1.2.1
    have j2 := hvl.1.2.2.1
    have j3 := hvl.1.2.2.2.1
    have j4 := hvl.1.2.2.2.2
    have k0 := hvl.2.1
    have k1 := hvl.2.2.1
    have k2 := hvl.2.2.2.1
    have k3 := hvl.2.2.2.2.1
    have k4 := hvl.2.2.2.2.2
    have y0 := RS8.out.h.c0
    have y1 := RS8.out.h.c1
    clear hvl
    go_wp2_with fail
    refine hfn.mono ?_
    rintro e W9 ⟨rfl, hb9⟩
    have RS9 := Lib.hid (RS8.out.later hb9)
    have HF9 := Lib.hid (HF8.out.later hb9)
    clear hfn j0 j1 j2 j3 j4 k0 k1 k2 k3 k4 y0 y1 hb9 RS8 HF8
    -- how many bytes it lays
    have hvl := HF9.out.v
    have j0 := hvl.1.1
    have j1 := hvl.1.2.1
    have j2 := hvl.1.2.2.1
    have j3 := hvl.1.2.2.2.1
    have j4 := hvl.1.2.2.2.2
    have k0 := hvl.2.1
    have k1 := hvl.2.2.1
    have k2 := hvl.2.2.2.1
    have k3 := hvl.2.2.2.2.1
    have k4 := hvl.2.2.2.2.2
    have hln := HLN.out W9 Y1 l [Hdr.headL l.length g b] (some (g, b, l.length + Hdr.gapN l.length)) 249127 HF9.out.l HC8.out (by omega)
    obtain ⟨n1, hn1⟩ : ∃ n1, n0 + m = n1 := ⟨_, rfl⟩
    rw [HPL.out, hm, hn1] at hln
    simp only [FileT.agg, PcT.val] at hln
    obtain ⟨d, hd, hdm⟩ := cut_at s.cut m (by omega)
    obtain ⟨hsub, hsub', hmw, hml, hmu, hdw, hdu, hm0⟩ := torn_wraps hnm hn1 hm2.1 hm2.2 hdm
    clear hvl
    go_wp2_with fail
    refine hln.mono ?_
    rintro e W10 ⟨rfl, hb10⟩
    have RS10 := Lib.hid (RS9.out.later hb10)
    have HF10 := Lib.hid (HF9.out.later hb10)
    clear hln j0 j1 j2 j3 j4 k0 k1 k2 k3 k4 hb10 RS9 HF9
    have c0 := RS10.out.s.c0
    clear hn1
    -- the loss
    have hdl : d < (Hdr.headL l.length g b).length := by
      clear hsub hsub' hmw hml hmu hdw hdu hm0 hd
      rw [Hdr.head_len, HN0.out]
      omega
    have hdg : d < Hdr.gapN l.length + 64 := by
      clear hsub hsub' hmw hml hmu hdw hdu hm0 hd
      rw [HN0.out]
      omega
    have hcr : Calls Tryd.prog 28 #[Y1.agg, .slice none 0 0, .int .i64 0, .int .i64 (d : Int)] W10 (OpP Y1 (fun _ => True) (Y1.s.crash [] 0 d, 0) W10) := crashF_any Y1 ⟨none, 0, 0, []⟩ 0 (d : Int) W10.heap.size W10 HF10.out.l (bot_nil _ _) (Nat.le_refl _) (HC8.out.right HF10.out.l (show (249127 : Nat) ≤ 524288 by decide))
    rw [HC8.out.s, crash_one l (Hdr.headL l.length g b) d hdl] at hcr
    simp only [FileT.agg, PcT.val] at hcr
    have hvl := HF10.out.v
    have j0 := hvl.1.1
    have j1 := hvl.1.2.1
    have j2 := hvl.1.2.2.1
    have j3 := hvl.1.2.2.2.1
    have j4 := hvl.1.2.2.2.2
    have k0 := hvl.2.1
    have k1 := hvl.2.2.1
    have k2 := hvl.2.2.2.1
    have k3 := hvl.2.2.2.2.1
    have k4 := hvl.2.2.2.2.2
    have y0 := RS10.out.h.c0
    have y1 := RS10.out.h.c1
    clear hvl
    go_upto_region 17 with (go_at_call 28; refine hcr.mono ?_; rintro e W11 ⟨Z, rfl, hYs, hYL, hbY, hYa⟩; simp only [FileT.agg, PcT.val]; have hv5 := HF10.out.v.later hbY; obtain ⟨⟨m0, m1, m2, m3, m4⟩, l0, l1, l2, l3, l4⟩ := hv5)
    have hfe := set_fat2 HF10.out hbY hYL (hYa gf (Nat.lt_of_succ_lt RS10.out.l.lt) HF10.out.a trivial)
    have hre := (RS10.out.later hbY).set5e ge1 ge2 ge3 ge4 (.slice Z.F.A Z.F.n Z.F.c) (.slice Z.lA Z.ln Z.lc) (.int .i64 Z.fuse) (.int .i64 Z.fault) (.bool Z.off)
    clear hcr y0 y1 j0 j1 j2 j3 j4 k0 k1 k2 k3 k4 m0 m1 m2 m3 m4 l0 l1 l2 l3 l4 hYa hYL hbY
    obtain ⟨W12, hW⟩ : ∃ V, ((((W11.setCell ⟨gf, 0, none⟩ (.slice Z.F.A Z.F.n Z.F.c)).setCell ⟨gf, 1, none⟩ (.slice Z.lA Z.ln Z.lc)).setCell ⟨gf, 2, none⟩ (.int .i64 Z.fuse)).setCell ⟨gf, 3, none⟩ (.int .i64 Z.fault)).setCell ⟨gf, 4, none⟩ (.bool Z.off) = V := ⟨_, rfl⟩
    have HF12 := Lib.hid (hfe _ hW)
    have RS12 := Lib.hid (hre _ hW)
    rw [hW]
    clear hW hfe hre HF10 RS10
    clear hsub hsub' hmw hml hmu hdw hdu hm0 hd
    obtain ⟨fi, hfi⟩ : ∃ fi, l ++ (Hdr.headL l.length g b).take d = fi := ⟨_, rfl⟩
    rw [hfi] at hYs
    have HC12 := Lib.hid (show CalmF Z fi [] L 249127 from ⟨hYs, fun x hx => (List.not_mem_nil hx).elim, by rw [← hfi, List.flatten_nil, List.append_nil, List.length_append, List.length_take, HN0.out]; omega, by rw [← hfi, List.flatten_nil, List.append_nil, Hdr.last_cut l g b d hdg]; exact HLL.out⟩)
    clear hdl hdg hYs hfi HC8 HPL HPT hdm hm hm2 c0
    have hfn := HFN.out W12 RS12.out.bel Z fi [] L 249127 HF12.out.l HC12.out (by omega)
    simp only [FileT.agg, PcT.val] at hfn
    have hvl := HF12.out.v
    have j0 := hvl.1.1
    have j1 := hvl.1.2.1
    have j2 := hvl.1.2.2.1
    have j3 := hvl.1.2.2.2.1
    have j4 := hvl.1.2.2.2.2
    have k0 := hvl.2.1
    have k1 := hvl.2.2.1
    have k2 := hvl.2.2.2.1
    have k3 := hvl.2.2.2.2.1
    have k4 := hvl.2.2.2.2.2
    have y0 := RS12.out.l.c0
    have y1 := RS12.out.l.c1
    clear hvl
    go_wp2_with fail
    refine hfn.mono ?_
    rintro e W13 ⟨rfl, hb13⟩
    have RS13 := Lib.hid (RS12.out.later hb13)
    have HF13 := Lib.hid (HF12.out.later hb13)
    clear hfn j0 j1 j2 j3 j4 k0 k1 k2 k3 k4 y0 y1 hb13 RS12 HF12
    have c1 := RS13.out.s.c1
    go_wp2_with fail
    clear c1
    go_loopw [78] (fun iv wr => ∃ (i : Nat) (lo : List (List UInt8)) (X : FileT), i ≤ s.ln ∧ i ≤ 8 ∧ iv = .int .i64 (i : Nat) ∧ Hid (FAt wr gf X) ∧ Hid (CalmF X fi lo L (249200 + 8300 * i)) ∧ Hid (Rest w w.heap.size g b (gf + 1) L (w.heap.size + 1) s wr)) (fun iv _ => s.ln - (intOf iv).toNat)
    case atStart => exact ⟨0, [], Z, Nat.zero_le _, Nat.zero_le _, rfl, HF13, Lib.hid (HC12.out.more (by omega)), RS13⟩
    case round =>
      obtain ⟨i, lo, X, hi, hi8, rfl, HF, HC, RS⟩ := hrel
      clear HF13 RS13 HC12
      by_cases hlt : i < s.ln
      · have hlt' : ((i : Int) < (s.ln : Int)) = True := eq_true (by omega)
        obtain ⟨b1, o1, hbA, hb1, hc1⟩ := HSR.out.row.2 (by omega)
        have hl0 : s.L.length = s.ln := by have h := HSR.out.row.1; simpa using h
        obtain ⟨p, hpi⟩ : ∃ p, s.L[i]? = some p := ⟨_, List.getElem?_eq_getElem (by omega)⟩
        have hp := HSR.out.recs p (List.mem_of_getElem? hpi)
        have d0 : wr.cell? ⟨b1, o1 + i, none⟩ = some (.slice p.A p.n p.c) := (RS.out.bel.cell (by show b1 < _; omega)).trans (hc1 i _ (by rw [List.getElem?_map, hpi]; rfl))
        clear hc1 hpi hl0
        by_cases h8 : i = 8
        · have h8' : ((i : Int) == 8) = true := by simp [h8]
          clear h8
          go_upto_region 22 with fail
          clear d0
          have hpt := HPH.out wr RS.out.bel X fi lo b L (249200 + 8300 * i) HF.out.l HC.out (by omega) HK14.out.1 HK14.out.2
          simp only [FileT.agg, PcT.val] at hpt
          have hvl := HF.out.v
          have j0 := hvl.1.1
          have j1 := hvl.1.2.1
          have j2 := hvl.1.2.2.1
          have j3 := hvl.1.2.2.2.1
          have j4 := hvl.1.2.2.2.2
          have k0 := hvl.2.1
          have k1 := hvl.2.2.1
          have k2 := hvl.2.2.2.1
          have k3 := hvl.2.2.2.2.1
          have k4 := hvl.2.2.2.2.2
          have y0 := RS.out.h.c0
          have y1 := RS.out.h.c1
          clear hvl
          go_upto_region 28 with (go_at_call 16; refine hpt.mono ?_; rintro e W16 ⟨Y2, rfl, hYs, hYL, hbY, hYa⟩; simp only [FileT.agg, PcT.val]; have hv5 := HF.out.v.later hbY; obtain ⟨⟨m0, m1, m2, m3, m4⟩, l0, l1, l2, l3, l4⟩ := hv5)
          have hfe := set_fat2 HF.out hbY hYL (hYa gf (Nat.lt_of_succ_lt RS.out.l.lt) HF.out.a trivial)
          have hre := (RS.out.later hbY).set5e ge1 ge2 ge3 ge4 (.slice Y2.F.A Y2.F.n Y2.F.c) (.slice Y2.lA Y2.ln Y2.lc) (.int .i64 Y2.fuse) (.int .i64 Y2.fault) (.bool Y2.off)
          clear hpt y0 y1 j0 j1 j2 j3 j4 k0 k1 k2 k3 k4 m0 m1 m2 m3 m4 l0 l1 l2 l3 l4 hYa hYL hbY
          obtain ⟨W18, hW⟩ : ∃ V, ((((W16.setCell ⟨gf, 0, none⟩ (.slice Y2.F.A Y2.F.n Y2.F.c)).setCell ⟨gf, 1, none⟩ (.slice Y2.lA Y2.ln Y2.lc)).setCell ⟨gf, 2, none⟩ (.int .i64 Y2.fuse)).setCell ⟨gf, 3, none⟩ (.int .i64 Y2.fault)).setCell ⟨gf, 4, none⟩ (.bool Y2.off) = V := ⟨_, rfl⟩
          have HF18 := Lib.hid (hfe _ hW)
          have RS18 := Lib.hid (hre _ hW)
          rw [hW]
          clear hW hfe hre HF RS
          have HC18 := Lib.hid (HC.out.head hYs HK14.out.1 HG.out HK14.out.2)
          clear hYs HC
          have hfn := HFN.out W18 RS18.out.bel Y2 fi (lo ++ [Hdr.headL (fi ++ lo.flatten).length g b]) (some (g, b, (fi ++ lo.flatten).length + Hdr.gapN (fi ++ lo.flatten).length)) (249200 + 8300 * i + 127) HF18.out.l HC18.out (by omega)
          simp only [FileT.agg, PcT.val, fG, fA, Option.isSome] at hfn
          have hvl := HF18.out.v
          have j0 := hvl.1.1
          have j1 := hvl.1.2.1
          have j2 := hvl.1.2.2.1
          have j3 := hvl.1.2.2.2.1
          have j4 := hvl.1.2.2.2.2
          have k0 := hvl.2.1
          have k1 := hvl.2.2.1
          have k2 := hvl.2.2.2.1
          have k3 := hvl.2.2.2.2.1
          have k4 := hvl.2.2.2.2.2
          have y0 := RS18.out.h.c0
          have y1 := RS18.out.h.c1
          clear hvl
          go_wp2_with fail
          refine hfn.mono ?_
          rintro e W19 ⟨rfl, hb19⟩
          have hb20 := bel_next RS18.out.bel hb19
          clear hfn j0 j1 j2 j3 j4 k0 k1 k2 k3 k4 y0 y1 hb19 RS18 HF18 HC18
          go_wp2
          go_ret
          exact ⟨rfl, hb20⟩
        · have h8' : ((i : Int) == 8) = false := beq_eq_false_iff_ne.2 (by omega)
          by_cases hn0 : p.n = 0
          · have hn1 : ((p.n : Int) == 0) = true := by simp [hn0]
            clear hn0
            go_upto_region 22 with fail
            clear d0
            have hpt := HPH.out wr RS.out.bel X fi lo b L (249200 + 8300 * i) HF.out.l HC.out (by omega) HK14.out.1 HK14.out.2
            simp only [FileT.agg, PcT.val] at hpt
            have hvl := HF.out.v
            have j0 := hvl.1.1
            have j1 := hvl.1.2.1
            have j2 := hvl.1.2.2.1
            have j3 := hvl.1.2.2.2.1
            have j4 := hvl.1.2.2.2.2
            have k0 := hvl.2.1
            have k1 := hvl.2.2.1
            have k2 := hvl.2.2.2.1
            have k3 := hvl.2.2.2.2.1
            have k4 := hvl.2.2.2.2.2
            have y0 := RS.out.h.c0
            have y1 := RS.out.h.c1
            clear hvl
            go_upto_region 28 with (go_at_call 16; refine hpt.mono ?_; rintro e W16 ⟨Y2, rfl, hYs, hYL, hbY, hYa⟩; simp only [FileT.agg, PcT.val]; have hv5 := HF.out.v.later hbY; obtain ⟨⟨m0, m1, m2, m3, m4⟩, l0, l1, l2, l3, l4⟩ := hv5)
            have hfe := set_fat2 HF.out hbY hYL (hYa gf (Nat.lt_of_succ_lt RS.out.l.lt) HF.out.a trivial)
            have hre := (RS.out.later hbY).set5e ge1 ge2 ge3 ge4 (.slice Y2.F.A Y2.F.n Y2.F.c) (.slice Y2.lA Y2.ln Y2.lc) (.int .i64 Y2.fuse) (.int .i64 Y2.fault) (.bool Y2.off)
            clear hpt y0 y1 j0 j1 j2 j3 j4 k0 k1 k2 k3 k4 m0 m1 m2 m3 m4 l0 l1 l2 l3 l4 hYa hYL hbY
            obtain ⟨W18, hW⟩ : ∃ V, ((((W16.setCell ⟨gf, 0, none⟩ (.slice Y2.F.A Y2.F.n Y2.F.c)).setCell ⟨gf, 1, none⟩ (.slice Y2.lA Y2.ln Y2.lc)).setCell ⟨gf, 2, none⟩ (.int .i64 Y2.fuse)).setCell ⟨gf, 3, none⟩ (.int .i64 Y2.fault)).setCell ⟨gf, 4, none⟩ (.bool Y2.off) = V := ⟨_, rfl⟩
            have HF18 := Lib.hid (hfe _ hW)
            have RS18 := Lib.hid (hre _ hW)
            rw [hW]
            clear hW hfe hre HF RS
            have HC18 := Lib.hid (HC.out.head hYs HK14.out.1 HG.out HK14.out.2)
            clear hYs HC
            have hfn := HFN.out W18 RS18.out.bel Y2 fi (lo ++ [Hdr.headL (fi ++ lo.flatten).length g b]) (some (g, b, (fi ++ lo.flatten).length + Hdr.gapN (fi ++ lo.flatten).length)) (249200 + 8300 * i + 127) HF18.out.l HC18.out (by omega)
            simp only [FileT.agg, PcT.val, fG, fA, Option.isSome] at hfn
            have hvl := HF18.out.v
            have j0 := hvl.1.1
            have j1 := hvl.1.2.1
            have j2 := hvl.1.2.2.1
            have j3 := hvl.1.2.2.2.1
            have j4 := hvl.1.2.2.2.2
            have k0 := hvl.2.1
            have k1 := hvl.2.2.1
            have k2 := hvl.2.2.2.1
            have k3 := hvl.2.2.2.2.1
            have k4 := hvl.2.2.2.2.2
            have y0 := RS18.out.h.c0
            have y1 := RS18.out.h.c1
            clear hvl
            go_wp2_with fail
            refine hfn.mono ?_
            rintro e W19 ⟨rfl, hb19⟩
            have hb20 := bel_next RS18.out.bel hb19
            clear hfn j0 j1 j2 j3 j4 k0 k1 k2 k3 k4 y0 y1 hb19 RS18 HF18 HC18
            go_wp2
            go_ret
            exact ⟨rfl, hb20⟩
          · have hn1 : ((p.n : Int) == 0) = false := beq_eq_false_iff_ne.2 (by omega)
            obtain ⟨q, hq⟩ : ∃ q, min p.n 300 = q := ⟨_, rfl⟩
            have hq1 : 1 ≤ q ∧ q ≤ 300 ∧ q ≤ p.n := by omega
            have hmq : min (p.n : Int) 300 = (q : Int) := by omega
            have hiq1 : (if (p.n : Int) < 300 then (p.n : Int) else 300) = (q : Int) := by split <;> omega
            have hiq2 : (if (300 : Int) < (p.n : Int) then 300 else (p.n : Int)) = (q : Int) := by split <;> omega
            have hiq3 : (if (p.n : Int) ≤ 300 then (p.n : Int) else 300) = (q : Int) := by split <;> omega
            have hiq4 : (if (300 : Int) ≤ (p.n : Int) then 300 else (p.n : Int)) = (q : Int) := by split <;> omega
            have hpo3 := (hp.later RS.out.bel).more RS.out.bel.size
            have hpq : PcT.Ok wr.drew wr.drew.heap.size ⟨p.A, q, p.c, p.l.take q⟩ := ⟨(hpo3.here.first hq1.2.2).drew, hpo3.nil, Nat.le_trans hq1.2.2 hpo3.fits, hpo3.most⟩
            have hqc : q ≤ p.c := Nat.le_trans hq1.2.2 hpo3.fits
            have hfl : FAt wr.drew gf X := HF.out.drew
            have hpt := HPR.out wr.drew (below_drew1 RS.out.bel) X ⟨p.A, q, p.c, p.l.take q⟩ fi lo L (249200 + 8300 * i) hfl.l hpq HC.out ⟨hq1.1, hq1.2.1⟩ (by omega)
            simp only [FileT.agg, PcT.val] at hpt
            have HPT := Lib.hid hpt
            have HV3 := Lib.hid hfl.v
            have HQL := Lib.hid (show (p.l.take q).length ≤ 300 by rw [List.length_take]; omega)
            clear hfl hpq hpo3 hpt hq hp
            go_upto_region 23 with fail
            clear d0 hbA
            refine wp_region_held_drew (S := fun W => OthB gf wr W) (by kernel_rfl) (OthB.drewN _ _ 1) (fun hHeld => ?_)
            refine rg_in 1 rfl (by kernel_rfl) (by kernel_rfl) (by kernel_rfl) (by rfl) (v := ?_) (fun _ _ _ h => h) hHeld (fun w hSw => ?_) ?_
            rotate_left
            · (try dsimp only at hSw); go_simp <;> (with_reducible rfl)
            (try simp only [Act.put, List.setIfInBounds_toArray, List.set_cons_zero, List.set_cons_succ])
            refine rg_in 2 rfl (by kernel_rfl) (by kernel_rfl) (by kernel_rfl) (by rfl) (v := ?_) (fun _ _ _ h => h) hHeld (fun w hSw => ?_) ?_
            rotate_left
            · (try dsimp only at hSw); go_simp <;> (with_reducible rfl)
            (try simp only [Act.put, List.setIfInBounds_toArray, List.set_cons_zero, List.set_cons_succ])
            refine rg_in 3 rfl (by kernel_rfl) (by kernel_rfl) (by kernel_rfl) (by rfl) (v := ?_) (fun _ _ _ h => h) hHeld (fun w hSw => ?_) ?_
            rotate_left
            · (try dsimp only at hSw); go_simp <;> (with_reducible rfl)
            (try simp only [Act.put, List.setIfInBounds_toArray, List.set_cons_zero, List.set_cons_succ])
            refine rg_in 4 rfl (by kernel_rfl) (by kernel_rfl) (by kernel_rfl) (by rfl) (v := ?_) (fun _ _ _ h => h) hHeld (fun w hSw => ?_) ?_
            rotate_left
            · (try dsimp only at hSw); go_simp <;> (with_reducible rfl)
            (try simp only [Act.put, List.setIfInBounds_toArray, List.set_cons_zero, List.set_cons_succ])
            refine rg_in 5 rfl (by kernel_rfl) (by kernel_rfl) (by kernel_rfl) (by rfl) (v := ?_) (fun _ _ _ h => h) hHeld (fun w hSw => ?_) ?_
            rotate_left
            · (try dsimp only at hSw); go_simp <;> (with_reducible rfl)
            (try simp only [Act.put, List.setIfInBounds_toArray, List.set_cons_zero, List.set_cons_succ])
            refine rg_do 0 rfl (by kernel_rfl) (by rfl) (fun K hK => ?_)
            have hvl := HV3.out
            have j0 := hvl.1.1
            have j1 := hvl.1.2.1
            have j2 := hvl.1.2.2.1
            have j3 := hvl.1.2.2.2.1
            have j4 := hvl.1.2.2.2.2
            have k0 := hvl.2.1
            have k1 := hvl.2.2.1
            have k2 := hvl.2.2.2.1
            have k3 := hvl.2.2.2.2.1
            have k4 := hvl.2.2.2.2.2
            go_simp
            clear hvl j0 j1 j2 j3 j4 k0 k1 k2 k3 k4
            refine hK.out _ _ hHeld (fun hHeld => ?_)
            clear hK K
            (try simp only [Act.put, List.setIfInBounds_toArray, List.set_cons_zero, List.set_cons_succ])
            refine rg_do 6 rfl (by kernel_rfl) (by rfl) (fun K hK => ?_)
            have hpt := HPT.out
            go_simp
            (go_at_call 29; (with_reducible refine hpt.mono ?_); (rintro e w108 ⟨Y, rfl, hYs, hYL, hbY, hYa⟩))
            simp only [FileT.agg, PcT.val]
            clear hpt
            refine hK.out _ _ (hHeld.next hbY) (fun hHeld => ?_)
            clear hK K
            (try simp only [Act.put, List.setIfInBounds_toArray, List.set_cons_zero, List.set_cons_succ])
            refine rg_in 7 rfl (by kernel_rfl) (by kernel_rfl) (by kernel_rfl) (by rfl) (v := ?_) (fun _ _ _ h => h) hHeld (fun w hSw => ?_) ?_
            rotate_left
            · (try dsimp only at hSw); go_simp <;> (with_reducible rfl)
            (try simp only [Act.put, List.setIfInBounds_toArray, List.set_cons_zero, List.set_cons_succ])
            refine rg_in 8 rfl (by kernel_rfl) (by kernel_rfl) (by kernel_rfl) (by rfl) (v := ?_) (fun _ _ _ h => h) hHeld (fun w hSw => ?_) ?_
            rotate_left
            · (try dsimp only at hSw); go_simp <;> (with_reducible rfl)
            (try simp only [Act.put, List.setIfInBounds_toArray, List.set_cons_zero, List.set_cons_succ])
            refine rg_in 9 rfl (by kernel_rfl) (by kernel_rfl) (by kernel_rfl) (by rfl) (v := ?_) (fun _ _ _ h => h) hHeld (fun w hSw => ?_) ?_
            rotate_left
            · (try dsimp only at hSw); go_simp <;> (with_reducible rfl)
            (try simp only [Act.put, List.setIfInBounds_toArray, List.set_cons_zero, List.set_cons_succ])
            refine rg_in 10 rfl (by kernel_rfl) (by kernel_rfl) (by kernel_rfl) (by rfl) (v := ?_) (fun _ _ _ h => h) hHeld (fun w hSw => ?_) ?_
            rotate_left
            · (try dsimp only at hSw); go_simp <;> (with_reducible rfl)
            (try simp only [Act.put, List.setIfInBounds_toArray, List.set_cons_zero, List.set_cons_succ])
            refine rg_do 11 rfl (by kernel_rfl) (by rfl) (fun K hK => ?_)
            have hvl := HV3.out.later hbY
            have j0 := hvl.1.1
            have j1 := hvl.1.2.1
            have j2 := hvl.1.2.2.1
            have j3 := hvl.1.2.2.2.1
            have j4 := hvl.1.2.2.2.2
            have k0 := hvl.2.1
            have k1 := hvl.2.2.1
            have k2 := hvl.2.2.2.1
            have k3 := hvl.2.2.2.2.1
            have k4 := hvl.2.2.2.2.2
            go_simp
            clear hvl j0 j1 j2 j3 j4 k0 k1 k2 k3 k4
            refine hK.out _ _ (((((hHeld.set 0 _).set 1 _).set 2 _).set 3 _).set 4 _) (fun hHeld => ?_)
            clear hK K
            (try simp only [Act.put, List.setIfInBounds_toArray, List.set_cons_zero, List.set_cons_succ])
            refine rg_in 12 rfl (by kernel_rfl) (by kernel_rfl) (by kernel_rfl) (by rfl) (v := ?_) (fun _ _ _ h => h) hHeld (fun w hSw => ?_) ?_
            rotate_left
            · (try dsimp only at hSw); go_simp <;> (with_reducible rfl)
            (try simp only [Act.put, List.setIfInBounds_toArray, List.set_cons_zero, List.set_cons_succ])
            refine wpAnyH_done (by kernel_rfl) ?_ _
            skip
            have hfe := set_fat2 HF.out (below_undrew hbY) hYL (hYa gf (Nat.lt_of_succ_lt RS.out.l.lt) HF.out.a)
            have hre := (RS.out.later (below_undrew hbY)).set5e ge1 ge2 ge3 ge4 (.slice Y.F.A Y.F.n Y.F.c) (.slice Y.lA Y.ln Y.lc) (.int .i64 Y.fuse) (.int .i64 Y.fault) (.bool Y.off)
            clear hHeld HV3 HPT hYL hYa hbY
            obtain ⟨W6, hW⟩ : ∃ V, ((((w108.setCell ⟨gf, 0, none⟩ (.slice Y.F.A Y.F.n Y.F.c)).setCell ⟨gf, 1, none⟩ (.slice Y.lA Y.ln Y.lc)).setCell ⟨gf, 2, none⟩ (.int .i64 Y.fuse)).setCell ⟨gf, 3, none⟩ (.int .i64 Y.fault)).setCell ⟨gf, 4, none⟩ (.bool Y.off) = V := ⟨_, rfl⟩
            have HF6 := Lib.hid (hfe _ hW)
            have RS6 := Lib.hid (hre _ hW)
            rw [hW]
            clear hW hfe hre HF RS
            have HC6 := Lib.hid (HC.out.piece hYs HQL.out)
            clear hYs HC HQL hmq hiq1 hiq2 hiq3 hiq4 hq1 hqc
            have hfn := HFN.out W6 RS6.out.bel Y fi _ L (249200 + 8300 * i + 8300) HF6.out.l HC6.out (by omega)
            simp only [FileT.agg, PcT.val] at hfn
            have hvl := HF6.out.v
            have j0 := hvl.1.1
            have j1 := hvl.1.2.1
            have j2 := hvl.1.2.2.1
            have j3 := hvl.1.2.2.2.1
            have j4 := hvl.1.2.2.2.2
            have k0 := hvl.2.1
            have k1 := hvl.2.2.1
            have k2 := hvl.2.2.2.1
            have k3 := hvl.2.2.2.2.1
            have k4 := hvl.2.2.2.2.2
            have y0 := RS6.out.l.c0
            have y1 := RS6.out.l.c1
            clear hvl
            go_wp2_with fail
            refine hfn.mono ?_
            rintro e W7 ⟨rfl, hb7⟩
            have RS7 := Lib.hid (RS6.out.later hb7)
            have HF7 := Lib.hid (HF6.out.later hb7)
            clear hfn j0 j1 j2 j3 j4 k0 k1 k2 k3 k4 y0 y1 hb7 RS6 HF6
            go_wp2
            go_roundw
            case rel => exact ⟨i + 1, _, Y, by omega, by omega, by go_num, HF7, Lib.hid (HC6.out.more (by omega)), RS7⟩
            case measure => simp [intOf]; omega
      · have hlt' : ((i : Int) < (s.ln : Int)) = False := eq_false (by omega)
        have hpt := HPH.out wr RS.out.bel X fi lo b L (249200 + 8300 * i) HF.out.l HC.out (by omega) HK14.out.1 HK14.out.2
        simp only [FileT.agg, PcT.val] at hpt
        have hvl := HF.out.v
        have j0 := hvl.1.1
        have j1 := hvl.1.2.1
        have j2 := hvl.1.2.2.1
        have j3 := hvl.1.2.2.2.1
        have j4 := hvl.1.2.2.2.2
        have k0 := hvl.2.1
        have k1 := hvl.2.2.1
        have k2 := hvl.2.2.2.1
        have k3 := hvl.2.2.2.2.1
        have k4 := hvl.2.2.2.2.2
        have y0 := RS.out.h.c0
        have y1 := RS.out.h.c1
        clear hvl
        go_upto_region 28 with (go_at_call 16; refine hpt.mono ?_; rintro e W16 ⟨Y2, rfl, hYs, hYL, hbY, hYa⟩; simp only [FileT.agg, PcT.val]; have hv5 := HF.out.v.later hbY; obtain ⟨⟨m0, m1, m2, m3, m4⟩, l0, l1, l2, l3, l4⟩ := hv5)
        have hfe := set_fat2 HF.out hbY hYL (hYa gf (Nat.lt_of_succ_lt RS.out.l.lt) HF.out.a trivial)
        have hre := (RS.out.later hbY).set5e ge1 ge2 ge3 ge4 (.slice Y2.F.A Y2.F.n Y2.F.c) (.slice Y2.lA Y2.ln Y2.lc) (.int .i64 Y2.fuse) (.int .i64 Y2.fault) (.bool Y2.off)
        clear hpt y0 y1 j0 j1 j2 j3 j4 k0 k1 k2 k3 k4 m0 m1 m2 m3 m4 l0 l1 l2 l3 l4 hYa hYL hbY
        obtain ⟨W18, hW⟩ : ∃ V, ((((W16.setCell ⟨gf, 0, none⟩ (.slice Y2.F.A Y2.F.n Y2.F.c)).setCell ⟨gf, 1, none⟩ (.slice Y2.lA Y2.ln Y2.lc)).setCell ⟨gf, 2, none⟩ (.int .i64 Y2.fuse)).setCell ⟨gf, 3, none⟩ (.int .i64 Y2.fault)).setCell ⟨gf, 4, none⟩ (.bool Y2.off) = V := ⟨_, rfl⟩
        have HF18 := Lib.hid (hfe _ hW)
        have RS18 := Lib.hid (hre _ hW)
        rw [hW]
        clear hW hfe hre HF RS
        have HC18 := Lib.hid (HC.out.head hYs HK14.out.1 HG.out HK14.out.2)
        clear hYs HC
        have hfn := HFN.out W18 RS18.out.bel Y2 fi (lo ++ [Hdr.headL (fi ++ lo.flatten).length g b]) (some (g, b, (fi ++ lo.flatten).length + Hdr.gapN (fi ++ lo.flatten).length)) (249200 + 8300 * i + 127) HF18.out.l HC18.out (by omega)
        simp only [FileT.agg, PcT.val, fG, fA, Option.isSome] at hfn
        have hvl := HF18.out.v
        have j0 := hvl.1.1
        have j1 := hvl.1.2.1
        have j2 := hvl.1.2.2.1
        have j3 := hvl.1.2.2.2.1
        have j4 := hvl.1.2.2.2.2
        have k0 := hvl.2.1
        have k1 := hvl.2.2.1
        have k2 := hvl.2.2.2.1
        have k3 := hvl.2.2.2.2.1
        have k4 := hvl.2.2.2.2.2
        have y0 := RS18.out.h.c0
        have y1 := RS18.out.h.c1
        clear hvl
        go_wp2_with fail
        refine hfn.mono ?_
        rintro e W19 ⟨rfl, hb19⟩
        have hb20 := bel_next RS18.out.bel hb19
        clear hfn j0 j1 j2 j3 j4 k0 k1 k2 k3 k4 y0 y1 hb19 RS18 HF18 HC18
        go_wp2
        go_ret
        exact ⟨rfl, hb20⟩
  · have hk' : okH g a = false := by simpa using hk
    rw [errH_no hk']
    have hb8 := bel_next hb6 hb7
    clear hk hk' hh4 hr4 hl4 hf4 hb6 hb7
    go_wp2
    go_ret
    exact ⟨rfl, hb8⟩
end Go.Proofs.YtlknmpnjhbdlhaaDoor
