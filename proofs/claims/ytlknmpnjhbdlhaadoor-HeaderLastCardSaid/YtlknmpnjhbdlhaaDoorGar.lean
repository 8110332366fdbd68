import Derived.Test.YtlknmpnjhbdlhaaDoorGao
import Derived.Test.YtlknmpnjhbdlhaaDoorGab
import Derived.Test.YtlknmpnjhbdlhaaDoorGaq
/-
  Layer 12: the law's steps.
-/
namespace Go.Proofs.YtlknmpnjhbdlhaaDoor
open Go.RowKit
set_option linter.unusedVariables false

/-- The blocks other than one are as they were. -/
structure OthB (g : Nat) (w W : World) : Prop where
  size : w.heap.size ≤ W.heap.size
  o : ∀ k, k < w.heap.size → k ≠ g → W.heap[k]? = w.heap[k]?
theorem OthB.drewN (g : Nat) (w : World) (k : Nat) : OthB g w (w.drewN k) := ⟨Nat.le_refl _, fun _ _ _ => rfl⟩
theorem OthB.next {g : Nat} {w W W' : World} (h : OthB g w W) (hb : Below W.heap.size W W') : OthB g w W' := ⟨Nat.le_trans h.size hb.size, fun k hk hne => (hb.block k (Nat.lt_of_lt_of_le hk h.size)).trans (h.o k hk hne)⟩
theorem OthB.set {g : Nat} {w W : World} (h : OthB g w W) (i : Nat) (u : Value) : OthB g w (W.setCell ⟨g, i, none⟩ u) := ⟨by rw [size_set]; exact h.size, fun k hk hne => (Below.heap_setCell _ _ _ _ hne).trans (h.o k hk hne)⟩
theorem OthB.cell {g : Nat} {w W : World} (h : OthB g w W) {k i : Nat} (hk : k < w.heap.size) (hne : k ≠ g) : W.cell? ⟨k, i, none⟩ = w.cell? ⟨k, i, none⟩ := World.cell?_of_block (h.o k hk hne)
theorem set5_other {W : World} {g k : Nat} (u : Unit) (h : k ≠ g) {a b c d e : Value} : (set5F W g a b c d e).heap[k]? = W.heap[k]? := by
  unfold set5F
  rw [Below.heap_setCell _ _ _ _ h, Below.heap_setCell _ _ _ _ h, Below.heap_setCell _ _ _ _ h, Below.heap_setCell _ _ _ _ h, Below.heap_setCell _ _ _ _ h]
theorem FAt.other2 {W : World} {g k : Nat} {X : FileT} (h : FAt W g X) (hk : g ≠ k) (ha : AwayF X k) (x y : Value) : FAt ((W.setCell ⟨k, 0, none⟩ x).setCell ⟨k, 1, none⟩ y) g X :=
  ⟨(h.v.other x hk).other y hk, by rw [size_set, size_set]; exact (h.l.setAway ha 0 x).setAway ha 1 y, h.a⟩
/-- A step's variable. -/
def SBox (w : World) (h : Nat) (x : StepT) : Prop := w.heap[h]? = some (.cells #[.slice x.p.A x.p.n x.p.c, .int .u64 (x.g : Int), .int .i64 x.a] 84 (0, 0))
theorem SBox.later {w w' : World} {h : Nat} {x : StepT} (hb : SBox w h x) (hl : Below w.heap.size w w') : SBox w' h x := blk_later hb hl
theorem SBox.c0 {w : World} {h : Nat} {x : StepT} (hb : SBox w h x) : w.cell? ⟨h, 0, none⟩ = some (.slice x.p.A x.p.n x.p.c) := (cell_of_row _ _ 0 _ _ _ hb).trans rfl
theorem SBox.c1 {w : World} {h : Nat} {x : StepT} (hb : SBox w h x) : w.cell? ⟨h, 1, none⟩ = some (.int .u64 (x.g : Int)) := (cell_of_row _ _ 1 _ _ _ hb).trans rfl
theorem SBox.c2 {w : World} {h : Nat} {x : StepT} (hb : SBox w h x) : w.cell? ⟨h, 2, none⟩ = some (.int .i64 x.a) := (cell_of_row _ _ 2 _ _ _ hb).trans rfl
theorem flat_snoc (lo : List (List UInt8)) (P : List UInt8) : (lo ++ [P]).flatten = lo.flatten ++ P := by simp
theorem piece_ne (all b : List UInt8) : Fra.pieceL all (Fra.encL b) ≠ [] := fun e => by
  have h1 := (Fra.layP_ge (Fra.encL b) (Fra.atN all)).1
  have h3 := Fra.encL_len b
  have h2 : (Fra.aheadL all).length + (Fra.layP (Fra.atN all) (Fra.encL b)).length = 0 := by
    have := congrArg List.length e
    unfold Fra.pieceL at this
    rwa [List.length_append] at this
  omega
theorem sync_calm (fi : List UInt8) (lo : List (List UInt8)) (n : Nat) (h : n ≤ 524288) : FileS.sync ⟨fi, lo, -1, -1, false⟩ n = (⟨fi ++ lo.flatten, [], -1, -1, false⟩, 0) := by
  have hask : FileS.asked ⟨fi, lo, -1, -1, false⟩ n 0 = (⟨fi, lo, -1, -1, false⟩, 0) := by
    have h' : ¬ 524288 < n + 0 := by omega
    unfold FileS.asked
    rw [if_neg (show ¬ (false = true) by decide), if_neg h', if_neg (show ¬ ((-1 : Int) = 0) by decide)]
    rfl
  unfold FileS.sync
  rw [hask, if_pos rfl]
  rfl
theorem FAt.drew {W : World} {g : Nat} {X : FileT} (h : FAt W g X) : FAt W.drew g X := h.later (below_drewN (Below.refl _ _) 1)
theorem HBox.drew {w : World} {h g : Nat} {a : Int} (hb : HBox w h g a) : HBox w.drew h g a := hb
theorem below_drew1 {B : Nat} {w w' : World} (h : Below B w w') : Below B w w'.drew := below_drewN h 1
/-- The results are stored where they lie. -/
theorem steps_done {w W6 : World} {Y : FileT} {n h g a : Nat} (hf : FAt W6 n Y) (hh : HBox W6 h g (a : Nat)) (ha : AwayF Y h) (hb : Below w.heap.size w W6) (hn : w.heap.size ≤ n) (hw : w.heap.size ≤ h) (hne : n ≠ h) : ∀ W, World.drew (((((((W6.setCell ⟨n, 0, none⟩ (.slice Y.F.A Y.F.n Y.F.c)).setCell ⟨n, 1, none⟩ (.slice Y.lA Y.ln Y.lc)).setCell ⟨n, 2, none⟩ (.int .i64 Y.fuse)).setCell ⟨n, 3, none⟩ (.int .i64 Y.fault)).setCell ⟨n, 4, none⟩ (.bool Y.off)).setCell ⟨h, 0, none⟩ (.int .u64 (g : Nat))).setCell ⟨h, 1, none⟩ (.int .i64 (a : Nat))) = W →
    FAt W n Y ∧ HBox W h g (a : Nat) ∧ Below w.heap.size w W := by
  rintro W rfl
  have hfa7 := FAt.set hf.v hf.l hf.a
  unfold set5F at hfa7
  have hfa8 := (hfa7.other2 hne ha (.int .u64 (g : Nat)) (.int .i64 (a : Nat))).drew
  have hh7 : HBox (set5F W6 n (.slice Y.F.A Y.F.n Y.F.c) (.slice Y.lA Y.ln Y.lc) (.int .i64 Y.fuse) (.int .i64 Y.fault) (.bool Y.off)) h g (a : Nat) := (set5_other () (fun e => hne e.symm)).trans hh
  unfold set5F at hh7
  have hh8 := set2_box hh7 g (a : Nat)
  have hb7 := fbelow_set5 (a := .slice Y.F.A Y.F.n Y.F.c) (b := .slice Y.lA Y.ln Y.lc) (c := .int .i64 Y.fuse) (d := .int .i64 Y.fault) (e := .bool Y.off) hb hn
  unfold set5F at hb7
  have hb8 := below_drew1 (below_set2 (x := .int .u64 (g : Nat)) (y := .int .i64 (a : Nat)) hb7 hw)
  exact ⟨hfa8, hh8.drew, hb8⟩
/-- What steps give. -/
def StepsP (w : World) (e : Ending) (w' : World) : Prop :=
  ∃ (Y : FileT) (l : List UInt8), e = .returned (.tuple #[Y.agg, .agg #[.int .u64 (fG (Hdr.lastH l) : Nat), .int .i64 (fA (Hdr.lastH l) : Nat)], .bool (Hdr.lastH l).isSome, .bool true]) ∧ Y.s = ⟨l, [], -1, -1, false⟩ ∧ l.length ≤ 249000 ∧ LieF w' w'.heap.size Y ∧ Below w.heap.size w w' ∧ (∀ g, g < w.heap.size → AwayF Y g)
set_option maxRecDepth 100000 in
set_option maxHeartbeats 8000000 in
theorem steps_any (A : Option Addr) (n c : Nat) (xs : List StepT) (w : World) (htab : Tab w) (hx : Shows w w.heap.size 3 A n (xs.flatMap StepT.cells)) (hok : ∀ x ∈ xs, x.Ok w w.heap.size) (hnc : n ≤ c) (hcm : c ≤ maxLen) :
    Calls Tryd.prog 25 #[.slice A n c] w (StepsP w) := by
  obtain ⟨m, hm⟩ : ∃ m, min n 30 = m := ⟨_, rfl⟩
  have hmn : min (n : Int) 30 = (m : Int) := by omega
  have hif1 : (if (n : Int) < 30 then (n : Int) else 30) = (m : Int) := by split <;> omega
  have hif2 : (if (30 : Int) < (n : Int) then 30 else (n : Int)) = (m : Int) := by split <;> omega
  have hif3 : (if (n : Int) ≤ 30 then (n : Int) else 30) = (m : Int) := by split <;> omega
  have hif4 : (if (30 : Int) ≤ (n : Int) then 30 else (n : Int)) = (m : Int) := by split <;> omega
  have hm30 : m ≤ 30 := by omega
  have hml : m ≤ n := by omega
  have hxl : xs.length = n := by have h := hx.1; rw [flatH_len StepT.cells 3 (fun _ => rfl)] at h; omega
  have HX := Lib.hid hx
  have HK := Lib.hid hok
  have HXL := Lib.hid hxl
  have HT := Lib.hid htab
  unfold maxLen at hcm
  clear hx hok hxl htab hm
  go_enter Tryd.func25, Tryd.ntmps25
  go_wp2_with fail
  refine (newF_any _).mono ?_
  rintro e W1 ⟨rfl, hb0⟩
  have hv0 : FVar ((w.alloc (.cells #[.slice none 0 0, .slice none 0 0, .int .i64 0, .int .i64 0, .bool false] 37)).alloc (.cells #[.int .u64 0, .int .i64 0] 24)) w.heap.size (.slice none 0 0) (.slice none 0 0) (.int .i64 0) (.int .i64 0) (.bool false) := (FVar.new w _ _ _ _ _ _).later (bel_alloc (Below.refl _ _) _)
  have hh0 : HBox ((w.alloc (.cells #[.slice none 0 0, .slice none 0 0, .int .i64 0, .int .i64 0, .bool false] 37)).alloc (.cells #[.int .u64 0, .int .i64 0] 24)) (w.heap.size + 1) 0 0 := by
    have h : HBox ((w.alloc (.cells #[.slice none 0 0, .slice none 0 0, .int .i64 0, .int .i64 0, .bool false] 37)).alloc (.cells #[.int .u64 0, .int .i64 0] 24)) (w.alloc (.cells #[.slice none 0 0, .slice none 0 0, .int .i64 0, .int .i64 0, .bool false] 37)).heap.size 0 0 := heap_alloc_new _ _
    rw [World.size_alloc] at h
    exact h
  have hb1 := bel_next (bel_alloc (bel_alloc (Below.refl w.heap.size w) (.cells #[.slice none 0 0, .slice none 0 0, .int .i64 0, .int .i64 0, .bool false] 37)) (.cells #[.int .u64 0, .int .i64 0] 24)) hb0
  have hv1 := hv0.later hb0
  have hh1 := hh0.later hb0
  have hf1 := FAt.set hv1 (newF_lies W1) (newF_away w.heap.size)
  have hh2 : HBox (set5F W1 w.heap.size (.slice none 0 0) (.slice none 0 0) (.int .i64 (-1)) (.int .i64 (-1)) (.bool false)) (w.heap.size + 1) 0 0 := by
    unfold set5F
    have ne : w.heap.size + 1 ≠ w.heap.size := by omega
    exact (Below.heap_setCell _ _ _ _ ne).trans ((Below.heap_setCell _ _ _ _ ne).trans ((Below.heap_setCell _ _ _ _ ne).trans ((Below.heap_setCell _ _ _ _ ne).trans ((Below.heap_setCell _ _ _ _ ne).trans hh1))))
  have hb2 : Below w.heap.size w (set5F W1 w.heap.size (.slice none 0 0) (.slice none 0 0) (.int .i64 (-1)) (.int .i64 (-1)) (.bool false)) := fbelow_set5 hb1 (Nat.le_refl _)
  obtain ⟨⟨j0, j1, j2, j3, j4⟩, k0, k1, k2, k3, k4⟩ := hv1
  have hf2 : FAt (set5F W1 w.heap.size (.slice none 0 0) (.slice none 0 0) (.int .i64 (-1)) (.int .i64 (-1)) (.bool false)) w.heap.size newF := hf1
  unfold set5F at hf2 hh2 hb2
  clear hb0 hb1 hv0 hh0 hh1 hf1
  go_upto_region 2 with fail
  generalize ((((W1.setCell ⟨w.heap.size, 0, none⟩ (.slice none 0 0)).setCell ⟨w.heap.size, 1, none⟩ (.slice none 0 0)).setCell ⟨w.heap.size, 2, none⟩ (.int .i64 (-1))).setCell ⟨w.heap.size, 3, none⟩ (.int .i64 (-1))).setCell ⟨w.heap.size, 4, none⟩ (.bool false) = W2 at *
  clear j0 j1 j2 j3 j4 k0 k1 k2 k3 k4
  have HF2 := Lib.hid hf2
  have HH2 := Lib.hid hh2
  have HB2 := Lib.hid hb2
  clear hf2 hh2 hb2
  go_wp2_with fail
  go_loopw [4, 17] (fun tv iv wr => ∃ (i : Nat) (lo : List (List UInt8)) (X : FileT) (L : Option (Nat × Nat × Nat)), i ≤ m ∧ iv = .int .i64 (i : Nat) ∧ tv = .bool L.isSome ∧ Hid (Hdr.lastH lo.flatten = L) ∧ Hid (FAt wr w.heap.size X) ∧ Hid (X.s = ⟨[], lo, -1, -1, false⟩) ∧ Hid (∀ l ∈ lo, l ≠ []) ∧ Hid (lo.flatten.length ≤ 8300 * i) ∧ Hid (HBox wr (w.heap.size + 1) (fG L) (fA L : Nat)) ∧ Hid (Below w.heap.size w wr) ∧ Hid (∀ g, g < w.heap.size + 2 → AwayF X g)) (fun _ iv _ => m - (intOf iv).toNat)
  case atStart => exact ⟨0, [], newF, none, Nat.zero_le _, rfl, rfl, Lib.hid rfl, HF2, Lib.hid rfl, Lib.hid (fun l h => (List.not_mem_nil h).elim), Lib.hid (Nat.zero_le _), HH2, HB2, Lib.hid (fun g _ => newF_away g)⟩
  case round =>
    obtain ⟨i, lo, X, L, hi, rfl, rfl, HLL, HF, HS, HNE, HLN, HH, HB, HAY⟩ := hrel
    clear HF2 HH2 HB2 hmn hif1 hif2 hif3 hif4
    by_cases hlt : i < m
    · have hlt' : ((i : Int) < (m : Int)) = True := eq_true (by omega)
      obtain ⟨b1, o1, rfl, hb1, hc1⟩ := HX.out.2 (by omega)
      obtain ⟨x, hxi⟩ : ∃ x, xs[i]? = some x := ⟨_, List.getElem?_eq_getElem (by rw [HXL.out]; omega)⟩
      have hb := HB.out
      have d0 : wr.cell? ⟨b1, o1 + i * 3, none⟩ = some (.slice x.p.A x.p.n x.p.c) := (hb.cell (by show b1 < _; omega)).trans (hc1 (i * 3) _ (by rw [← Nat.add_zero (i * 3), flatH_at StepT.cells 3 (fun _ => rfl) xs i _ hxi 0 (by omega)]; rfl))
      have d1 : wr.cell? ⟨b1, o1 + i * 3 + 1, none⟩ = some (.int .u64 (x.g : Int)) := (hb.cell (by show b1 < _; omega)).trans (by rw [Nat.add_assoc]; exact hc1 (i * 3 + 1) _ (by rw [flatH_at StepT.cells 3 (fun _ => rfl) xs i _ hxi 1 (by omega)]; rfl))
      have d2 : wr.cell? ⟨b1, o1 + i * 3 + 2, none⟩ = some (.int .i64 x.a) := (hb.cell (by show b1 < _; omega)).trans (by rw [Nat.add_assoc]; exact hc1 (i * 3 + 2) _ (by rw [flatH_at StepT.cells 3 (fun _ => rfl) xs i _ hxi 2 (by omega)]; rfl))
      have d1' : wr.cell? ⟨b1, o1 + (i * 3 + 1), none⟩ = some (.int .u64 (x.g : Int)) := by rw [← Nat.add_assoc]; exact d1
      have d2' : wr.cell? ⟨b1, o1 + (i * 3 + 2), none⟩ = some (.int .i64 x.a) := by rw [← Nat.add_assoc]; exact d2
      have hxk := HK.out x (List.mem_of_getElem? hxi)
      have him : i < n := by omega
      clear hc1 hb hxi
      go_upto_region 5 with fail
      have hba := bel_alloc (Below.refl wr.heap.size wr) (.cells #[.slice x.p.A x.p.n x.p.c, .int .u64 (x.g : Int), .int .i64 x.a] 84)
      have hs3 : SBox (wr.alloc (.cells #[.slice x.p.A x.p.n x.p.c, .int .u64 (x.g : Int), .int .i64 x.a] 84)) wr.heap.size x := heap_alloc_new wr _
      have hf3 := HF.out.later hba
      have hh3 := HH.out.later hba
      have hb3 := bel_next HB.out hba
      have hn3 : w.heap.size + 1 < wr.heap.size := HH.out.lt
      generalize wr.alloc (.cells #[.slice x.p.A x.p.n x.p.c, .int .u64 (x.g : Int), .int .i64 x.a] 84) = W3 at *
      generalize wr.heap.size = S0 at *
      clear d0 d1 d2 d1' d2' hba HF HH HB
      have hS0 : S0 < W3.heap.size := blk_lt hs3
      have z0 := hs3.c0
      by_cases hn0 : x.p.n = 0
      · have hn1 : ((0 : Int) < (x.p.n : Int)) = False := eq_false (by omega)
        have z1 := hs3.c1
        have z2 := hs3.c2
        have hch := checkH_any x.g x.a W3
        go_wp2_with fail
        refine hch.mono ?_
        rintro e W4 ⟨rfl, hb4⟩
        have hs4 := hs3.later hb4
        have hf4 := hf3.later hb4
        have hh4 := hh3.later hb4
        have hb5 := bel_next hb3 hb4
        clear hch z0 z1 z2 hs3 hf3 hh3 hb3 hb4
        have hfl : lo.flatten.length ≤ 249000 := by have := HLN.out; omega
        by_cases hok : okH x.g x.a = true
        · rw [errH_yes hok]
          obtain ⟨k1, k2, k3⟩ := okH_iff.1 hok
          obtain ⟨⟨pA, pn, pc, pl⟩, xg, xa⟩ := x
          obtain ⟨b, rfl⟩ : ∃ b : Nat, xa = (b : Int) := ⟨xa.toNat, by simp only at k2; omega⟩
          have hri : X.right = true := right_calm hf4.l HS.out HNE.out (by show ([] ++ lo.flatten).length ≤ _; rw [List.nil_append]; omega)
          have hpt := putHS X [] lo xg b W4 (HT.out.below hb5 HT.out.lt) hf4.l HS.out hri k1 hxk.g (by simp only at k3; omega) (by show ([] ++ lo.flatten).length + 127 ≤ _; rw [List.nil_append]; omega)
          have hk1 : 1 ≤ xg := k1
          have hkg : xg < 18446744073709551616 := hxk.g
          have hkb : b < 524288 := by simp only at k3; omega
          have HK1 := Lib.hid (And.intro hk1 (And.intro hkg hkb))
          have y1 := hs4.c1
          have y2 := hs4.c2
          simp only [FileT.agg, PcT.val] at hpt y1 y2 ⊢
          have hvl := hf4.v
          have j0 := hvl.1.1
          have j1 := hvl.1.2.1
          have j2 := hvl.1.2.2.1
          have j3 := hvl.1.2.2.2.1
          have j4 := hvl.1.2.2.2.2
          have k0 := hvl.2.1
          have k1 := hvl.2.2.1
          have k2 := hvl.2.2.2.1
          have k3 := hvl.2.2.2.2.1
          have k4 := hvl.2.2.2.2.2
          clear hvl hxk k1 k2 k3 hok hri hk1 hkg hkb hfl
          go_upto_region 10 with (go_at_call 16; refine hpt.mono ?_; rintro e W5 ⟨Y, rfl, hYs, hYL, hbY, hYa⟩; simp only [FileT.agg, PcT.val]; have hv5 := hf4.v.later hbY; obtain ⟨⟨m0, m1, m2, m3, m4⟩, l0, l1, l2, l3, l4⟩ := hv5)
          have hs5 := hs4.later hbY
          have hh5 := hh4.later hbY
          have hfa := FAt.set (hf4.v.later hbY) hYL (hYa w.heap.size (by show w.heap.size < W4.heap.size; have := hh4.lt; omega) hf4.a trivial)
          have HAY2 := Lib.hid (show ∀ g, g < w.heap.size + 2 → AwayF Y g from fun g hg => hYa g (by have := hh4.lt; omega) (HAY.out g hg) trivial)
          have hb6 := fbelow_set5 (a := .slice Y.F.A Y.F.n Y.F.c) (b := .slice Y.lA Y.ln Y.lc) (c := .int .i64 Y.fuse) (d := .int .i64 Y.fault) (e := .bool Y.off) (hb5.trans (hbY.mono hb5.size)) (Nat.le_refl w.heap.size)
          have hso : SBox (set5F W5 w.heap.size (.slice Y.F.A Y.F.n Y.F.c) (.slice Y.lA Y.ln Y.lc) (.int .i64 Y.fuse) (.int .i64 Y.fault) (.bool Y.off)) S0 ⟨⟨pA, pn, pc, pl⟩, xg, (b : Int)⟩ := (set5_other () (show S0 ≠ w.heap.size by omega)).trans hs5
          have hho : HBox (set5F W5 w.heap.size (.slice Y.F.A Y.F.n Y.F.c) (.slice Y.lA Y.ln Y.lc) (.int .i64 Y.fuse) (.int .i64 Y.fault) (.bool Y.off)) (w.heap.size + 1) (fG L) (fA L : Nat) := (set5_other () (by omega)).trans hh5
          unfold set5F at hfa hso hho
          clear hs4 hf4 hh4 hb5 hpt y1 y2 j0 j1 j2 j3 j4 k0 k1 k2 k3 k4 hs5 hh5 hYL hbY hYa m0 m1 m2 m3 m4 l0 l1 l2 l3 l4
          generalize ((((W5.setCell ⟨w.heap.size, 0, none⟩ (.slice Y.F.A Y.F.n Y.F.c)).setCell ⟨w.heap.size, 1, none⟩ (.slice Y.lA Y.ln Y.lc)).setCell ⟨w.heap.size, 2, none⟩ (.int .i64 Y.fuse)).setCell ⟨w.heap.size, 3, none⟩ (.int .i64 Y.fault)).setCell ⟨w.heap.size, 4, none⟩ (.bool Y.off) = W6 at *
          have z1 := hso.c1
          have z2 := hso.c2
          simp only at z1 z2
          have q0 := hho.c0
          have q1 := hho.c1
          have p0 := hho.soft 0
          have p1 := hho.soft 1
          have hhz := set2_box hho xg (b : Int)
          have hb7 := below_set2 (x := .int .u64 (xg : Int)) (y := .int .i64 (b : Int)) hb6 (show w.heap.size ≤ w.heap.size + 1 by omega)
          have hfz := hfa.other2 (show w.heap.size ≠ w.heap.size + 1 by omega) (HAY2.out _ (by omega)) (.int .u64 (xg : Int)) (.int .i64 (b : Int))
          have HLL2 := Lib.hid (show Hdr.lastH (lo ++ [Hdr.headL ([] ++ lo.flatten).length xg b]).flatten = some (xg, b, lo.flatten.length + Hdr.gapN lo.flatten.length) by
            rw [flat_snoc, List.nil_append]
            exact Hdr.last_put lo.flatten xg b HK1.out.1 HK1.out.2.1 HK1.out.2.2)
          have HNE2 := Lib.hid (show ∀ l ∈ lo ++ [Hdr.headL ([] ++ lo.flatten).length xg b], l ≠ [] by
            intro l hl
            rcases List.mem_append.1 hl with h | h
            · exact HNE.out l h
            · rw [List.mem_singleton.1 h]; exact head_ne _ _ _)
          have HLN2 := Lib.hid (show (lo ++ [Hdr.headL ([] ++ lo.flatten).length xg b]).flatten.length ≤ 8300 * (i + 1) by
            rw [flat_snoc, List.length_append, Hdr.head_len]
            have h1 := HLN.out
            have h2 : Hdr.gapN ([] ++ lo.flatten).length < 64 := by unfold Hdr.gapN; omega
            omega)
          have HS2 := Lib.hid hYs
          have HF5 := Lib.hid hfz
          have HH5 := Lib.hid (show HBox _ (w.heap.size + 1) (fG (some (xg, b, lo.flatten.length + Hdr.gapN lo.flatten.length))) (fA (some (xg, b, lo.flatten.length + Hdr.gapN lo.flatten.length)) : Nat) from hhz)
          have HB5 := Lib.hid hb7
          clear hhz hb7 hfz hfa hso hho hb6 hYs HLL HNE HLN HS
          go_wp2
          go_roundw
          case rel => exact ⟨i + 1, _, Y, some (xg, b, lo.flatten.length + Hdr.gapN lo.flatten.length), by omega, by go_num, rfl, HLL2, HF5, HS2, HNE2, HLN2, HH5, HB5, HAY2⟩
          case measure => simp [intOf]; omega
        · have hok' : okH x.g x.a = false := by simpa using hok
          rw [errH_no hok']
          have HF5 := Lib.hid hf4
          have HH5 := Lib.hid hh4
          have HB5 := Lib.hid hb5
          have HLN2 := Lib.hid (show lo.flatten.length ≤ 8300 * (i + 1) by have h1 := HLN.out; omega)
          clear hf4 hh4 hb5 hs4 hok hok' HLN hfl
          go_wp2
          go_roundw
          case rel => exact ⟨i + 1, lo, X, L, by omega, by go_num, rfl, HLL, HF5, HS, HNE, HLN2, HH5, HB5, HAY⟩
          case measure => simp [intOf]; omega
      · have hn1 : ((0 : Int) < (x.p.n : Int)) = True := eq_true (by omega)
        obtain ⟨q, hq⟩ : ∃ q, min x.p.n 300 = q := ⟨_, rfl⟩
        have hq1 : 1 ≤ q ∧ q ≤ 300 ∧ q ≤ x.p.n := by omega
        have hmq : min (x.p.n : Int) 300 = (q : Int) := by omega
        have hiq1 : (if (x.p.n : Int) < 300 then (x.p.n : Int) else 300) = (q : Int) := by split <;> omega
        have hiq2 : (if (300 : Int) < (x.p.n : Int) then 300 else (x.p.n : Int)) = (q : Int) := by split <;> omega
        have hiq3 : (if (x.p.n : Int) ≤ 300 then (x.p.n : Int) else 300) = (q : Int) := by split <;> omega
        have hiq4 : (if (300 : Int) ≤ (x.p.n : Int) then 300 else (x.p.n : Int)) = (q : Int) := by split <;> omega
        have hpo3 := (hxk.p.later hb3).more hb3.size
        have hpq : PcT.Ok W3.drew W3.drew.heap.size ⟨x.p.A, q, x.p.c, x.p.l.take q⟩ := ⟨(hpo3.here.first hq1.2.2).drew, hpo3.nil, Nat.le_trans hq1.2.2 hpo3.fits, hpo3.most⟩
        have hqc : q ≤ x.p.c := Nat.le_trans hq1.2.2 hpo3.fits
        have hql : (x.p.l.take q).length = q := by rw [List.length_take, hpo3.len]; omega
        have hlen := Fra.piece_len lo.flatten (Fra.encL (x.p.l.take q)) (by rw [Fra.encL_len, hql]; omega)
        have hfl : FAt W3.drew w.heap.size X := hf3.later (below_drewN (Below.refl _ _) 1)
        have hri : X.right = true := right_calm hf3.l HS.out HNE.out (by have := HLN.out; show ([] ++ lo.flatten).length ≤ _; rw [List.nil_append]; omega)
        have HPT := Lib.hid (putS X ⟨x.p.A, q, x.p.c, x.p.l.take q⟩ [] lo W3.drew ((HT.out.below hb3 HT.out.lt).drew) hfl.l hpq HS.out hri (by show 1 ≤ q ∧ q ≤ 4096; omega) (by have h := HLN.out; have h2 := hlen; show ([] ++ lo.flatten).length + (Fra.pieceL ([] ++ lo.flatten) (Fra.encL (x.p.l.take q))).length ≤ 524288; rw [List.nil_append]; omega))
        simp only [FileT.agg, PcT.val] at HPT
        have HV3 := Lib.hid hfl.v
        have HXA := Lib.hid hf3.a
        have HH3 := Lib.hid hh3
        have HB3 := Lib.hid hb3
        have HLEN := Lib.hid hlen
        have x0 : ∀ W, OthB w.heap.size W3 W → W.cell? ⟨S0, 0, none⟩ = some (.slice x.p.A x.p.n x.p.c) := fun W h => (h.cell hS0 (by omega)).trans z0
        clear hfl hpq hpo3 hlen hql hri hh3 hb3 hf3 hq hxk
        go_upto_region 7 with fail
        clear z0
        refine wp_region_held_drew (S := fun W => OthB w.heap.size W3 W) (by kernel_rfl) (OthB.drewN _ _ 1) (fun hHeld => ?_)
        refine rg_in 1 rfl (by kernel_rfl) (by kernel_rfl) (by kernel_rfl) (by rfl) (v := ?_) (fun _ _ _ h => h) hHeld (fun w hSw => ?_) ?_
        rotate_left
        · (try dsimp only at hSw); go_simp <;> (with_reducible rfl)
        (try simp only [Act.put, List.setIfInBounds_toArray, List.set_cons_zero, List.set_cons_succ])
        refine rg_in 2 rfl (by kernel_rfl) (by kernel_rfl) (by kernel_rfl) (by rfl) (v := ?_) (fun _ _ _ h => h) hHeld (fun w hSw => ?_) ?_
        rotate_left
        · (try dsimp only at hSw); go_simp <;> (with_reducible rfl)
        (try simp only [Act.put, List.setIfInBounds_toArray, List.set_cons_zero, List.set_cons_succ])
        refine rg_in 3 rfl (by kernel_rfl) (by kernel_rfl) (by kernel_rfl) (by rfl) (v := ?_) (fun _ _ _ h => h) hHeld (fun w hSw => ?_) ?_
        rotate_left
        · (try dsimp only at hSw); go_simp <;> (with_reducible rfl)
        (try simp only [Act.put, List.setIfInBounds_toArray, List.set_cons_zero, List.set_cons_succ])
        refine rg_in 4 rfl (by kernel_rfl) (by kernel_rfl) (by kernel_rfl) (by rfl) (v := ?_) (fun _ _ _ h => h) hHeld (fun w hSw => ?_) ?_
        rotate_left
        · (try dsimp only at hSw); go_simp <;> (with_reducible rfl)
        (try simp only [Act.put, List.setIfInBounds_toArray, List.set_cons_zero, List.set_cons_succ])
        refine rg_in 5 rfl (by kernel_rfl) (by kernel_rfl) (by kernel_rfl) (by rfl) (v := ?_) (fun _ _ _ h => h) hHeld (fun w hSw => ?_) ?_
        rotate_left
        · (try dsimp only at hSw); go_simp <;> (with_reducible rfl)
        (try simp only [Act.put, List.setIfInBounds_toArray, List.set_cons_zero, List.set_cons_succ])
        refine rg_in 6 rfl (by kernel_rfl) (by kernel_rfl) (by kernel_rfl) (by rfl) (v := ?_) (fun _ _ _ h => h) hHeld (fun w hSw => ?_) ?_
        rotate_left
        · (try dsimp only at hSw); go_simp <;> (with_reducible rfl)
        (try simp only [Act.put, List.setIfInBounds_toArray, List.set_cons_zero, List.set_cons_succ])
        refine rg_in 7 rfl (by kernel_rfl) (by kernel_rfl) (by kernel_rfl) (by rfl) (v := ?_) (fun _ _ _ h => h) hHeld (fun w hSw => ?_) ?_
        rotate_left
        · (try dsimp only at hSw); go_simp <;> (with_reducible rfl)
        (try simp only [Act.put, List.setIfInBounds_toArray, List.set_cons_zero, List.set_cons_succ])
        refine rg_do 0 rfl (by kernel_rfl) (by rfl) (fun K hK => ?_)
        have hvl := HV3.out
        have j0 := hvl.1.1
        have j1 := hvl.1.2.1
        have j2 := hvl.1.2.2.1
        have j3 := hvl.1.2.2.2.1
        have j4 := hvl.1.2.2.2.2
        have k0 := hvl.2.1
        have k1 := hvl.2.2.1
        have k2 := hvl.2.2.2.1
        have k3 := hvl.2.2.2.2.1
        have k4 := hvl.2.2.2.2.2
        go_simp
        clear hvl j0 j1 j2 j3 j4 k0 k1 k2 k3 k4
        refine hK.out _ _ hHeld (fun hHeld => ?_)
        clear hK K
        (try simp only [Act.put, List.setIfInBounds_toArray, List.set_cons_zero, List.set_cons_succ])
        refine rg_do 8 rfl (by kernel_rfl) (by rfl) (fun K hK => ?_)
        have hpt := HPT.out
        go_simp
        (go_at_call 29; (with_reducible refine hpt.mono ?_); (rintro e w108 ⟨Y, rfl, hYs, hYL, hbY, hYa⟩))
        simp only [FileT.agg, PcT.val]
        clear hpt
        refine hK.out _ _ (hHeld.next hbY) (fun hHeld => ?_)
        clear hK K
        (try simp only [Act.put, List.setIfInBounds_toArray, List.set_cons_zero, List.set_cons_succ])
        refine rg_in 9 rfl (by kernel_rfl) (by kernel_rfl) (by kernel_rfl) (by rfl) (v := ?_) (fun _ _ _ h => h) hHeld (fun w hSw => ?_) ?_
        rotate_left
        · (try dsimp only at hSw); go_simp <;> (with_reducible rfl)
        (try simp only [Act.put, List.setIfInBounds_toArray, List.set_cons_zero, List.set_cons_succ])
        refine rg_in 10 rfl (by kernel_rfl) (by kernel_rfl) (by kernel_rfl) (by rfl) (v := ?_) (fun _ _ _ h => h) hHeld (fun w hSw => ?_) ?_
        rotate_left
        · (try dsimp only at hSw); go_simp <;> (with_reducible rfl)
        (try simp only [Act.put, List.setIfInBounds_toArray, List.set_cons_zero, List.set_cons_succ])
        refine rg_in 11 rfl (by kernel_rfl) (by kernel_rfl) (by kernel_rfl) (by rfl) (v := ?_) (fun _ _ _ h => h) hHeld (fun w hSw => ?_) ?_
        rotate_left
        · (try dsimp only at hSw); go_simp <;> (with_reducible rfl)
        (try simp only [Act.put, List.setIfInBounds_toArray, List.set_cons_zero, List.set_cons_succ])
        refine rg_in 12 rfl (by kernel_rfl) (by kernel_rfl) (by kernel_rfl) (by rfl) (v := ?_) (fun _ _ _ h => h) hHeld (fun w hSw => ?_) ?_
        rotate_left
        · (try dsimp only at hSw); go_simp <;> (with_reducible rfl)
        (try simp only [Act.put, List.setIfInBounds_toArray, List.set_cons_zero, List.set_cons_succ])
        refine rg_do 13 rfl (by kernel_rfl) (by rfl) (fun K hK => ?_)
        have hvl := HV3.out.later hbY
        have j0 := hvl.1.1
        have j1 := hvl.1.2.1
        have j2 := hvl.1.2.2.1
        have j3 := hvl.1.2.2.2.1
        have j4 := hvl.1.2.2.2.2
        have k0 := hvl.2.1
        have k1 := hvl.2.2.1
        have k2 := hvl.2.2.2.1
        have k3 := hvl.2.2.2.2.1
        have k4 := hvl.2.2.2.2.2
        go_simp
        clear hvl j0 j1 j2 j3 j4 k0 k1 k2 k3 k4
        refine hK.out _ _ (((((hHeld.set 0 _).set 1 _).set 2 _).set 3 _).set 4 _) (fun hHeld => ?_)
        clear hK K
        (try simp only [Act.put, List.setIfInBounds_toArray, List.set_cons_zero, List.set_cons_succ])
        refine rg_in 14 rfl (by kernel_rfl) (by kernel_rfl) (by kernel_rfl) (by rfl) (v := ?_) (fun _ _ _ h => h) hHeld (fun w hSw => ?_) ?_
        rotate_left
        · (try dsimp only at hSw); go_simp <;> (with_reducible rfl)
        (try simp only [Act.put, List.setIfInBounds_toArray, List.set_cons_zero, List.set_cons_succ])
        refine wpAnyH_done (by kernel_rfl) ?_ _
        skip
        have hfa := FAt.set (HV3.out.later hbY) hYL (hYa w.heap.size (by show w.heap.size < W3.heap.size; omega) HXA.out)
        have HAY2 := Lib.hid (show ∀ g, g < w.heap.size + 2 → AwayF Y g from fun g hg => hYa g (by show g < W3.heap.size; omega) (HAY.out g hg))
        have hh5 := (hHeld.o (w.heap.size + 1) (by omega) (by omega)).trans HH3.out
        have hb5 := fbelow_set5 (a := .slice Y.F.A Y.F.n Y.F.c) (b := .slice Y.lA Y.ln Y.lc) (c := .int .i64 Y.fuse) (d := .int .i64 Y.fault) (e := .bool Y.off) (HB3.out.trans ((below_undrew hbY).mono HB3.out.size)) (Nat.le_refl w.heap.size)
        unfold set5F at hfa
        have HF5 := Lib.hid hfa
        have HH5 := Lib.hid (show HBox _ _ _ _ from hh5)
        have HB5 := Lib.hid hb5
        clear hfa hh5 hb5 hHeld HV3 HXA HH3 HB3 HPT hYL hYa hbY x0
        generalize ((((w108.setCell ⟨w.heap.size, 0, none⟩ (.slice Y.F.A Y.F.n Y.F.c)).setCell ⟨w.heap.size, 1, none⟩ (.slice Y.lA Y.ln Y.lc)).setCell ⟨w.heap.size, 2, none⟩ (.int .i64 Y.fuse)).setCell ⟨w.heap.size, 3, none⟩ (.int .i64 Y.fault)).setCell ⟨w.heap.size, 4, none⟩ (.bool Y.off) = W5 at *
        have HLL2 := Lib.hid (show Hdr.lastH (lo ++ [Fra.pieceL ([] ++ lo.flatten) (Fra.encL (x.p.l.take q))]).flatten = L by
          rw [flat_snoc, List.nil_append, Hdr.last_piece]
          exact HLL.out)
        have HNE2 := Lib.hid (show ∀ l ∈ lo ++ [Fra.pieceL ([] ++ lo.flatten) (Fra.encL (x.p.l.take q))], l ≠ [] by
          intro l hl
          rcases List.mem_append.1 hl with h | h
          · exact HNE.out l h
          · rw [List.mem_singleton.1 h]; exact piece_ne _ _)
        have HLN2 := Lib.hid (show (lo ++ [Fra.pieceL ([] ++ lo.flatten) (Fra.encL (x.p.l.take q))]).flatten.length ≤ 8300 * (i + 1) by
          rw [flat_snoc, List.length_append, List.nil_append]
          have h1 := HLN.out
          have h2 := HLEN.out
          omega)
        have HS2 := Lib.hid hYs
        clear hYs HLL HNE HLN HLEN HS
        go_wp2
        go_roundw
        case rel => exact ⟨i + 1, _, Y, L, by omega, by go_num, rfl, HLL2, HF5, HS2, HNE2, HLN2, HH5, HB5, HAY2⟩
        case measure => simp [intOf]; omega
    · have hlt' : ((i : Int) < (m : Int)) = False := eq_false (by omega)
      have hi2 : i = m := by omega
      subst hi2
      have hfl : lo.flatten.length ≤ 249000 := by have := HLN.out; omega
      have hf4 := HF.out
      have hri : X.right = true := right_calm hf4.l HS.out HNE.out (by show ([] ++ lo.flatten).length ≤ _; rw [List.nil_append]; omega)
      have hsy := syncF_any X wr.heap.size wr hf4.l (Nat.le_refl _) hri
      rw [HS.out, sync_calm [] lo X.long (right_rows hf4.l hri).2.1, List.nil_append] at hsy
      simp only [FileT.agg, PcT.val] at hsy
      have hvl := hf4.v
      have j0 := hvl.1.1
      have j1 := hvl.1.2.1
      have j2 := hvl.1.2.2.1
      have j3 := hvl.1.2.2.2.1
      have j4 := hvl.1.2.2.2.2
      have k0 := hvl.2.1
      have k1 := hvl.2.2.1
      have k2 := hvl.2.2.2.1
      have k3 := hvl.2.2.2.2.1
      have k4 := hvl.2.2.2.2.2
      have HHW := Lib.hid HH.out
      have hnw : w.heap.size + 1 < wr.heap.size := HH.out.lt
      clear hvl hri HS HNE HLN hlt' hlt hm30 hml HK HX HH
      go_upto_region 15 with (go_at_call 44; refine hsy.mono ?_; rintro e W5 ⟨Y, rfl, hYs, hYL, hbY, hYa⟩; simp only [FileT.agg, PcT.val]; have hv5 := hf4.v.later hbY; obtain ⟨⟨m0, m1, m2, m3, m4⟩, l0, l1, l2, l3, l4⟩ := hv5)
      have hfa := FAt.set (hf4.v.later hbY) hYL (hYa w.heap.size (by omega) hf4.a trivial)
      have hho : HBox (set5F W5 w.heap.size (.slice Y.F.A Y.F.n Y.F.c) (.slice Y.lA Y.ln Y.lc) (.int .i64 Y.fuse) (.int .i64 Y.fault) (.bool Y.off)) (w.heap.size + 1) (fG L) (fA L : Nat) := (set5_other () (by omega)).trans (HHW.out.later hbY)
      have hb6 := fbelow_set5 (a := .slice Y.F.A Y.F.n Y.F.c) (b := .slice Y.lA Y.ln Y.lc) (c := .int .i64 Y.fuse) (d := .int .i64 Y.fault) (e := .bool Y.off) (HB.out.trans (hbY.mono HB.out.size)) (Nat.le_refl w.heap.size)
      have HAY2 := Lib.hid (show ∀ g, g < w.heap.size + 2 → AwayF Y g from fun g hg => hYa g (by omega) (HAY.out g hg) trivial)
      unfold set5F at hfa hho
      clear j0 j1 j2 j3 j4 k0 k1 k2 k3 k4 hYL hbY hYa m0 m1 m2 m3 m4 l0 l1 l2 l3 l4 hsy hf4
      generalize ((((W5.setCell ⟨w.heap.size, 0, none⟩ (.slice Y.F.A Y.F.n Y.F.c)).setCell ⟨w.heap.size, 1, none⟩ (.slice Y.lA Y.ln Y.lc)).setCell ⟨w.heap.size, 2, none⟩ (.int .i64 Y.fuse)).setCell ⟨w.heap.size, 3, none⟩ (.int .i64 Y.fault)).setCell ⟨w.heap.size, 4, none⟩ (.bool Y.off) = W6 at *
      have hvl := hfa.v
      have j0 := hvl.1.1
      have j1 := hvl.1.2.1
      have j2 := hvl.1.2.2.1
      have j3 := hvl.1.2.2.2.1
      have j4 := hvl.1.2.2.2.2
      have k0 := hvl.2.1
      have k1 := hvl.2.2.1
      have k2 := hvl.2.2.2.1
      have k3 := hvl.2.2.2.2.1
      have k4 := hvl.2.2.2.2.2
      have q0 := hho.c0
      have q1 := hho.c1
      have p0 := hho.soft 0
      have p1 := hho.soft 1
      have HFA := Lib.hid hfa
      have HHO := Lib.hid hho
      have HB6 := Lib.hid hb6
      clear hvl hfa hho hb6
      go_region
      have hd := steps_done HFA.out HHO.out (HAY2.out _ (by omega)) HB6.out (Nat.le_refl _) (show w.heap.size ≤ w.heap.size + 1 by omega) (show w.heap.size ≠ w.heap.size + 1 by omega)
      have HD := Lib.hid hd
      clear hd j0 j1 j2 j3 j4 k0 k1 k2 k3 k4 q0 q1 p0 p1
      obtain ⟨W8, hW8⟩ : ∃ W, World.drew (((((((W6.setCell ⟨w.heap.size, 0, none⟩ (.slice Y.F.A Y.F.n Y.F.c)).setCell ⟨w.heap.size, 1, none⟩ (.slice Y.lA Y.ln Y.lc)).setCell ⟨w.heap.size, 2, none⟩ (.int .i64 Y.fuse)).setCell ⟨w.heap.size, 3, none⟩ (.int .i64 Y.fault)).setCell ⟨w.heap.size, 4, none⟩ (.bool Y.off)).setCell ⟨w.heap.size + 1, 0, none⟩ (.int .u64 (fG L : Nat))).setCell ⟨w.heap.size + 1, 1, none⟩ (.int .i64 (fA L : Nat))) = W := ⟨_, rfl⟩
      have hd8 := HD.out W8 hW8
      rw [hW8]
      clear hW8 HD
      obtain ⟨hfa8, hh9, hb8⟩ := hd8
      obtain ⟨⟨j0, j1, j2, j3, j4⟩, -⟩ := hfa8.v
      have q0 := hh9.c0
      have q1 := hh9.c1
      have HLF := Lib.hid hfa8.l
      have HB8 := Lib.hid hb8
      clear hfa8 hh9 hb8
      go_wp2
      have hLL := HLL.out
      subst hLL
      refine bodyPost_ret (v := .tuple #[.agg #[.slice Y.F.A Y.F.n Y.F.c, .slice Y.lA Y.ln Y.lc, .int .i64 Y.fuse, .int .i64 Y.fault, .bool Y.off], .agg #[.int .u64 (fG (Hdr.lastH lo.flatten) : Nat), .int .i64 (fA (Hdr.lastH lo.flatten) : Nat)], .bool (Hdr.lastH lo.flatten).isSome, .bool true]) ?_ rfl ⟨Y, lo.flatten, rfl, hYs, hfl, HLF.out, HB8.out, fun g hg => HAY2.out g (by omega)⟩
      simp [results, Tryd.results25, go_sem, *]
end Go.Proofs.YtlknmpnjhbdlhaaDoor
/-
  Layer 12: the walk of HeaderLast.
-/
namespace Go.Proofs.YtlknmpnjhbdlhaaDoor
open Go.RowKit
set_option linter.unusedVariables false

set_option maxRecDepth 100000 in
set_option maxHeartbeats 4000000 in
theorem headerLast_walk (w : World) (A : Option Addr) (n c : Nat) (xs : List StepT) (hx : Shows w w.heap.size 3 A n (xs.flatMap StepT.cells)) (hok : ∀ x ∈ xs, x.Ok w w.heap.size) (hA : A = none → c = 0) (hnc : n ≤ c) (hcm : c ≤ maxLen) (htab : Tab w) :
    Calls Tryd.prog 6 #[.slice A n c] w fun e w' => e = .returned (.bool true) ∧ Below w.heap.size w w' := by
  have HWK := Lib.hid (hwakes_any w htab)
  have HST := Lib.hid (fun W (h : Below w.heap.size w W) => steps_any A n c xs W (htab.below h htab.lt) ((hx.below h).more h.size) (fun x hxm => ⟨((hok x hxm).p.later h).more h.size, (hok x hxm).g, (hok x hxm).a⟩) hnc hcm)
  have HFN := Lib.hid (fun W (h : Below w.heap.size w W) (X : FileT) (l : List UInt8) (hl : LieF W W.heap.size X) (hs : X.s = ⟨l, [], -1, -1, false⟩) (hn : l.length ≤ 249000) => finds_any X l (Hdr.lastH l) W (htab.below h htab.lt) hl (by rw [← all_s, hs]; unfold FileS.all; simp) (right_calm hl hs (fun l h => (List.not_mem_nil h).elim) (by simp; omega)) rfl)
  clear hx hok hA hnc hcm htab
  go_enter Tryd.func6, Tryd.ntmps6
  go_wp2_with fail
  refine HWK.out.mono ?_
  rintro e W1 ⟨rfl, hb1⟩
  clear HWK
  go_wp2_with fail
  refine (HST.out _ hb1).mono ?_
  rintro e W2 ⟨Y, l, rfl, hYs, hn, hYL, hb2, -⟩
  simp only [FileT.agg, PcT.val]
  have hb3 := bel_next hb1 hb2
  have hfa := FAt.new hYL 37
  have hba := bel_alloc (Below.refl W2.heap.size W2) (.cells #[.slice Y.F.A Y.F.n Y.F.c, .slice Y.lA Y.ln Y.lc, .int .i64 Y.fuse, .int .i64 Y.fault, .bool Y.off] 37)
  have hbb := bel_alloc hba (.cells #[.int .u64 (fG (Hdr.lastH l) : Nat), .int .i64 (fA (Hdr.lastH l) : Nat)] 24)
  have hb4 := bel_next hb3 hbb
  have hf4 := hfa.later (bel_alloc (Below.refl _ _) (.cells #[.int .u64 (fG (Hdr.lastH l) : Nat), .int .i64 (fA (Hdr.lastH l) : Nat)] 24))
  have hh4 : HBox ((W2.alloc (.cells #[.slice Y.F.A Y.F.n Y.F.c, .slice Y.lA Y.ln Y.lc, .int .i64 Y.fuse, .int .i64 Y.fault, .bool Y.off] 37)).alloc (.cells #[.int .u64 (fG (Hdr.lastH l) : Nat), .int .i64 (fA (Hdr.lastH l) : Nat)] 24)) (W2.heap.size + 1) (fG (Hdr.lastH l)) (fA (Hdr.lastH l) : Nat) := by
    have h : HBox ((W2.alloc (.cells #[.slice Y.F.A Y.F.n Y.F.c, .slice Y.lA Y.ln Y.lc, .int .i64 Y.fuse, .int .i64 Y.fault, .bool Y.off] 37)).alloc (.cells #[.int .u64 (fG (Hdr.lastH l) : Nat), .int .i64 (fA (Hdr.lastH l) : Nat)] 24)) (W2.alloc (.cells #[.slice Y.F.A Y.F.n Y.F.c, .slice Y.lA Y.ln Y.lc, .int .i64 Y.fuse, .int .i64 Y.fault, .bool Y.off] 37)).heap.size (fG (Hdr.lastH l)) (fA (Hdr.lastH l) : Nat) := heap_alloc_new _ _
    rw [World.size_alloc] at h
    exact h
  go_upto_region 4 with fail
  generalize (W2.alloc (.cells #[.slice Y.F.A Y.F.n Y.F.c, .slice Y.lA Y.ln Y.lc, .int .i64 Y.fuse, .int .i64 Y.fault, .bool Y.off] 37)).alloc (.cells #[.int .u64 (fG (Hdr.lastH l) : Nat), .int .i64 (fA (Hdr.lastH l) : Nat)] 24) = W4 at *
  obtain ⟨⟨j0, j1, j2, j3, j4⟩, -⟩ := hf4.v
  have q0 := hh4.c0
  have q1 := hh4.c1
  have hfn := HFN.out W4 hb4 Y l hf4.l hYs hn
  simp only [FileT.agg, PcT.val] at hfn
  clear hfa hba hbb hb3 hf4 hh4 HFN HST hYs hYL hb1 hb2
  go_wp2_with fail
  refine hfn.mono ?_
  rintro e W5 ⟨rfl, hb5⟩
  have hb6 := bel_next hb4 hb5
  clear hfn j0 j1 j2 j3 j4 q0 q1
  go_wp2
  go_ret
  exact ⟨rfl, hb6⟩
end Go.Proofs.YtlknmpnjhbdlhaaDoor
