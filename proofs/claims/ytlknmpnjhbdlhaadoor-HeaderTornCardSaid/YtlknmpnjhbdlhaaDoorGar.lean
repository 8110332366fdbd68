import Derived.Test.YtlknmpnjhbdlhaaDoorGao
import Derived.Test.YtlknmpnjhbdlhaaDoorGab
import Derived.Test.YtlknmpnjhbdlhaaDoorGaq
import Derived.Test.YtlknmpnjhbdlhaaDoorGaa
import Derived.Deep.QuietTactic
/-
  Layer 12: the law's steps.
-/
namespace Go.Proofs.YtlknmpnjhbdlhaaDoor
open Go.RowKit
set_option linter.unusedVariables false

/-- The blocks other than one are as they were. -/
structure OthB (g : Nat) (w W : World) : Prop where
  size : w.heap.size ≤ W.heap.size
  o : ∀ k, k < w.heap.size → k ≠ g → W.heap[k]? = w.heap[k]?
theorem OthB.drewN (g : Nat) (w : World) (k : Nat) : OthB g w (w.drewN k) := ⟨Nat.le_refl _, fun _ _ _ => rfl⟩
theorem OthB.next {g : Nat} {w W W' : World} (h : OthB g w W) (hb : Below W.heap.size W W') : OthB g w W' := ⟨Nat.le_trans h.size hb.size, fun k hk hne => (hb.block k (Nat.lt_of_lt_of_le hk h.size)).trans (h.o k hk hne)⟩
theorem OthB.set {g : Nat} {w W : World} (h : OthB g w W) (i : Nat) (u : Value) : OthB g w (W.setCell ⟨g, i, none⟩ u) := ⟨by rw [size_set]; exact h.size, fun k hk hne => (Below.heap_setCell _ _ _ _ hne).trans (h.o k hk hne)⟩
theorem OthB.cell {g : Nat} {w W : World} (h : OthB g w W) {k i : Nat} (hk : k < w.heap.size) (hne : k ≠ g) : W.cell? ⟨k, i, none⟩ = w.cell? ⟨k, i, none⟩ := World.cell?_of_block (h.o k hk hne)
theorem set5_other {W : World} {g k : Nat} (u : Unit) (h : k ≠ g) {a b c d e : Value} : (set5F W g a b c d e).heap[k]? = W.heap[k]? := by
  unfold set5F
  rw [Below.heap_setCell _ _ _ _ h, Below.heap_setCell _ _ _ _ h, Below.heap_setCell _ _ _ _ h, Below.heap_setCell _ _ _ _ h, Below.heap_setCell _ _ _ _ h]
theorem FAt.other2 {W : World} {g k : Nat} {X : FileT} (h : FAt W g X) (hk : g ≠ k) (ha : AwayF X k) (x y : Value) : FAt ((W.setCell ⟨k, 0, none⟩ x).setCell ⟨k, 1, none⟩ y) g X :=
  ⟨(h.v.other x hk).other y hk, by rw [size_set, size_set]; exact (h.l.setAway ha 0 x).setAway ha 1 y, h.a⟩
/-- A step's variable. -/
def SBox (w : World) (h : Nat) (x : StepT) : Prop := w.heap[h]? = some (.cells #[.slice x.p.A x.p.n x.p.c, .int .u64 (x.g : Int), .int .i64 x.a] 84 (0, 0))
theorem SBox.later {w w' : World} {h : Nat} {x : StepT} (hb : SBox w h x) (hl : Below w.heap.size w w') : SBox w' h x := blk_later hb hl
theorem SBox.c0 {w : World} {h : Nat} {x : StepT} (hb : SBox w h x) : w.cell? ⟨h, 0, none⟩ = some (.slice x.p.A x.p.n x.p.c) := (cell_of_row _ _ 0 _ _ _ hb).trans rfl
theorem SBox.c1 {w : World} {h : Nat} {x : StepT} (hb : SBox w h x) : w.cell? ⟨h, 1, none⟩ = some (.int .u64 (x.g : Int)) := (cell_of_row _ _ 1 _ _ _ hb).trans rfl
theorem SBox.c2 {w : World} {h : Nat} {x : StepT} (hb : SBox w h x) : w.cell? ⟨h, 2, none⟩ = some (.int .i64 x.a) := (cell_of_row _ _ 2 _ _ _ hb).trans rfl
theorem flat_snoc (lo : List (List UInt8)) (P : List UInt8) : (lo ++ [P]).flatten = lo.flatten ++ P := by simp
theorem piece_ne (all b : List UInt8) : Fra.pieceL all (Fra.encL b) ≠ [] := fun e => by
  have h1 := (Fra.layP_ge (Fra.encL b) (Fra.atN all)).1
  have h3 := Fra.encL_len b
  have h2 : (Fra.aheadL all).length + (Fra.layP (Fra.atN all) (Fra.encL b)).length = 0 := by
    have := congrArg List.length e
    unfold Fra.pieceL at this
    rwa [List.length_append] at this
  omega
theorem sync_calm (fi : List UInt8) (lo : List (List UInt8)) (n : Nat) (h : n ≤ 524288) : FileS.sync ⟨fi, lo, -1, -1, false⟩ n = (⟨fi ++ lo.flatten, [], -1, -1, false⟩, 0) := by
  have hask : FileS.asked ⟨fi, lo, -1, -1, false⟩ n 0 = (⟨fi, lo, -1, -1, false⟩, 0) := by
    have h' : ¬ 524288 < n + 0 := by omega
    unfold FileS.asked
    rw [if_neg (show ¬ (false = true) by decide), if_neg h', if_neg (show ¬ ((-1 : Int) = 0) by decide)]
    rfl
  unfold FileS.sync
  rw [hask, if_pos rfl]
  rfl
theorem FAt.drew {W : World} {g : Nat} {X : FileT} (h : FAt W g X) : FAt W.drew g X := h.later (below_drewN (Below.refl _ _) 1)
theorem HBox.drew {w : World} {h g : Nat} {a : Int} (hb : HBox w h g a) : HBox w.drew h g a := hb
theorem below_drew1 {B : Nat} {w w' : World} (h : Below B w w') : Below B w w'.drew := below_drewN h 1
/-- The results are stored where they lie. -/
theorem steps_done {w W6 : World} {Y : FileT} {n h g a : Nat} (hf : FAt W6 n Y) (hh : HBox W6 h g (a : Nat)) (ha : AwayF Y h) (hb : Below w.heap.size w W6) (hn : w.heap.size ≤ n) (hw : w.heap.size ≤ h) (hne : n ≠ h) : ∀ W, World.drew (((((((W6.setCell ⟨n, 0, none⟩ (.slice Y.F.A Y.F.n Y.F.c)).setCell ⟨n, 1, none⟩ (.slice Y.lA Y.ln Y.lc)).setCell ⟨n, 2, none⟩ (.int .i64 Y.fuse)).setCell ⟨n, 3, none⟩ (.int .i64 Y.fault)).setCell ⟨n, 4, none⟩ (.bool Y.off)).setCell ⟨h, 0, none⟩ (.int .u64 (g : Nat))).setCell ⟨h, 1, none⟩ (.int .i64 (a : Nat))) = W →
    FAt W n Y ∧ HBox W h g (a : Nat) ∧ Below w.heap.size w W := by
  rintro W rfl
  have hfa7 := FAt.set hf.v hf.l hf.a
  unfold set5F at hfa7
  have hfa8 := (hfa7.other2 hne ha (.int .u64 (g : Nat)) (.int .i64 (a : Nat))).drew
  have hh7 : HBox (set5F W6 n (.slice Y.F.A Y.F.n Y.F.c) (.slice Y.lA Y.ln Y.lc) (.int .i64 Y.fuse) (.int .i64 Y.fault) (.bool Y.off)) h g (a : Nat) := (set5_other () (fun e => hne e.symm)).trans hh
  unfold set5F at hh7
  have hh8 := set2_box hh7 g (a : Nat)
  have hb7 := fbelow_set5 (a := .slice Y.F.A Y.F.n Y.F.c) (b := .slice Y.lA Y.ln Y.lc) (c := .int .i64 Y.fuse) (d := .int .i64 Y.fault) (e := .bool Y.off) hb hn
  unfold set5F at hb7
  have hb8 := below_drew1 (below_set2 (x := .int .u64 (g : Nat)) (y := .int .i64 (a : Nat)) hb7 hw)
  exact ⟨hfa8, hh8.drew, hb8⟩
/-- What steps give. -/
def StepsP (w : World) (e : Ending) (w' : World) : Prop :=
  ∃ (Y : FileT) (l : List UInt8), e = .returned (.tuple #[Y.agg, .agg #[.int .u64 (fG (Hdr.lastH l) : Nat), .int .i64 (fA (Hdr.lastH l) : Nat)], .bool (Hdr.lastH l).isSome, .bool true]) ∧ Y.s = ⟨l, [], -1, -1, false⟩ ∧ l.length ≤ 249000 ∧ LieF w' w'.heap.size Y ∧ Below w.heap.size w w' ∧ (∀ g, g < w.heap.size → AwayF Y g)
set_option maxRecDepth 100000 in
set_option maxHeartbeats 8000000 in
theorem steps_any (A : Option Addr) (n c : Nat) (xs : List StepT) (w : World) (htab : Tab w) (hx : Shows w w.heap.size 3 A n (xs.flatMap StepT.cells)) (hok : ∀ x ∈ xs, x.Ok w w.heap.size) (hnc : n ≤ c) (hcm : c ≤ maxLen) :
    Calls Tryd.prog 25 #[.slice A n c] w (StepsP w) := by
  obtain ⟨m, hm⟩ : ∃ m, min n 30 = m := ⟨_, rfl⟩
  have hmn : min (n : Int) 30 = (m : Int) := by omega
  have hif1 : (if (n : Int) < 30 then (n : Int) else 30) = (m : Int) := by split <;> omega
  have hif2 : (if (30 : Int) < (n : Int) then 30 else (n : Int)) = (m : Int) := by split <;> omega
  have hif3 : (if (n : Int) ≤ 30 then (n : Int) else 30) = (m : Int) := by split <;> omega
  have hif4 : (if (30 : Int) ≤ (n : Int) then 30 else (n : Int)) = (m : Int) := by split <;> omega
  have hm30 : m ≤ 30 := by omega
  have hml : m ≤ n := by omega
  have hxl : xs.length = n := by have h := hx.1; rw [flatH_len StepT.cells 3 (fun _ => rfl)] at h; omega
  have HX := Lib.hid hx
  have HK := Lib.hid hok
  have HXL := Lib.hid hxl
  have HT := Lib.hid htab
  unfold maxLen at hcm
  clear hx hok hxl htab hm
  go_enter Tryd.func25, Tryd.ntmps25
  go_wp2_with fail
  refine (newF_any _).mono ?_
  rintro e W1 ⟨rfl, hb0⟩
  have hv0 : FVar ((w.alloc (.cells #[.slice none 0 0, .slice none 0 0, .int .i64 0, .int .i64 0, .bool false] 37)).alloc (.cells #[.int .u64 0, .int .i64 0] 24)) w.heap.size (.slice none 0 0) (.slice none 0 0) (.int .i64 0) (.int .i64 0) (.bool false) := (FVar.new w _ _ _ _ _ _).later (bel_alloc (Below.refl _ _) _)
  have hh0 : HBox ((w.alloc (.cells #[.slice none 0 0, .slice none 0 0, .int .i64 0, .int .i64 0, .bool false] 37)).alloc (.cells #[.int .u64 0, .int .i64 0] 24)) (w.heap.size + 1) 0 0 := by
    have h : HBox ((w.alloc (.cells #[.slice none 0 0, .slice none 0 0, .int .i64 0, .int .i64 0, .bool false] 37)).alloc (.cells #[.int .u64 0, .int .i64 0] 24)) (w.alloc (.cells #[.slice none 0 0, .slice none 0 0, .int .i64 0, .int .i64 0, .bool false] 37)).heap.size 0 0 := heap_alloc_new _ _
    rw [World.size_alloc] at h
    exact h
  have hb1 := bel_next (bel_alloc (bel_alloc (Below.refl w.heap.size w) (.cells #[.slice none 0 0, .slice none 0 0, .int .i64 0, .int .i64 0, .bool false] 37)) (.cells #[.int .u64 0, .int .i64 0] 24)) hb0
  have hv1 := hv0.later hb0
  have hh1 := hh0.later hb0
  have hf1 := FAt.set hv1 (newF_lies W1) (newF_away w.heap.size)
  have hh2 : HBox (set5F W1 w.heap.size (.slice none 0 0) (.slice none 0 0) (.int .i64 (-1)) (.int .i64 (-1)) (.bool false)) (w.heap.size + 1) 0 0 := by
    unfold set5F
    have ne : w.heap.size + 1 ≠ w.heap.size := by omega
    exact (Below.heap_setCell _ _ _ _ ne).trans ((Below.heap_setCell _ _ _ _ ne).trans ((Below.heap_setCell _ _ _ _ ne).trans ((Below.heap_setCell _ _ _ _ ne).trans ((Below.heap_setCell _ _ _ _ ne).trans hh1))))
  have hb2 : Below w.heap.size w (set5F W1 w.heap.size (.slice none 0 0) (.slice none 0 0) (.int .i64 (-1)) (.int .i64 (-1)) (.bool false)) := fbelow_set5 hb1 (Nat.le_refl _)
  obtain ⟨⟨j0, j1, j2, j3, j4⟩, k0, k1, k2, k3, k4⟩ := hv1
  have hf2 : FAt (set5F W1 w.heap.size (.slice none 0 0) (.slice none 0 0) (.int .i64 (-1)) (.int .i64 (-1)) (.bool false)) w.heap.size newF := hf1
  unfold set5F at hf2 hh2 hb2
  clear hb0 hb1 hv0 hh0 hh1 hf1
  go_upto_region 2 with fail
  generalize ((((W1.setCell ⟨w.heap.size, 0, none⟩ (.slice none 0 0)).setCell ⟨w.heap.size, 1, none⟩ (.slice none 0 0)).setCell ⟨w.heap.size, 2, none⟩ (.int .i64 (-1))).setCell ⟨w.heap.size, 3, none⟩ (.int .i64 (-1))).setCell ⟨w.heap.size, 4, none⟩ (.bool false) = W2 at *
  clear j0 j1 j2 j3 j4 k0 k1 k2 k3 k4
  have HF2 := Lib.hid hf2
  have HH2 := Lib.hid hh2
  have HB2 := Lib.hid hb2
  clear hf2 hh2 hb2
  go_wp2_with fail
  go_loopw [4, 17] (fun tv iv wr => ∃ (i : Nat) (lo : List (List UInt8)) (X : FileT) (L : Option (Nat × Nat × Nat)), i ≤ m ∧ iv = .int .i64 (i : Nat) ∧ tv = .bool L.isSome ∧ Hid (Hdr.lastH lo.flatten = L) ∧ Hid (FAt wr w.heap.size X) ∧ Hid (X.s = ⟨[], lo, -1, -1, false⟩) ∧ Hid (∀ l ∈ lo, l ≠ []) ∧ Hid (lo.flatten.length ≤ 8300 * i) ∧ Hid (HBox wr (w.heap.size + 1) (fG L) (fA L : Nat)) ∧ Hid (Below w.heap.size w wr) ∧ Hid (∀ g, g < w.heap.size + 2 → AwayF X g)) (fun _ iv _ => m - (intOf iv).toNat)
  case atStart => exact ⟨0, [], newF, none, Nat.zero_le _, rfl, rfl, Lib.hid rfl, HF2, Lib.hid rfl, Lib.hid (fun l h => (List.not_mem_nil h).elim), Lib.hid (Nat.zero_le _), HH2, HB2, Lib.hid (fun g _ => newF_away g)⟩
  case round =>
    obtain ⟨i, lo, X, L, hi, rfl, rfl, HLL, HF, HS, HNE, HLN, HH, HB, HAY⟩ := hrel
    clear HF2 HH2 HB2 hmn hif1 hif2 hif3 hif4
    by_cases hlt : i < m
    · have hlt' : ((i : Int) < (m : Int)) = True := eq_true (by omega)
      obtain ⟨b1, o1, rfl, hb1, hc1⟩ := HX.out.2 (by omega)
      obtain ⟨x, hxi⟩ : ∃ x, xs[i]? = some x := ⟨_, List.getElem?_eq_getElem (by rw [HXL.out]; omega)⟩
      have hb := HB.out
      have d0 : wr.cell? ⟨b1, o1 + i * 3, none⟩ = some (.slice x.p.A x.p.n x.p.c) := (hb.cell (by show b1 < _; omega)).trans (hc1 (i * 3) _ (by rw [← Nat.add_zero (i * 3), flatH_at StepT.cells 3 (fun _ => rfl) xs i _ hxi 0 (by omega)]; rfl))
      have d1 : wr.cell? ⟨b1, o1 + i * 3 + 1, none⟩ = some (.int .u64 (x.g : Int)) := (hb.cell (by show b1 < _; omega)).trans (by rw [Nat.add_assoc]; exact hc1 (i * 3 + 1) _ (by rw [flatH_at StepT.cells 3 (fun _ => rfl) xs i _ hxi 1 (by omega)]; rfl))
      have d2 : wr.cell? ⟨b1, o1 + i * 3 + 2, none⟩ = some (.int .i64 x.a) := (hb.cell (by show b1 < _; omega)).trans (by rw [Nat.add_assoc]; exact hc1 (i * 3 + 2) _ (by rw [flatH_at StepT.cells 3 (fun _ => rfl) xs i _ hxi 2 (by omega)]; rfl))
      have d1' : wr.cell? ⟨b1, o1 + (i * 3 + 1), none⟩ = some (.int .u64 (x.g : Int)) := by rw [← Nat.add_assoc]; exact d1
      have d2' : wr.cell? ⟨b1, o1 + (i * 3 + 2), none⟩ = some (.int .i64 x.a) := by rw [← Nat.add_assoc]; exact d2
      have hxk := HK.out x (List.mem_of_getElem? hxi)
      have him : i < n := by omega
      clear hc1 hb hxi
      go_upto_region 5 with fail
      have hba := bel_alloc (Below.refl wr.heap.size wr) (.cells #[.slice x.p.A x.p.n x.p.c, .int .u64 (x.g : Int), .int .i64 x.a] 84)
      have hs3 : SBox (wr.alloc (.cells #[.slice x.p.A x.p.n x.p.c, .int .u64 (x.g : Int), .int .i64 x.a] 84)) wr.heap.size x := heap_alloc_new wr _
      have hf3 := HF.out.later hba
      have hh3 := HH.out.later hba
      have hb3 := bel_next HB.out hba
      have hn3 : w.heap.size + 1 < wr.heap.size := HH.out.lt
      generalize wr.alloc (.cells #[.slice x.p.A x.p.n x.p.c, .int .u64 (x.g : Int), .int .i64 x.a] 84) = W3 at *
      generalize wr.heap.size = S0 at *
      clear d0 d1 d2 d1' d2' hba HF HH HB
      have hS0 : S0 < W3.heap.size := blk_lt hs3
      have z0 := hs3.c0
      by_cases hn0 : x.p.n = 0
      · have hn1 : ((0 : Int) < (x.p.n : Int)) = False := eq_false (by omega)
        have z1 := hs3.c1
        have z2 := hs3.c2
        have hch := checkH_any x.g x.a W3
        go_wp2_with fail
        refine hch.mono ?_
        rintro e W4 ⟨rfl, hb4⟩
        have hs4 := hs3.later hb4
        have hf4 := hf3.later hb4
        have hh4 := hh3.later hb4
        have hb5 := bel_next hb3 hb4
        clear hch z0 z1 z2 hs3 hf3 hh3 hb3 hb4
        have hfl : lo.flatten.length ≤ 249000 := by have := HLN.out; omega
        by_cases hok : okH x.g x.a = true
        · rw [errH_yes hok]
          obtain ⟨k1, k2, k3⟩ := okH_iff.1 hok
          obtain ⟨⟨pA, pn, pc, pl⟩, xg, xa⟩ := x
          obtain ⟨b, rfl⟩ : ∃ b : Nat, xa = (b : Int) := ⟨xa.toNat, by simp only at k2; omega⟩
          have hri : X.right = true := right_calm hf4.l HS.out HNE.out (by show ([] ++ lo.flatten).length ≤ _; rw [List.nil_append]; omega)
          have hpt := putHS X [] lo xg b W4 (HT.out.below hb5 HT.out.lt) hf4.l HS.out hri k1 hxk.g (by simp only at k3; omega) (by show ([] ++ lo.flatten).length + 127 ≤ _; rw [List.nil_append]; omega)
          have hk1 : 1 ≤ xg := k1
          have hkg : xg < 18446744073709551616 := hxk.g
          have hkb : b < 524288 := by simp only at k3; omega
          have HK1 := Lib.hid (And.intro hk1 (And.intro hkg hkb))
          have y1 := hs4.c1
          have y2 := hs4.c2
          simp only [FileT.agg, PcT.val] at hpt y1 y2 ⊢
          have hvl := hf4.v
          have j0 := hvl.1.1
          have j1 := hvl.1.2.1
          have j2 := hvl.1.2.2.1
          have j3 := hvl.1.2.2.2.1
          have j4 := hvl.1.2.2.2.2
          have k0 := hvl.2.1
          have k1 := hvl.2.2.1
          have k2 := hvl.2.2.2.1
          have k3 := hvl.2.2.2.2.1
          have k4 := hvl.2.2.2.2.2
          clear hvl hxk k1 k2 k3 hok hri hk1 hkg hkb hfl
          go_upto_region 10 with (go_at_call 16; refine hpt.mono ?_; rintro e W5 ⟨Y, rfl, hYs, hYL, hbY, hYa⟩; simp only [FileT.agg, PcT.val]; have hv5 := hf4.v.later hbY; obtain ⟨⟨m0, m1, m2, m3, m4⟩, l0, l1, l2, l3, l4⟩ := hv5)
          have hs5 := hs4.later hbY
          have hh5 := hh4.later hbY
          have hfa := FAt.set (hf4.v.later hbY) hYL (hYa w.heap.size (by show w.heap.size < W4.heap.size; have := hh4.lt; omega) hf4.a trivial)
          have HAY2 := Lib.hid (show ∀ g, g < w.heap.size + 2 → AwayF Y g from fun g hg => hYa g (by have := hh4.lt; omega) (HAY.out g hg) trivial)
          have hb6 := fbelow_set5 (a := .slice Y.F.A Y.F.n Y.F.c) (b := .slice Y.lA Y.ln Y.lc) (c := .int .i64 Y.fuse) (d := .int .i64 Y.fault) (e := .bool Y.off) (hb5.trans (hbY.mono hb5.size)) (Nat.le_refl w.heap.size)
          have hso : SBox (set5F W5 w.heap.size (.slice Y.F.A Y.F.n Y.F.c) (.slice Y.lA Y.ln Y.lc) (.int .i64 Y.fuse) (.int .i64 Y.fault) (.bool Y.off)) S0 ⟨⟨pA, pn, pc, pl⟩, xg, (b : Int)⟩ := (set5_other () (show S0 ≠ w.heap.size by omega)).trans hs5
          have hho : HBox (set5F W5 w.heap.size (.slice Y.F.A Y.F.n Y.F.c) (.slice Y.lA Y.ln Y.lc) (.int .i64 Y.fuse) (.int .i64 Y.fault) (.bool Y.off)) (w.heap.size + 1) (fG L) (fA L : Nat) := (set5_other () (by omega)).trans hh5
          unfold set5F at hfa hso hho
          clear hs4 hf4 hh4 hb5 hpt y1 y2 j0 j1 j2 j3 j4 k0 k1 k2 k3 k4 hs5 hh5 hYL hbY hYa m0 m1 m2 m3 m4 l0 l1 l2 l3 l4
          generalize ((((W5.setCell ⟨w.heap.size, 0, none⟩ (.slice Y.F.A Y.F.n Y.F.c)).setCell ⟨w.heap.size, 1, none⟩ (.slice Y.lA Y.ln Y.lc)).setCell ⟨w.heap.size, 2, none⟩ (.int .i64 Y.fuse)).setCell ⟨w.heap.size, 3, none⟩ (.int .i64 Y.fault)).setCell ⟨w.heap.size, 4, none⟩ (.bool Y.off) = W6 at *
          have z1 := hso.c1
          have z2 := hso.c2
          simp only at z1 z2
          have q0 := hho.c0
          have q1 := hho.c1
          have p0 := hho.soft 0
          have p1 := hho.soft 1
          have hhz := set2_box hho xg (b : Int)
          have hb7 := below_set2 (x := .int .u64 (xg : Int)) (y := .int .i64 (b : Int)) hb6 (show w.heap.size ≤ w.heap.size + 1 by omega)
          have hfz := hfa.other2 (show w.heap.size ≠ w.heap.size + 1 by omega) (HAY2.out _ (by omega)) (.int .u64 (xg : Int)) (.int .i64 (b : Int))
          have HLL2 := Lib.hid (show Hdr.lastH (lo ++ [Hdr.headL ([] ++ lo.flatten).length xg b]).flatten = some (xg, b, lo.flatten.length + Hdr.gapN lo.flatten.length) by
            rw [flat_snoc, List.nil_append]
            exact Hdr.last_put lo.flatten xg b HK1.out.1 HK1.out.2.1 HK1.out.2.2)
          have HNE2 := Lib.hid (show ∀ l ∈ lo ++ [Hdr.headL ([] ++ lo.flatten).length xg b], l ≠ [] by
            intro l hl
            rcases List.mem_append.1 hl with h | h
            · exact HNE.out l h
            · rw [List.mem_singleton.1 h]; exact head_ne _ _ _)
          have HLN2 := Lib.hid (show (lo ++ [Hdr.headL ([] ++ lo.flatten).length xg b]).flatten.length ≤ 8300 * (i + 1) by
            rw [flat_snoc, List.length_append, Hdr.head_len]
            have h1 := HLN.out
            have h2 : Hdr.gapN ([] ++ lo.flatten).length < 64 := by unfold Hdr.gapN; omega
            omega)
          have HS2 := Lib.hid hYs
          have HF5 := Lib.hid hfz
          have HH5 := Lib.hid (show HBox _ (w.heap.size + 1) (fG (some (xg, b, lo.flatten.length + Hdr.gapN lo.flatten.length))) (fA (some (xg, b, lo.flatten.length + Hdr.gapN lo.flatten.length)) : Nat) from hhz)
          have HB5 := Lib.hid hb7
          clear hhz hb7 hfz hfa hso hho hb6 hYs HLL HNE HLN HS
          go_wp2
          go_roundw
          case rel => exact ⟨i + 1, _, Y, some (xg, b, lo.flatten.length + Hdr.gapN lo.flatten.length), by omega, by go_num, rfl, HLL2, HF5, HS2, HNE2, HLN2, HH5, HB5, HAY2⟩
          case measure => simp [intOf]; omega
        · have hok' : okH x.g x.a = false := by simpa using hok
          rw [errH_no hok']
          have HF5 := Lib.hid hf4
          have HH5 := Lib.hid hh4
          have HB5 := Lib.hid hb5
          have HLN2 := Lib.hid (show lo.flatten.length ≤ 8300 * (i + 1) by have h1 := HLN.out; omega)
          clear hf4 hh4 hb5 hs4 hok hok' HLN hfl
          go_wp2
          go_roundw
          case rel => exact ⟨i + 1, lo, X, L, by omega, by go_num, rfl, HLL, HF5, HS, HNE, HLN2, HH5, HB5, HAY⟩
          case measure => simp [intOf]; omega
      · have hn1 : ((0 : Int) < (x.p.n : Int)) = True := eq_true (by omega)
        obtain ⟨q, hq⟩ : ∃ q, min x.p.n 300 = q := ⟨_, rfl⟩
        have hq1 : 1 ≤ q ∧ q ≤ 300 ∧ q ≤ x.p.n := by omega
        have hmq : min (x.p.n : Int) 300 = (q : Int) := by omega
        have hiq1 : (if (x.p.n : Int) < 300 then (x.p.n : Int) else 300) = (q : Int) := by split <;> omega
        have hiq2 : (if (300 : Int) < (x.p.n : Int) then 300 else (x.p.n : Int)) = (q : Int) := by split <;> omega
        have hiq3 : (if (x.p.n : Int) ≤ 300 then (x.p.n : Int) else 300) = (q : Int) := by split <;> omega
        have hiq4 : (if (300 : Int) ≤ (x.p.n : Int) then 300 else (x.p.n : Int)) = (q : Int) := by split <;> omega
        have hpo3 := (hxk.p.later hb3).more hb3.size
        have hpq : PcT.Ok W3.drew W3.drew.heap.size ⟨x.p.A, q, x.p.c, x.p.l.take q⟩ := ⟨(hpo3.here.first hq1.2.2).drew, hpo3.nil, Nat.le_trans hq1.2.2 hpo3.fits, hpo3.most⟩
        have hqc : q ≤ x.p.c := Nat.le_trans hq1.2.2 hpo3.fits
        have hql : (x.p.l.take q).length = q := by rw [List.length_take, hpo3.len]; omega
        have hlen := Fra.piece_len lo.flatten (Fra.encL (x.p.l.take q)) (by rw [Fra.encL_len, hql]; omega)
        have hfl : FAt W3.drew w.heap.size X := hf3.later (below_drewN (Below.refl _ _) 1)
        have hri : X.right = true := right_calm hf3.l HS.out HNE.out (by have := HLN.out; show ([] ++ lo.flatten).length ≤ _; rw [List.nil_append]; omega)
        have HPT := Lib.hid (putS X ⟨x.p.A, q, x.p.c, x.p.l.take q⟩ [] lo W3.drew ((HT.out.below hb3 HT.out.lt).drew) hfl.l hpq HS.out hri (by show 1 ≤ q ∧ q ≤ 4096; omega) (by have h := HLN.out; have h2 := hlen; show ([] ++ lo.flatten).length + (Fra.pieceL ([] ++ lo.flatten) (Fra.encL (x.p.l.take q))).length ≤ 524288; rw [List.nil_append]; omega))
        simp only [FileT.agg, PcT.val] at HPT
        have HV3 := Lib.hid hfl.v
        have HXA := Lib.hid hf3.a
        have HH3 := Lib.hid hh3
        have HB3 := Lib.hid hb3
        have HLEN := Lib.hid hlen
        have x0 : ∀ W, OthB w.heap.size W3 W → W.cell? ⟨S0, 0, none⟩ = some (.slice x.p.A x.p.n x.p.c) := fun W h => (h.cell hS0 (by omega)).trans z0
        clear hfl hpq hpo3 hlen hql hri hh3 hb3 hf3 hq hxk
        go_upto_region 7 with fail
        clear z0
        refine wp_region_held_drew (S := fun W => OthB w.heap.size W3 W) (by kernel_rfl) (OthB.drewN _ _ 1) (fun hHeld => ?_)
        refine rg_in 1 rfl (by kernel_rfl) (by kernel_rfl) (by kernel_rfl) (by rfl) (v := ?_) (fun _ _ _ h => h) hHeld (fun w hSw => ?_) ?_
        rotate_left
        · (try dsimp only at hSw); go_simp <;> (with_reducible rfl)
        (try simp only [Act.put, List.setIfInBounds_toArray, List.set_cons_zero, List.set_cons_succ])
        refine rg_in 2 rfl (by kernel_rfl) (by kernel_rfl) (by kernel_rfl) (by rfl) (v := ?_) (fun _ _ _ h => h) hHeld (fun w hSw => ?_) ?_
        rotate_left
        · (try dsimp only at hSw); go_simp <;> (with_reducible rfl)
        (try simp only [Act.put, List.setIfInBounds_toArray, List.set_cons_zero, List.set_cons_succ])
        refine rg_in 3 rfl (by kernel_rfl) (by kernel_rfl) (by kernel_rfl) (by rfl) (v := ?_) (fun _ _ _ h => h) hHeld (fun w hSw => ?_) ?_
        rotate_left
        · (try dsimp only at hSw); go_simp <;> (with_reducible rfl)
        (try simp only [Act.put, List.setIfInBounds_toArray, List.set_cons_zero, List.set_cons_succ])
        refine rg_in 4 rfl (by kernel_rfl) (by kernel_rfl) (by kernel_rfl) (by rfl) (v := ?_) (fun _ _ _ h => h) hHeld (fun w hSw => ?_) ?_
        rotate_left
        · (try dsimp only at hSw); go_simp <;> (with_reducible rfl)
        (try simp only [Act.put, List.setIfInBounds_toArray, List.set_cons_zero, List.set_cons_succ])
        refine rg_in 5 rfl (by kernel_rfl) (by kernel_rfl) (by kernel_rfl) (by rfl) (v := ?_) (fun _ _ _ h => h) hHeld (fun w hSw => ?_) ?_
        rotate_left
        · (try dsimp only at hSw); go_simp <;> (with_reducible rfl)
        (try simp only [Act.put, List.setIfInBounds_toArray, List.set_cons_zero, List.set_cons_succ])
        refine rg_in 6 rfl (by kernel_rfl) (by kernel_rfl) (by kernel_rfl) (by rfl) (v := ?_) (fun _ _ _ h => h) hHeld (fun w hSw => ?_) ?_
        rotate_left
        · (try dsimp only at hSw); go_simp <;> (with_reducible rfl)
        (try simp only [Act.put, List.setIfInBounds_toArray, List.set_cons_zero, List.set_cons_succ])
        refine rg_in 7 rfl (by kernel_rfl) (by kernel_rfl) (by kernel_rfl) (by rfl) (v := ?_) (fun _ _ _ h => h) hHeld (fun w hSw => ?_) ?_
        rotate_left
        · (try dsimp only at hSw); go_simp <;> (with_reducible rfl)
        (try simp only [Act.put, List.setIfInBounds_toArray, List.set_cons_zero, List.set_cons_succ])
        refine rg_do 0 rfl (by kernel_rfl) (by rfl) (fun K hK => ?_)
        have hvl := HV3.out
        have j0 := hvl.1.1
        have j1 := hvl.1.2.1
        have j2 := hvl.1.2.2.1
        have j3 := hvl.1.2.2.2.1
        have j4 := hvl.1.2.2.2.2
        have k0 := hvl.2.1
        have k1 := hvl.2.2.1
        have k2 := hvl.2.2.2.1
        have k3 := hvl.2.2.2.2.1
        have k4 := hvl.2.2.2.2.2
        go_simp
        clear hvl j0 j1 j2 j3 j4 k0 k1 k2 k3 k4
        refine hK.out _ _ hHeld (fun hHeld => ?_)
        clear hK K
        (try simp only [Act.put, List.setIfInBounds_toArray, List.set_cons_zero, List.set_cons_succ])
        refine rg_do 8 rfl (by kernel_rfl) (by rfl) (fun K hK => ?_)
        have hpt := HPT.out
        go_simp
        (go_at_call 29; (with_reducible refine hpt.mono ?_); (rintro e w108 ⟨Y, rfl, hYs, hYL, hbY, hYa⟩))
        simp only [FileT.agg, PcT.val]
        clear hpt
        refine hK.out _ _ (hHeld.next hbY) (fun hHeld => ?_)
        clear hK K
        (try simp only [Act.put, List.setIfInBounds_toArray, List.set_cons_zero, List.set_cons_succ])
        refine rg_in 9 rfl (by kernel_rfl) (by kernel_rfl) (by kernel_rfl) (by rfl) (v := ?_) (fun _ _ _ h => h) hHeld (fun w hSw => ?_) ?_
        rotate_left
        · (try dsimp only at hSw); go_simp <;> (with_reducible rfl)
        (try simp only [Act.put, List.setIfInBounds_toArray, List.set_cons_zero, List.set_cons_succ])
        refine rg_in 10 rfl (by kernel_rfl) (by kernel_rfl) (by kernel_rfl) (by rfl) (v := ?_) (fun _ _ _ h => h) hHeld (fun w hSw => ?_) ?_
        rotate_left
        · (try dsimp only at hSw); go_simp <;> (with_reducible rfl)
        (try simp only [Act.put, List.setIfInBounds_toArray, List.set_cons_zero, List.set_cons_succ])
        refine rg_in 11 rfl (by kernel_rfl) (by kernel_rfl) (by kernel_rfl) (by rfl) (v := ?_) (fun _ _ _ h => h) hHeld (fun w hSw => ?_) ?_
        rotate_left
        · (try dsimp only at hSw); go_simp <;> (with_reducible rfl)
        (try simp only [Act.put, List.setIfInBounds_toArray, List.set_cons_zero, List.set_cons_succ])
        refine rg_in 12 rfl (by kernel_rfl) (by kernel_rfl) (by kernel_rfl) (by rfl) (v := ?_) (fun _ _ _ h => h) hHeld (fun w hSw => ?_) ?_
        rotate_left
        · (try dsimp only at hSw); go_simp <;> (with_reducible rfl)
        (try simp only [Act.put, List.setIfInBounds_toArray, List.set_cons_zero, List.set_cons_succ])
        refine rg_do 13 rfl (by kernel_rfl) (by rfl) (fun K hK => ?_)
        have hvl := HV3.out.later hbY
        have j0 := hvl.1.1
        have j1 := hvl.1.2.1
        have j2 := hvl.1.2.2.1
        have j3 := hvl.1.2.2.2.1
        have j4 := hvl.1.2.2.2.2
        have k0 := hvl.2.1
        have k1 := hvl.2.2.1
        have k2 := hvl.2.2.2.1
        have k3 := hvl.2.2.2.2.1
        have k4 := hvl.2.2.2.2.2
        go_simp
        clear hvl j0 j1 j2 j3 j4 k0 k1 k2 k3 k4
        refine hK.out _ _ (((((hHeld.set 0 _).set 1 _).set 2 _).set 3 _).set 4 _) (fun hHeld => ?_)
        clear hK K
        (try simp only [Act.put, List.setIfInBounds_toArray, List.set_cons_zero, List.set_cons_succ])
        refine rg_in 14 rfl (by kernel_rfl) (by kernel_rfl) (by kernel_rfl) (by rfl) (v := ?_) (fun _ _ _ h => h) hHeld (fun w hSw => ?_) ?_
        rotate_left
        · (try dsimp only at hSw); go_simp <;> (with_reducible rfl)
        (try simp only [Act.put, List.setIfInBounds_toArray, List.set_cons_zero, List.set_cons_succ])
        refine wpAnyH_done (by kernel_rfl) ?_ _
        skip
        have hfa := FAt.set (HV3.out.later hbY) hYL (hYa w.heap.size (by show w.heap.size < W3.heap.size; omega) HXA.out)
        have HAY2 := Lib.hid (show ∀ g, g < w.heap.size + 2 → AwayF Y g from fun g hg => hYa g (by show g < W3.heap.size; omega) (HAY.out g hg))
        have hh5 := (hHeld.o (w.heap.size + 1) (by omega) (by omega)).trans HH3.out
        have hb5 := fbelow_set5 (a := .slice Y.F.A Y.F.n Y.F.c) (b := .slice Y.lA Y.ln Y.lc) (c := .int .i64 Y.fuse) (d := .int .i64 Y.fault) (e := .bool Y.off) (HB3.out.trans ((below_undrew hbY).mono HB3.out.size)) (Nat.le_refl w.heap.size)
        unfold set5F at hfa
        have HF5 := Lib.hid hfa
        have HH5 := Lib.hid (show HBox _ _ _ _ from hh5)
        have HB5 := Lib.hid hb5
        clear hfa hh5 hb5 hHeld HV3 HXA HH3 HB3 HPT hYL hYa hbY x0
        generalize ((((w108.setCell ⟨w.heap.size, 0, none⟩ (.slice Y.F.A Y.F.n Y.F.c)).setCell ⟨w.heap.size, 1, none⟩ (.slice Y.lA Y.ln Y.lc)).setCell ⟨w.heap.size, 2, none⟩ (.int .i64 Y.fuse)).setCell ⟨w.heap.size, 3, none⟩ (.int .i64 Y.fault)).setCell ⟨w.heap.size, 4, none⟩ (.bool Y.off) = W5 at *
        have HLL2 := Lib.hid (show Hdr.lastH (lo ++ [Fra.pieceL ([] ++ lo.flatten) (Fra.encL (x.p.l.take q))]).flatten = L by
          rw [flat_snoc, List.nil_append, Hdr.last_piece]
          exact HLL.out)
        have HNE2 := Lib.hid (show ∀ l ∈ lo ++ [Fra.pieceL ([] ++ lo.flatten) (Fra.encL (x.p.l.take q))], l ≠ [] by
          intro l hl
          rcases List.mem_append.1 hl with h | h
          · exact HNE.out l h
          · rw [List.mem_singleton.1 h]; exact piece_ne _ _)
        have HLN2 := Lib.hid (show (lo ++ [Fra.pieceL ([] ++ lo.flatten) (Fra.encL (x.p.l.take q))]).flatten.length ≤ 8300 * (i + 1) by
          rw [flat_snoc, List.length_append, List.nil_append]
          have h1 := HLN.out
          have h2 := HLEN.out
          omega)
        have HS2 := Lib.hid hYs
        clear hYs HLL HNE HLN HLEN HS
        go_wp2
        go_roundw
        case rel => exact ⟨i + 1, _, Y, L, by omega, by go_num, rfl, HLL2, HF5, HS2, HNE2, HLN2, HH5, HB5, HAY2⟩
        case measure => simp [intOf]; omega
    · have hlt' : ((i : Int) < (m : Int)) = False := eq_false (by omega)
      have hi2 : i = m := by omega
      subst hi2
      have hfl : lo.flatten.length ≤ 249000 := by have := HLN.out; omega
      have hf4 := HF.out
      have hri : X.right = true := right_calm hf4.l HS.out HNE.out (by show ([] ++ lo.flatten).length ≤ _; rw [List.nil_append]; omega)
      have hsy := syncF_any X wr.heap.size wr hf4.l (Nat.le_refl _) hri
      rw [HS.out, sync_calm [] lo X.long (right_rows hf4.l hri).2.1, List.nil_append] at hsy
      simp only [FileT.agg, PcT.val] at hsy
      have hvl := hf4.v
      have j0 := hvl.1.1
      have j1 := hvl.1.2.1
      have j2 := hvl.1.2.2.1
      have j3 := hvl.1.2.2.2.1
      have j4 := hvl.1.2.2.2.2
      have k0 := hvl.2.1
      have k1 := hvl.2.2.1
      have k2 := hvl.2.2.2.1
      have k3 := hvl.2.2.2.2.1
      have k4 := hvl.2.2.2.2.2
      have HHW := Lib.hid HH.out
      have hnw : w.heap.size + 1 < wr.heap.size := HH.out.lt
      clear hvl hri HS HNE HLN hlt' hlt hm30 hml HK HX HH
      go_upto_region 15 with (go_at_call 44; refine hsy.mono ?_; rintro e W5 ⟨Y, rfl, hYs, hYL, hbY, hYa⟩; simp only [FileT.agg, PcT.val]; have hv5 := hf4.v.later hbY; obtain ⟨⟨m0, m1, m2, m3, m4⟩, l0, l1, l2, l3, l4⟩ := hv5)
      have hfa := FAt.set (hf4.v.later hbY) hYL (hYa w.heap.size (by omega) hf4.a trivial)
      have hho : HBox (set5F W5 w.heap.size (.slice Y.F.A Y.F.n Y.F.c) (.slice Y.lA Y.ln Y.lc) (.int .i64 Y.fuse) (.int .i64 Y.fault) (.bool Y.off)) (w.heap.size + 1) (fG L) (fA L : Nat) := (set5_other () (by omega)).trans (HHW.out.later hbY)
      have hb6 := fbelow_set5 (a := .slice Y.F.A Y.F.n Y.F.c) (b := .slice Y.lA Y.ln Y.lc) (c := .int .i64 Y.fuse) (d := .int .i64 Y.fault) (e := .bool Y.off) (HB.out.trans (hbY.mono HB.out.size)) (Nat.le_refl w.heap.size)
      have HAY2 := Lib.hid (show ∀ g, g < w.heap.size + 2 → AwayF Y g from fun g hg => hYa g (by omega) (HAY.out g hg) trivial)
      unfold set5F at hfa hho
      clear j0 j1 j2 j3 j4 k0 k1 k2 k3 k4 hYL hbY hYa m0 m1 m2 m3 m4 l0 l1 l2 l3 l4 hsy hf4
      generalize ((((W5.setCell ⟨w.heap.size, 0, none⟩ (.slice Y.F.A Y.F.n Y.F.c)).setCell ⟨w.heap.size, 1, none⟩ (.slice Y.lA Y.ln Y.lc)).setCell ⟨w.heap.size, 2, none⟩ (.int .i64 Y.fuse)).setCell ⟨w.heap.size, 3, none⟩ (.int .i64 Y.fault)).setCell ⟨w.heap.size, 4, none⟩ (.bool Y.off) = W6 at *
      have hvl := hfa.v
      have j0 := hvl.1.1
      have j1 := hvl.1.2.1
      have j2 := hvl.1.2.2.1
      have j3 := hvl.1.2.2.2.1
      have j4 := hvl.1.2.2.2.2
      have k0 := hvl.2.1
      have k1 := hvl.2.2.1
      have k2 := hvl.2.2.2.1
      have k3 := hvl.2.2.2.2.1
      have k4 := hvl.2.2.2.2.2
      have q0 := hho.c0
      have q1 := hho.c1
      have p0 := hho.soft 0
      have p1 := hho.soft 1
      have HFA := Lib.hid hfa
      have HHO := Lib.hid hho
      have HB6 := Lib.hid hb6
      clear hvl hfa hho hb6
      go_region
      have hd := steps_done HFA.out HHO.out (HAY2.out _ (by omega)) HB6.out (Nat.le_refl _) (show w.heap.size ≤ w.heap.size + 1 by omega) (show w.heap.size ≠ w.heap.size + 1 by omega)
      have HD := Lib.hid hd
      clear hd j0 j1 j2 j3 j4 k0 k1 k2 k3 k4 q0 q1 p0 p1
      obtain ⟨W8, hW8⟩ : ∃ W, World.drew (((((((W6.setCell ⟨w.heap.size, 0, none⟩ (.slice Y.F.A Y.F.n Y.F.c)).setCell ⟨w.heap.size, 1, none⟩ (.slice Y.lA Y.ln Y.lc)).setCell ⟨w.heap.size, 2, none⟩ (.int .i64 Y.fuse)).setCell ⟨w.heap.size, 3, none⟩ (.int .i64 Y.fault)).setCell ⟨w.heap.size, 4, none⟩ (.bool Y.off)).setCell ⟨w.heap.size + 1, 0, none⟩ (.int .u64 (fG L : Nat))).setCell ⟨w.heap.size + 1, 1, none⟩ (.int .i64 (fA L : Nat))) = W := ⟨_, rfl⟩
      have hd8 := HD.out W8 hW8
      rw [hW8]
      clear hW8 HD
      obtain ⟨hfa8, hh9, hb8⟩ := hd8
      obtain ⟨⟨j0, j1, j2, j3, j4⟩, -⟩ := hfa8.v
      have q0 := hh9.c0
      have q1 := hh9.c1
      have HLF := Lib.hid hfa8.l
      have HB8 := Lib.hid hb8
      clear hfa8 hh9 hb8
      go_wp2
      have hLL := HLL.out
      subst hLL
      refine bodyPost_ret (v := .tuple #[.agg #[.slice Y.F.A Y.F.n Y.F.c, .slice Y.lA Y.ln Y.lc, .int .i64 Y.fuse, .int .i64 Y.fault, .bool Y.off], .agg #[.int .u64 (fG (Hdr.lastH lo.flatten) : Nat), .int .i64 (fA (Hdr.lastH lo.flatten) : Nat)], .bool (Hdr.lastH lo.flatten).isSome, .bool true]) ?_ rfl ⟨Y, lo.flatten, rfl, hYs, hfl, HLF.out, HB8.out, fun g hg => HAY2.out g (by omega)⟩
      simp [results, Tryd.results25, go_sem, *]
end Go.Proofs.YtlknmpnjhbdlhaaDoor
/-
  Layer 12: the walk of HeaderTurned.
-/
namespace Go.Proofs.YtlknmpnjhbdlhaaDoor
open Go.RowKit
set_option linter.unusedVariables false

theorem u8_turn (u : UInt8) (e : Nat) (he : e < 8) : bits .xor .u8 (u.toNat : Int) (IntKind.u8.wrap ((2 : Int) ^ e)) = ((u ^^^ UInt8.ofNat (2 ^ e)).toNat : Int) := by
  have hp : 2 ^ e < 256 := Nat.pow_lt_pow_of_lt (a := 2) (n := e) (m := 8) (by decide) he
  have hc : ((2 : Int) ^ e) = ((2 ^ e : Nat) : Int) := by push_cast; rfl
  have hw : ∀ x : Nat, x < 256 → IntKind.u8.wrap (x : Int) = (x : Int) := fun x hx => by
    have : IntKind.u8.wrap (x : Int) = (x : Int) % 256 := by simp [IntKind.wrap, IntKind.bits, IntKind.signed]
    rw [this]; omega
  have ho : ∀ n : Nat, n < 256 → (BitVec.ofInt 8 (n : Int)).toNat = n := fun n hn => by rw [BitVec.toNat_ofInt]; omega
  rw [hc, hw _ hp, Fra.xor_u8 u e he]
  show IntKind.u8.wrap ((BitVec.ofInt 8 (u.toNat : Int) ^^^ BitVec.ofInt 8 ((2 ^ e : Nat) : Int)).toNat : Int) = _
  rw [BitVec.toNat_xor, ho _ u.toNat_lt, ho _ hp, hw _ (Nat.xor_lt_two_pow (n := 8) u.toNat_lt hp)]
theorem u32_bit (t k : Nat) (ht : t < 4294967296) : bits .and .u32 ((t : Int) / 2 ^ k) 1 = ((t / 2 ^ k % 2 : Nat) : Int) := by
  have hx : t / 2 ^ k < 4294967296 := Nat.lt_of_le_of_lt (Nat.div_le_self _ _) ht
  have e : (t : Int) / 2 ^ k = ((t / 2 ^ k : Nat) : Int) := by push_cast; rfl
  rw [e]
  generalize t / 2 ^ k = x at *
  show IntKind.u32.wrap ((BitVec.ofInt 32 (x : Int) &&& BitVec.ofInt 32 1).toNat : Int) = _
  have h1 : (BitVec.ofInt 32 (x : Int)).toNat = x := by rw [BitVec.toNat_ofInt]; omega
  have h2 : (BitVec.ofInt 32 (1 : Int)).toNat = 2 ^ 1 - 1 := by decide
  rw [BitVec.toNat_and, h1, h2, Nat.and_two_pow_sub_one_eq_mod]
  have : IntKind.u32.wrap ((x % 2 ^ 1 : Nat) : Int) = ((x % 2 ^ 1 : Nat) : Int) % 4294967296 := by simp [IntKind.wrap, IntKind.bits, IntKind.signed]
  rw [this]; omega
theorem cut_at (cut : Int) (m : Nat) (hm : 0 < m) : ∃ d : Nat, (IntKind.u64.wrap cut).tmod (m : Int) = (d : Int) ∧ d < m := by
  have h0 : 0 ≤ IntKind.u64.wrap cut := by
    have : IntKind.u64.wrap cut = cut % 18446744073709551616 := by simp [IntKind.wrap, IntKind.bits, IntKind.signed]
    rw [this]; omega
  refine ⟨((IntKind.u64.wrap cut).tmod (m : Int)).toNat, ?_, ?_⟩
  · rw [Int.tmod_eq_emod_of_nonneg h0]
    have := Int.emod_nonneg (IntKind.u64.wrap cut) (show (m : Int) ≠ 0 by omega)
    omega
  · rw [Int.tmod_eq_emod_of_nonneg h0]
    have h1 := Int.emod_nonneg (IntKind.u64.wrap cut) (show (m : Int) ≠ 0 by omega)
    have h2 := Int.emod_lt_of_pos (IntKind.u64.wrap cut) (show (0 : Int) < (m : Int) by omega)
    omega
/-- What a header's block is, and what it says. -/
def blkV (g : Nat) (a : Int) : List UInt8 := if okH g a = true then Hdr.blockL g a.toNat else z64
theorem blkV_len (g : Nat) (a : Int) : (blkV g a).length = 64 := by 
  unfold blkV
  split
  · exact Hdr.block_len _ _
  · exact z64_len
theorem blockH_any (g : Nat) (a : Int) (w : World) (htab : Tab w) (hg : g < 18446744073709551616) :
    Calls Tryd.prog 15 #[.agg #[.int .u64 (g : Int), .int .i64 a]] w fun e w' => e = .returned (arrV (blkV g a)) ∧ Below w.heap.size w w' := by
  by_cases h : okH g a = true
  · obtain ⟨h1, h2, h3⟩ := okH_iff.1 h
    obtain ⟨b, rfl⟩ : ∃ b : Nat, a = (b : Int) := ⟨a.toNat, by omega⟩
    unfold blkV
    rw [if_pos h]
    exact blockH_ok g b w htab h1 hg (by omega)
  · unfold blkV
    rw [if_neg h]
    exact blockH_no g a w (by simpa using h)
set_option maxRecDepth 100000 in
set_option maxHeartbeats 4000000 in
theorem headerTurned_walk (w : World) (g : Nat) (a : Int) (hg : g < 18446744073709551616) (wa : (Lit.int .i64 a).wf = true) (cut : Int) (wc : (Lit.int .i64 cut).wf = true) (tb : Int) (wt : (Lit.int .u32 tb).wf = true) (htab : Tab w) :
    Calls Tryd.prog 8 #[.agg #[.int .u64 (g : Int), .int .i64 a], .int .i64 cut, .int .u32 tb] w fun e w' => e = .returned (.bool true) ∧ Below w.heap.size w w' := by
  obtain ⟨t, rfl, ht⟩ : ∃ t : Nat, tb = (t : Int) ∧ t < 4294967296 := by
    obtain ⟨h0, h1⟩ := wf_u32 wt
    exact ⟨tb.toNat, by omega, by omega⟩
  have Ht := Lib.hid ht
  have HWK := Lib.hid (fun W (h : Below w.heap.size w W) => hwakes_any W (htab.below h htab.lt))
  have HBK := Lib.hid (fun W (h : Below w.heap.size w W) => blockH_any g a W (htab.below h htab.lt) hg)
  have HCK := Lib.hid (fun W => checkH_any g a W)
  have HSY := Lib.hid (fun W l (hl : l.length = 64) (h : Below w.heap.size w W) => saysH_any l hl W (htab.below h htab.lt))
  have HG := Lib.hid hg
  clear wt wc wa htab ht hg
  go_enter Tryd.func8, Tryd.ntmps8
  go_wp2_with fail
  have hb1 := bel_alloc (Below.refl w.heap.size w) (.cells #[.int .u64 (g : Int), .int .i64 a] 24)
  have hh1 : HBox (w.alloc (.cells #[.int .u64 (g : Int), .int .i64 a] 24)) w.heap.size g a := heap_alloc_new w _
  generalize w.alloc (.cells #[.int .u64 (g : Int), .int .i64 a] 24) = W1 at *
  refine (HWK.out _ hb1).mono ?_
  rintro e W2 ⟨rfl, hb2⟩
  have hb3 := bel_next hb1 hb2
  have hh2 := hh1.later hb2
  have x0 := hh2.c0
  have x1 := hh2.c1
  clear hb1 hb2 hh1 HWK
  go_upto_region 4 with (first
    | (go_at_call 15; refine (HBK.out _ hb3).mono ?_; rintro e w3 ⟨rfl, hb4⟩; have hA3 := arr_lit w3)
    | (with_reducible refine wpList_storeArr rfl (.tmp 7) (.tmp 14) rfl rfl rfl hA3 (info64 z64_len) ((blkV_len g a).trans z64_len.symm) ?_; intro W4 ha4 ho4))
  (try simp only [Act.put])
  have hb5 : Below W2.heap.size W2 W4 := (bel_alloc hb4 _).trans (ho4.below _ hb4.size)
  have hb6 := bel_next hb3 hb5
  have hh4 := hh2.later hb5
  obtain ⟨gb, hgb⟩ : ∃ gb, w3.heap.size = gb := ⟨_, rfl⟩
  have hgw : w.heap.size ≤ gb := by have h1 := hb3.size; have h2 := hb4.size; rw [← hgb]; omega
  rw [hgb] at ha4 ⊢
  clear hb3 hb4 hb5 hh2 hA3 ho4 hgb x0 x1 HBK
  go_upto_region 5 with (first
    | (with_reducible refine wpList_loadArr rfl (.tmp 7) rfl rfl ha4 Tryd.underlying25 (info64 (blkV_len g a)) ?_)
    | (go_at_call 13; refine (HSY.out _ _ (blkV_len g a) hb6).mono ?_; rintro e w5 ⟨rfl, hb7⟩))
  have hb8 := bel_alloc (bel_next hb6 hb7) (.cells #[.int .u64 (sayG (blkV g a) : Nat), .int .i64 (sayA (blkV g a) : Nat)] 24)
  have hb9 := bel_alloc hb7 (.cells #[.int .u64 (sayG (blkV g a) : Nat), .int .i64 (sayA (blkV g a) : Nat)] 24)
  have hs5 : HBox (w5.alloc (.cells #[.int .u64 (sayG (blkV g a) : Nat), .int .i64 (sayA (blkV g a) : Nat)] 24)) w5.heap.size (sayG (blkV g a)) (sayA (blkV g a) : Nat) := heap_alloc_new w5 _
  have hh5 := hh4.later hb9
  have ha5 := ha4.later hb9
  generalize w5.alloc (.cells #[.int .u64 (sayG (blkV g a) : Nat), .int .i64 (sayA (blkV g a) : Nat)] 24) = W5 at *
  generalize w5.heap.size = gs at *
  clear hh4 ha4 hb7 hb6 hb9
  have x0 := hh5.c0
  have x1 := hh5.c1
  by_cases hok : okH g a = true
  · obtain ⟨k1, k2, k3⟩ := okH_iff.1 hok
    obtain ⟨b, rfl⟩ : ∃ b : Nat, a = (b : Int) := ⟨a.toNat, by omega⟩
    have k4 : b < 524288 := by omega
    have hbe : blkV g (b : Int) = Hdr.blockL g b := by unfold blkV; rw [if_pos hok]; rfl
    rw [hbe] at hs5 ha5 ⊢
    obtain ⟨e1, e2, e3⟩ := say_some (Hdr.says_block g b k1 HG.out k4)
    rw [e1, e2] at hs5
    rw [e1, e2, e3]
    rw [errH_yes hok] at HCK
    clear hok hbe e1 e2 e3 k2 k3
    go_wp2_with fail
    refine (HCK.out _).mono ?_
    rintro e W6 ⟨rfl, hb10⟩
    have hs6 := hs5.later hb10
    have hh6 := hh5.later hb10
    have ha6 := ha5.later hb10
    have hb11 := bel_next hb8 hb10
    have y0 := hs6.c0
    have y1 := hs6.c1
    have z0 := hh6.c0
    have z1 := hh6.c1
    clear hs5 hh5 ha5 hb8 hb10 x0 x1 HCK
    by_cases ht0 : t = 0
    · subst ht0
      go_wp2
      go_ret
      exact ⟨rfl, hb11⟩
    · have ht1 : ((t : Int) == 0) = false := beq_eq_false_iff_ne.2 (by omega)
      obtain ⟨d, hd, hdm⟩ := cut_at cut 481 (by omega)
      have hd' : (IntKind.u64.wrap cut).tmod 481 = (d : Int) := hd
      have hdw : IntKind.i64.wrap (d : Int) = (d : Int) := by rw [IntKind.wrap_i64]; omega
      have HT0 := Lib.hid ht0
      clear ht0 hd
      go_upto_region 9 with fail
      have hgb := ha6.lt
      have HA0 := Lib.hid (show Arr W6 gb 25 (Fra.turnsL (Hdr.blockL g b) d t 0) from ha6)
      clear hs6 hh6 ha6 y0 y1 z0 z1
      go_wp2_with fail
      go_loopw [43] (fun iv wr => ∃ k : Nat, k ≤ 32 ∧ iv = .int .i64 k ∧ Hid (Arr wr gb 25 (Fra.turnsL (Hdr.blockL g b) d t k)) ∧ Below w.heap.size w wr) (fun iv _ => 32 - (intOf iv).toNat)
      case atStart => exact ⟨0, Nat.zero_le _, rfl, HA0, hb11⟩
      case round =>
        obtain ⟨k, hk, rfl, HA, hbr⟩ := hrel
        clear HA0 hb11 hd' hdw
        by_cases hlt : k < 32
        · have hlt' : ((k : Int) < 32) = True := eq_true (by omega)
          by_cases hbt : t / 2 ^ k % 2 = 1
          · have hb1 : (bits BinOp.and IntKind.u32 ((t : Int) / 2 ^ k) 1 == 1) = true := by rw [u32_bit t k Ht.out, hbt]; rfl
            have hln : (Fra.turnsL (Hdr.blockL g b) d t k).length = 64 := by rw [Fra.turns_len, Hdr.block_len]
            obtain ⟨u, hu⟩ : ∃ u, (Fra.turnsL (Hdr.blockL g b) d t k).getD ((d + k) / 8) 0 = u := ⟨_, rfl⟩
            obtain ⟨P, hP⟩ : ∃ P, (d + k) / 8 = P := ⟨_, rfl⟩
            have hP8 : P < 64 := by omega
            have w1 : IntKind.i64.wrap ((d : Int) + (k : Int)) = (d : Int) + (k : Int) := by rw [IntKind.wrap_i64]; omega
            have w2 : ((d : Int) + (k : Int)).tdiv 8 = (P : Int) := by rw [Int.tdiv_eq_ediv_of_nonneg (by omega)]; omega
            have w2' : ((d : Int) + (k : Int)) / 8 = (P : Int) := by omega
            have w3 : ((d : Int) + (k : Int)).tmod 8 = ((d : Int) + (k : Int)) % 8 := Int.tmod_eq_emod_of_nonneg (by omega)
            have w7 : IntKind.i64.wrap (P : Int) = (P : Int) := by rw [IntKind.wrap_i64]; omega
            have w8 : IntKind.i64.wrap (((d : Int) + (k : Int)) % 8) = ((d : Int) + (k : Int)) % 8 := by rw [IntKind.wrap_i64]; omega
            have w9 : 0 ≤ ((d : Int) + (k : Int)) % 8 := by omega
            have hq : wr.cell? ⟨gb, P, none⟩ = some (.int .u8 (u.toNat : Int)) := by
              have h := HA.out.cell (j := P) (by rw [hln]; exact hP8)
              rw [h]
              unfold at8
              rw [← hP, hu]
            have hf := HA.out.soft P
            have hx8 : (((d : Int) + (k : Int)) % 8).toNat = (d + k) % 8 := by omega
            have hxo := u8_turn u ((d + k) % 8) (by omega)
            rw [← hx8] at hxo
            have HXO := Lib.hid hxo
            have hst := HA.out.set P (u ^^^ UInt8.ofNat (2 ^ ((d + k) % 8)))
            have hnx : (Fra.turnsL (Hdr.blockL g b) d t k).set P (u ^^^ UInt8.ofNat (2 ^ ((d + k) % 8))) = Fra.turnsL (Hdr.blockL g b) d t (k + 1) := by
              rw [Fra.turnsL, if_pos hbt]
              unfold Fra.turnL
              rw [hP, ← hu, hP]
            rw [hnx] at hst
            have HST := Lib.hid hst
            clear hst hnx hu hbt hxo hln hP
            have HX8 := Lib.hid hx8
            clear hx8
            go_upto_region 14 with fail
            go_region
            have hv : Value.int .u8 (bits BinOp.xor IntKind.u8 (u.toNat : Int) ((2 : Int) ^ ((d + k) % 8) % 256)) = bv (u ^^^ UInt8.ofNat (2 ^ ((d + k) % 8))) := by
              unfold bv
              rw [← u8_turn u ((d + k) % 8) (by omega)]
              congr 2
            rw [hv]
            have HA3 := Lib.hid (show Arr ((wr.setCell ⟨gb, P, none⟩ (bv (u ^^^ UInt8.ofNat (2 ^ ((d + k) % 8))))).drew) gb 25 (Fra.turnsL (Hdr.blockL g b) d t (k + 1)) from HST.out.1)
            have hb12 : Below w.heap.size w ((wr.setCell ⟨gb, P, none⟩ (bv (u ^^^ UInt8.ofNat (2 ^ ((d + k) % 8))))).drew) := below_drewN (hbr.setCell hgw _) 1
            generalize (wr.setCell ⟨gb, P, none⟩ (bv (u ^^^ UInt8.ofNat (2 ^ ((d + k) % 8))))).drew = w12 at *
            clear hv HST HXO HX8 hq hf w1 w2 w2' w3 w7 w8 w9 HA hbr
            go_wp2
            go_roundw
            case rel => exact ⟨k + 1, by omega, by go_num, HA3, hb12⟩
            case measure => simp [intOf]; omega
          · have hb1 : (bits BinOp.and IntKind.u32 ((t : Int) / 2 ^ k) 1 == 1) = false := by
              rw [u32_bit t k Ht.out, show t / 2 ^ k % 2 = 0 by omega]; rfl
            have HA3 := Lib.hid (show Arr wr gb 25 (Fra.turnsL (Hdr.blockL g b) d t (k + 1)) by
              rw [show Fra.turnsL (Hdr.blockL g b) d t (k + 1) = Fra.turnsL (Hdr.blockL g b) d t k by rw [Fra.turnsL, if_neg hbt]]
              exact HA.out)
            clear hbt HA
            go_wp2_with fail
            go_roundw
            case rel => exact ⟨k + 1, by omega, by go_num, HA3, hbr⟩
            case measure => simp [intOf]; omega
        · obtain rfl : k = 32 := by omega
          have hlt' : ((((32 : Nat) : Int)) < 32) = False := eq_false (by omega)
          have hln : (Fra.turnsL (Hdr.blockL g b) d t 32).length = 64 := by rw [Fra.turns_len, Hdr.block_len]
          obtain ⟨l, hl⟩ : ∃ l, Fra.turnsL (Hdr.blockL g b) d t 32 = l := ⟨_, rfl⟩
          have hno : Hdr.saysL l = none := by rw [← hl]; exact Hdr.turned_says Ht.out HT0.out (by omega)
          have ha7 := HA.out
          rw [hl] at ha7 hln
          have hsy := HSY.out wr l hln hbr
          rw [(say_none hno).1, (say_none hno).2.1, (say_none hno).2.2] at hsy
          clear HA hl hno HSY hlt
          go_wp2_with (first
            | (with_reducible refine wpList_loadArr rfl (.tmp 7) rfl rfl ha7 Tryd.underlying25 (info64 hln) ?_)
            | (go_at_call 13; refine hsy.mono ?_; rintro e w8 ⟨rfl, hb12⟩; have hb13 := bel_next hbr hb12))
          go_ret
          exact ⟨rfl, hb13⟩
  · have hok' : okH g a = false := by simpa using hok
    have hbe : blkV g a = z64 := by unfold blkV; rw [if_neg hok]
    rw [hbe] at hs5 ha5 ⊢
    obtain ⟨e1, e2, e3⟩ := say_none z64_says
    rw [e1, e2] at hs5
    rw [e1, e2, e3]
    rw [errH_no hok'] at HCK
    clear hok hok' hbe e1 e2 e3
    go_wp2_with fail
    refine (HCK.out _).mono ?_
    rintro e W6 ⟨rfl, hb10⟩
    have hb11 := bel_next hb8 hb10
    clear hs5 hh5 ha5 hb8 hb10 x0 x1 HCK
    go_wp2
    go_ret
    exact ⟨rfl, hb11⟩
end Go.Proofs.YtlknmpnjhbdlhaaDoor
