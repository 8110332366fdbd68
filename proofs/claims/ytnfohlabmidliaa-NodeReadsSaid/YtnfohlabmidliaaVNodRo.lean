import Derived.Test.YtnfohlabmidliaaVNodRn
import Derived.Test.YtnfohlabmidliaaVNodRh
import Derived.Test.YtnfohlabmidliaaVNodRj
import Derived.Test.YtnfohlabmidliaaVNodRk
import Derived.Test.YtnfohlabmidliaaVNodOa
import Derived.Test.YtnfohlabmidliaaVNodAd
/-
  The reference's Read.
-/
namespace Go.Proofs.Ytnfohlabmidliaa
open Go.RowKit
set_option linter.unusedVariables false
set_option linter.unusedSimpArgs false

/-- A node that Read lays: rows of its own, bytes of what is read. -/
structure ReaN (X : NoT) (D B : Nat) (W : World) : Prop where
  irow : W.ownsRow D 58 4 (.slice X.iA X.iN X.iC) X.iN (X.I.flatMap ItT.cells)
  krow : W.ownsRow D 60 8 (.slice X.kA X.kN X.kC) X.kN (X.K.flatMap KiT.cells)
  items : ∀ x ∈ X.I, x.Ok W B
  kids : ∀ x ∈ X.K, x.Ok W B
  bound : B ≤ W.heap.size
theorem ReaN.later {X : NoT} {D B : Nat} {W W' : World} (h : ReaN X D B W) (hb : Below W.heap.size W W') : ReaN X D B W' :=
  ⟨own_later h.irow hb, own_later h.krow hb, fun x hx => (h.items x hx).later (hb.mono h.bound), fun x hx => (h.kids x hx).later (hb.mono h.bound), Nat.le_trans h.bound hb.size⟩
theorem ReaN.lie {X : NoT} {D B : Nat} {W : World} (h : ReaN X D B W) : LieN W W.heap.size X := by
  obtain ⟨f1, f2, f3⟩ := nown_facts h.irow
  obtain ⟨k1, k2, k3⟩ := nown_facts h.krow
  exact ⟨Shows.own h.irow, fun x hx => (h.items x hx).more h.bound, f1, f2, f3, Shows.own h.krow, fun x hx => (h.kids x hx).more h.bound, k1, k2, k3⟩
theorem set1_grown (W : World) (g k : Nat) (a : Value) : W.grownBy (W.setCell ⟨g, k, none⟩ a) (some g) := by
  have hb := (Below.refl 0 W).setCell (p := ⟨g, k, none⟩) (Nat.zero_le g) a
  exact ⟨hb.os, hb.tape, hb.output, hb.size, fun j _ hj => set_othN (fun e => hj (by rw [e]))⟩
theorem own_set1 {W : World} {g k D n size : Nat} {C : Array Value} {fr : Nat × Nat} {t : TypeId} {v : Value} {xs : List Value} (h : W.ownsRow D t size v n xs) (hb : W.heap[g]? = some (.cells C 25 fr)) (ht : 25 ≠ t) (a : Value) : (W.setCell ⟨g, k, none⟩ a).ownsRow D t size v n xs :=
  h.kept (set1_grown W g k a) (.inr (fun e => own_blk_ne h hb ht e.symm))
theorem ReaN.set1 {X : NoT} {D B g k : Nat} {W : World} {C : Array Value} {fr : Nat × Nat} (h : ReaN X D B W) (hb : W.heap[g]? = some (.cells C 25 fr)) (hBg : B ≤ g) (a : Value) : ReaN X D B (W.setCell ⟨g, k, none⟩ a) := by
  have hb1 : Below B W (W.setCell ⟨g, k, none⟩ a) := (Below.refl B W).setCell (p := ⟨g, k, none⟩) hBg a
  exact ⟨own_set1 h.irow hb (by decide) a, own_set1 h.krow hb (by decide) a, fun x hx => (h.items x hx).later hb1, fun x hx => (h.kids x hx).later hb1, by rw [size_set]; exact h.bound⟩
theorem ReaN.set3 {X : NoT} {D B g : Nat} {W : World} {C : Array Value} {fr : Nat × Nat} (h : ReaN X D B W) (hb : W.heap[g]? = some (.cells C 25 fr)) (hBg : B ≤ g) (a b c : Value) : ReaN X D B (Go.Proofs.Ytnfohlabmidliaa.set3 W g a b c) := by
  have hb1 := set3_below (Below.refl B W) hBg a b c
  exact ⟨own_set3 h.irow hb (by decide) a b c, own_set3 h.krow hb (by decide) a b c, fun x hx => (h.items x hx).later hb1, fun x hx => (h.kids x hx).later hb1, by rw [set3_size]; exact h.bound⟩
/-- A node that bytes are the encoding of. -/
def Hyp (l : List UInt8) (Z : NoT) : Prop := ∃ (W : World) (B : Nat), LieN W B Z ∧ Z.okB = true ∧ l = Z.enc
def ReaP (p : PcT) (w : World) (e : Ending) (w' : World) : Prop :=
  Below w.heap.size w w' ∧ ((e = .returned (.tuple #[.agg #[.bool false, .slice none 0 0, .slice none 0 0], .bool false]) ∧ ∀ Z : NoT, ¬ Hyp p.l Z) ∨ (∃ X : NoT, e = .returned (.tuple #[X.agg, .bool true]) ∧ X.okB = true ∧ X.enc = p.l ∧ LieN w' w'.heap.size X))
theorem hyp_head {l : List UInt8} {Z : NoT} (h : Hyp l Z) : 2 ≤ l.length ∧ l[0]? = some (markN Z.leaf) ∧ l[1]? = some (UInt8.ofNat Z.ents.length) ∧ Z.ents.length ≤ 6 ∧ l.drop 2 = Z.ents.flatMap EnT.put := by
  obtain ⟨W, B, hZ, hok, rfl⟩ := h
  refine ⟨?_, rfl, rfl, (shape_len hZ (okB_parts hok).1).1, rfl⟩
  unfold NoT.enc
  rw [List.length_append]
  show 2 ≤ 2 + _
  omega
theorem hyp_items {l : List UInt8} {Z : NoT} (h : Hyp l Z) (hl : Z.leaf = true) : Z.K = [] ∧ Z.ents.length = Z.I.length ∧ Z.ents.flatMap EnT.put = (Z.I.map ItT.s).flatMap ItS.put ∧ ∀ y ∈ Z.I.map ItT.s, y.k.length ≤ 255 ∧ y.v.length ≤ 255 ∧ R64 y.n := by
  obtain ⟨W, B, hZ, hok, -⟩ := h
  have hen : Z.ents = Z.I.map .it := by unfold NoT.ents; rw [if_pos hl]
  obtain ⟨hs, hr, -⟩ := okB_parts hok
  unfold NoT.shape at hs
  rw [hl, if_pos rfl] at hs
  refine ⟨List.eq_nil_of_length_eq_zero (by rw [hZ.klen]; exact (of_decide_eq_true hs).1), by rw [hen, List.length_map], by rw [hen, flat_it], ?_⟩
  intro y hy
  obtain ⟨x, hx, rfl⟩ := List.mem_map.1 hy
  have h1 := it_okB (x := x) (runOk_all _ _ hr (.it x) (by rw [hen]; exact List.mem_map.2 ⟨x, hx, rfl⟩))
  exact ⟨by show x.k.l.length ≤ 255; omega, by show x.v.l.length ≤ 255; omega, (hZ.items x hx).num⟩
theorem hyp_kids {l : List UInt8} {Z : NoT} (h : Hyp l Z) (hl : Z.leaf = false) : Z.I = [] ∧ Z.ents.length = Z.K.length ∧ Z.ents.flatMap EnT.put = (Z.K.map KiT.s).flatMap KiS.put ∧ ∀ y ∈ Z.K.map KiT.s, y.k.length ≤ 255 ∧ (0 ≤ y.a ∧ y.a < 4294967296) ∧ (0 ≤ y.r.c ∧ y.r.c < 4294967296) ∧ (0 ≤ y.r.i ∧ y.r.i < 4294967296) ∧ y.r.ok := by
  obtain ⟨W, B, hZ, hok, -⟩ := h
  have hen : Z.ents = Z.K.map .ki := by unfold NoT.ents; rw [hl]; rfl
  obtain ⟨hs, hr, -⟩ := okB_parts hok
  unfold NoT.shape at hs
  rw [hl, if_neg Bool.false_ne_true] at hs
  refine ⟨List.eq_nil_of_length_eq_zero (by rw [hZ.ilen]; exact (of_decide_eq_true hs).1), by rw [hen, List.length_map], by rw [hen, flat_ki], ?_⟩
  intro y hy
  obtain ⟨x, hx, rfl⟩ := List.mem_map.1 hy
  have h1 := ki_okB (x := x) (runOk_all _ _ hr (.ki x) (by rw [hen]; exact List.mem_map.2 ⟨x, hx, rfl⟩))
  have h2 := valid_bounds x.r h1.2.2.1
  exact ⟨by show x.k.l.length ≤ 255; omega, by show 0 ≤ x.a ∧ x.a < _; omega, by show 0 ≤ x.r.c ∧ x.r.c < _; omega, by show 0 ≤ x.r.i ∧ x.r.i < _; omega, (hZ.kids x hx).red⟩
/-- The spec of a loop: what has been read is the beginning of each node that the bytes are the encoding of. -/
def SpI (l : List UInt8) (N i : Nat) (I : List ItT) (ql : List UInt8) : Prop := ∀ Z, Hyp l Z → Z.leaf = true ∧ Z.I.length = N ∧ I.map ItT.s = (Z.I.map ItT.s).take i ∧ ql = ((Z.I.map ItT.s).drop i).flatMap ItS.put
def SpK (l : List UInt8) (N i : Nat) (I : List KiT) (ql : List UInt8) : Prop := ∀ Z, Hyp l Z → Z.leaf = false ∧ Z.K.length = N ∧ I.map KiT.s = (Z.K.map KiT.s).take i ∧ ql = ((Z.K.map KiT.s).drop i).flatMap KiS.put
theorem spI_zero {l : List UInt8} {x0 x1 : UInt8} (h0 : l[0]? = some x0) (h1 : l[1]? = some x1) (hl : (((x0.toNat : Nat) : Int) == 1) = true) : SpI l x1.toNat 0 [] (l.drop 2) := fun Z hZ => by
  obtain ⟨-, a0, a1, a6, a2⟩ := hyp_head hZ
  have hlf : Z.leaf = true := by
    rw [a0] at h0
    injection h0 with h0
    rw [← h0] at hl
    cases hz : Z.leaf
    · rw [hz] at hl
      exact absurd hl (by decide)
    · rfl
  obtain ⟨-, b1, b2, -⟩ := hyp_items hZ hlf
  refine ⟨hlf, ?_, rfl, by rw [a2, b2]; rfl⟩
  rw [a1] at h1
  injection h1 with h1
  rw [← h1, UInt8.toNat_ofNat', ← b1]
  omega
theorem spK_zero {l : List UInt8} {x0 x1 : UInt8} (h0 : l[0]? = some x0) (h1 : l[1]? = some x1) (hl : (((x0.toNat : Nat) : Int) == 1) = false) : SpK l x1.toNat 0 [] (l.drop 2) := fun Z hZ => by
  obtain ⟨-, a0, a1, a6, a2⟩ := hyp_head hZ
  have hlf : Z.leaf = false := by
    rw [a0] at h0
    injection h0 with h0
    rw [← h0] at hl
    cases hz : Z.leaf
    · rfl
    · rw [hz] at hl
      exact absurd hl (by decide)
  obtain ⟨-, b1, b2, -⟩ := hyp_kids hZ hlf
  refine ⟨hlf, ?_, rfl, by rw [a2, b2]; rfl⟩
  rw [a1] at h1
  injection h1 with h1
  rw [← h1, UInt8.toNat_ofNat', ← b1]
  omega
theorem spI_step {l ql rl : List UInt8} {N i : Nat} {I : List ItT} {x : ItT} {ok : Bool} (hs : SpI l N i I ql) (hi : i < N) (hx : ∀ (y : ItS) (r : List UInt8), y.k.length ≤ 255 → y.v.length ≤ 255 → R64 y.n → ql = y.put ++ r → ok = true ∧ x.s = y ∧ rl = r) : (ok = false → ∀ Z, ¬ Hyp l Z) ∧ SpI l N (i + 1) (I ++ [x]) rl := by
  have key : ∀ Z, Hyp l Z → ok = true ∧ (Z.leaf = true ∧ Z.I.length = N ∧ (I ++ [x]).map ItT.s = (Z.I.map ItT.s).take (i + 1) ∧ rl = ((Z.I.map ItT.s).drop (i + 1)).flatMap ItS.put) := fun Z hZ => by
    obtain ⟨a1, a2, a3, a4⟩ := hs Z hZ
    have b := (hyp_items hZ a1).2.2.2
    obtain ⟨y, hy⟩ : ∃ y, (Z.I.map ItT.s)[i]? = some y := ⟨_, List.getElem?_eq_getElem (by rw [List.length_map]; omega)⟩
    rw [dropN hy, List.flatMap_cons] at a4
    obtain ⟨c1, c2, c3⟩ := b y (List.mem_of_getElem? hy)
    obtain ⟨d1, d2, d3⟩ := hx y _ c1 c2 c3 a4
    exact ⟨d1, a1, a2, by rw [List.map_append, a3, takeN hy, ← d2]; rfl, d3⟩
  exact ⟨fun h Z hZ => Bool.noConfusion (h.symm.trans (key Z hZ).1), fun Z hZ => (key Z hZ).2⟩
theorem spK_step {l ql rl : List UInt8} {N i : Nat} {I : List KiT} {x : KiT} {ok : Bool} (hs : SpK l N i I ql) (hi : i < N) (hx : ∀ (y : KiS) (r : List UInt8), y.k.length ≤ 255 → (0 ≤ y.a ∧ y.a < 4294967296) → (0 ≤ y.r.c ∧ y.r.c < 4294967296) → (0 ≤ y.r.i ∧ y.r.i < 4294967296) → y.r.ok → ql = y.put ++ r → ok = true ∧ x.s = y ∧ rl = r) : (ok = false → ∀ Z, ¬ Hyp l Z) ∧ SpK l N (i + 1) (I ++ [x]) rl := by
  have key : ∀ Z, Hyp l Z → ok = true ∧ (Z.leaf = false ∧ Z.K.length = N ∧ (I ++ [x]).map KiT.s = (Z.K.map KiT.s).take (i + 1) ∧ rl = ((Z.K.map KiT.s).drop (i + 1)).flatMap KiS.put) := fun Z hZ => by
    obtain ⟨a1, a2, a3, a4⟩ := hs Z hZ
    have b := (hyp_kids hZ a1).2.2.2
    obtain ⟨y, hy⟩ : ∃ y, (Z.K.map KiT.s)[i]? = some y := ⟨_, List.getElem?_eq_getElem (by rw [List.length_map]; omega)⟩
    rw [dropN hy, List.flatMap_cons] at a4
    obtain ⟨c1, c2, c3, c4, c5⟩ := b y (List.mem_of_getElem? hy)
    obtain ⟨d1, d2, d3⟩ := hx y _ c1 c2 c3 c4 c5 a4
    exact ⟨d1, a1, a2, by rw [List.map_append, a3, takeN hy, ← d2]; rfl, d3⟩
  exact ⟨fun h Z hZ => Bool.noConfusion (h.symm.trans (key Z hZ).1), fun Z hZ => (key Z hZ).2⟩
/-- What is read to its end says what the node says. -/
theorem spI_end {l ql : List UInt8} {N : Nat} {I : List ItT} {A : Option Addr} {c : Nat} (hs : SpI l N N I ql) (hI : I.length = N) (Z : NoT) (hZ : Hyp l Z) : (⟨true, A, N, c, I, none, 0, 0, []⟩ : NoT).okB = true ∧ (⟨true, A, N, c, I, none, 0, 0, []⟩ : NoT).enc = l := by
  obtain ⟨a1, a2, a3, -⟩ := hs Z hZ
  have b := hyp_items hZ a1
  have e : (⟨true, A, N, c, I, none, 0, 0, []⟩ : NoT).s = Z.s := by
    unfold NoT.s
    simp only
    rw [a3, List.take_of_length_le (by rw [List.length_map, a2]; exact Nat.le_refl _), a1, b.1]
  obtain ⟨W, B, hL, hok, he⟩ := hZ
  exact ⟨by rw [okB_s ⟨hI, rfl⟩ hL.lens e]; exact hok, by rw [enc_s e, he]⟩
theorem spK_end {l ql : List UInt8} {N : Nat} {I : List KiT} {A : Option Addr} {c : Nat} (hs : SpK l N N I ql) (hI : I.length = N) (Z : NoT) (hZ : Hyp l Z) : (⟨false, none, 0, 0, [], A, N, c, I⟩ : NoT).okB = true ∧ (⟨false, none, 0, 0, [], A, N, c, I⟩ : NoT).enc = l := by
  obtain ⟨a1, a2, a3, -⟩ := hs Z hZ
  have b := hyp_kids hZ a1
  have e : (⟨false, none, 0, 0, [], A, N, c, I⟩ : NoT).s = Z.s := by
    unfold NoT.s
    simp only
    rw [a3, List.take_of_length_le (by rw [List.length_map, a2]; exact Nat.le_refl _), a1, b.1]
  obtain ⟨W, B, hL, hok, he⟩ := hZ
  exact ⟨by rw [okB_s ⟨rfl, hI⟩ hL.lens e]; exact hok, by rw [enc_s e, he]⟩
def rset4 (W : World) (g : Nat) (a b c d : Value) : World := (((W.setCell ⟨g, 0, none⟩ a).setCell ⟨g, 1, none⟩ b).setCell ⟨g, 2, none⟩ c).setCell ⟨g, 3, none⟩ d
theorem rset4_blk {W : World} {g : Nat} {x0 x1 x2 x3 : Value} {t : TypeId} (h : W.heap[g]? = some (.cells #[x0, x1, x2, x3] t (0, 0))) (a b c d : Value) : (rset4 W g a b c d).heap[g]? = some (.cells #[a, b, c, d] t (0, 0)) := by
  have h1 := set_blkN (k := 3) (u := d) (set_blkN (k := 2) (u := c) (set_blkN (k := 1) (u := b) (set_blkN (k := 0) (u := a) h)))
  unfold rset4
  rw [h1]
  rfl
theorem rset4_below {w W : World} {B g : Nat} (h : Below B w W) (hg : B ≤ g) (a b c d : Value) : Below B w (rset4 W g a b c d) := (((h.setCell (p := ⟨g, 0, none⟩) hg a).setCell (p := ⟨g, 1, none⟩) hg b).setCell (p := ⟨g, 2, none⟩) hg c).setCell (p := ⟨g, 3, none⟩) hg d
def rset8 (W : World) (g : Nat) (a b c d e f h i : Value) : World := (((((((W.setCell ⟨g, 0, none⟩ a).setCell ⟨g, 1, none⟩ b).setCell ⟨g, 2, none⟩ c).setCell ⟨g, 3, none⟩ d).setCell ⟨g, 4, none⟩ e).setCell ⟨g, 5, none⟩ f).setCell ⟨g, 6, none⟩ h).setCell ⟨g, 7, none⟩ i
theorem rset8_blk {W : World} {g : Nat} {x0 x1 x2 x3 x4 x5 x6 x7 : Value} {t : TypeId} (h : W.heap[g]? = some (.cells #[x0, x1, x2, x3, x4, x5, x6, x7] t (0, 0))) (a b c d e f k i : Value) : (rset8 W g a b c d e f k i).heap[g]? = some (.cells #[a, b, c, d, e, f, k, i] t (0, 0)) := by
  have h0 : (W.setCell ⟨g, 0, none⟩ a).heap[g]? = some (.cells #[a, x1, x2, x3, x4, x5, x6, x7] t (0, 0)) := set_blkN (k := 0) (u := a) h
  have h1 : ((W.setCell ⟨g, 0, none⟩ a).setCell ⟨g, 1, none⟩ b).heap[g]? = some (.cells #[a, b, x2, x3, x4, x5, x6, x7] t (0, 0)) := set_blkN (k := 1) (u := b) h0
  have h2 : (((W.setCell ⟨g, 0, none⟩ a).setCell ⟨g, 1, none⟩ b).setCell ⟨g, 2, none⟩ c).heap[g]? = some (.cells #[a, b, c, x3, x4, x5, x6, x7] t (0, 0)) := set_blkN (k := 2) (u := c) h1
  have h3 : ((((W.setCell ⟨g, 0, none⟩ a).setCell ⟨g, 1, none⟩ b).setCell ⟨g, 2, none⟩ c).setCell ⟨g, 3, none⟩ d).heap[g]? = some (.cells #[a, b, c, d, x4, x5, x6, x7] t (0, 0)) := set_blkN (k := 3) (u := d) h2
  have h4 : (((((W.setCell ⟨g, 0, none⟩ a).setCell ⟨g, 1, none⟩ b).setCell ⟨g, 2, none⟩ c).setCell ⟨g, 3, none⟩ d).setCell ⟨g, 4, none⟩ e).heap[g]? = some (.cells #[a, b, c, d, e, x5, x6, x7] t (0, 0)) := set_blkN (k := 4) (u := e) h3
  have h5 : ((((((W.setCell ⟨g, 0, none⟩ a).setCell ⟨g, 1, none⟩ b).setCell ⟨g, 2, none⟩ c).setCell ⟨g, 3, none⟩ d).setCell ⟨g, 4, none⟩ e).setCell ⟨g, 5, none⟩ f).heap[g]? = some (.cells #[a, b, c, d, e, f, x6, x7] t (0, 0)) := set_blkN (k := 5) (u := f) h4
  have h6 : (((((((W.setCell ⟨g, 0, none⟩ a).setCell ⟨g, 1, none⟩ b).setCell ⟨g, 2, none⟩ c).setCell ⟨g, 3, none⟩ d).setCell ⟨g, 4, none⟩ e).setCell ⟨g, 5, none⟩ f).setCell ⟨g, 6, none⟩ k).heap[g]? = some (.cells #[a, b, c, d, e, f, k, x7] t (0, 0)) := set_blkN (k := 6) (u := k) h5
  have h7 : ((((((((W.setCell ⟨g, 0, none⟩ a).setCell ⟨g, 1, none⟩ b).setCell ⟨g, 2, none⟩ c).setCell ⟨g, 3, none⟩ d).setCell ⟨g, 4, none⟩ e).setCell ⟨g, 5, none⟩ f).setCell ⟨g, 6, none⟩ k).setCell ⟨g, 7, none⟩ i).heap[g]? = some (.cells #[a, b, c, d, e, f, k, i] t (0, 0)) := set_blkN (k := 7) (u := i) h6
  exact h7
theorem rset8_below {w W : World} {B g : Nat} (h : Below B w W) (hg : B ≤ g) (a b c d e f k i : Value) : Below B w (rset8 W g a b c d e f k i) := (((((((h.setCell (p := ⟨g, 0, none⟩) hg a).setCell (p := ⟨g, 1, none⟩) hg b).setCell (p := ⟨g, 2, none⟩) hg c).setCell (p := ⟨g, 3, none⟩) hg d).setCell (p := ⟨g, 4, none⟩) hg e).setCell (p := ⟨g, 5, none⟩) hg f).setCell (p := ⟨g, 6, none⟩) hg k).setCell (p := ⟨g, 7, none⟩) hg i
set_option maxRecDepth 20000 in
set_option maxHeartbeats 8000000 in
theorem rRead_leaf (b off n c : Nat) (l : List UInt8) (B : Nat) (w : World) (hp : PcT.Ok w B ⟨some ⟨b, off, none⟩, n, c, l⟩) (hB : B ≤ w.heap.size) (hn : 2 ≤ n) (x0 x1 : UInt8) (h0 : l[0]? = some x0) (h1 : l[1]? = some x1) (h6 : x1.toNat ≤ 6) (hlf : (((x0.toNat : Nat) : Int) == 1) = true) :
    Calls Try.prog 26 #[.slice (some ⟨b, off, none⟩) n c] w (ReaP ⟨some ⟨b, off, none⟩, n, c, l⟩ w) := by
  have hsp := spI_zero h0 h1 hlf
  have hfi := hp.fits
  have hmo := hp.most
  have hlen := hp.len
  simp only at hfi hmo hlen
  obtain ⟨b', off', hbe, hbB, hcl⟩ := hp.here.2 (show 0 < n by omega)
  injection hbe with hbe
  injection hbe with e1 e2
  subst e1 e2
  have y0 : w.cell? ⟨b, off, none⟩ = some (.int .u8 (x0.toNat : Nat)) := by
    have h := hcl 0 (bv x0) (by rw [List.getElem?_map, h0]; rfl)
    rw [Nat.add_zero] at h
    exact h
  have y1 : w.cell? ⟨b, off + 1, none⟩ = some (.int .u8 (x1.toNat : Nat)) := hcl 1 (bv x1) (by rw [List.getElem?_map, h1]; rfl)
  generalize x0.toNat = xx at *
  generalize x1.toNat = N at *
  have HP := Lib.hid hp
  have hbw : b < w.heap.size := by omega
  obtain ⟨i0, hi, hz0, hz1, hz2⟩ := nitem_info
  have hb1 := bel_alloc (Below.refl w.heap.size w) (.cells #[.bool false, .slice none 0 0, .slice none 0 0] 25)
  have hX2 := heap_alloc_new w (.cells #[.bool false, .slice none 0 0, .slice none 0 0] 25)
  have hs1 : w.heap.size + 1 = (w.alloc (.cells #[.bool false, .slice none 0 0, .slice none 0 0] 25)).heap.size := (World.size_alloc _ _).symm
  have v0 := (hb1.cell (show b < w.heap.size from hbw)).trans y0
  have v1 := (hb1.cell (show b < w.heap.size from hbw)).trans y1
  have hN6 : ¬ (6 : Int) < (N : Int) := by omega
  have hn2 : ¬ (n : Int) < 2 := by omega
  have hi0 : (0 : Int) < (n : Int) := by omega
  have hi1 : (1 : Int) < (n : Int) := by omega
  have hi2 : (2 : Int) ≤ (n : Int) := by omega
  have hnc : (n : Int) ≤ (c : Int) := by omega
  have hc2 : (2 : Int) ≤ (c : Int) := by omega
  have hc63 : c ≤ 9223372036854775807 := by unfold maxLen at hmo; exact hmo
  clear hcl h0 h1 hp
  go_enter Try.func26, Try.ntmps26
  go_upto_region 3 with fail
  generalize w.alloc (.cells #[.bool false, .slice none 0 0, .slice none 0 0] 25) = W1 at *
  have hb2 := bel_alloc hb1 (.cells #[.bool true, .slice none 0 0, .slice none 0 0] 25)
  have hX4 := heap_alloc_new W1 (.cells #[.bool true, .slice none 0 0, .slice none 0 0] 25)
  have hX2 := blk_later hX2 (bel_alloc (Below.refl W1.heap.size W1) (.cells #[.bool true, .slice none 0 0, .slice none 0 0] 25))
  have hsz2 : w.heap.size + 2 ≤ (W1.alloc (.cells #[.bool true, .slice none 0 0, .slice none 0 0] 25)).heap.size := by rw [World.size_alloc]; omega
  rw [← hs1] at hX4
  have HS1 := Lib.hid hs1
  clear hs1
  go_upto_region 4 with fail
  rw [← HS1.out]
  generalize W1.alloc (.cells #[.bool true, .slice none 0 0, .slice none 0 0] 25) = W2 at *
  clear v0 v1 y0 hlf
  have HY1 := Lib.hid y1
  clear y1
  go_cut [5] (fun s wx => ∃ q : PcT, s = .slice q.A q.n q.c ∧ Hid (q.l = l.drop 2) ∧ Hid (q.Ok w B) ∧ W2 = wx)
  case first =>
    by_cases hck : c = 2
    · have hl2 : l.drop 2 = [] := List.drop_eq_nil_of_le (by omega)
      have hq : PcT.Ok w B ⟨some ⟨b, off, none⟩, 0, 0, []⟩ := ⟨Bytes.zero _, nofun, Nat.le_refl _, by show 0 ≤ maxLen; omega⟩
      obtain rfl : n = 2 := by omega
      subst hck
      go_wp2_with fail
      go_meet
      case rel => exact ⟨⟨some ⟨b, off, none⟩, 0, 0, []⟩, rfl, Lib.hid hl2.symm, Lib.hid hq, rfl⟩
    · have hq := HP.out
      have hcut := Shows.cut HP.out.here (show 2 ≤ n by omega) hfi
      rw [if_neg hck, Option.map_some, addr_add, Nat.mul_one, ← List.map_drop] at hcut
      have hqo : PcT.Ok w B ⟨some ⟨b, off + 2, none⟩, n - 2, c - 2, l.drop 2⟩ := ⟨hcut, nofun, by show n - 2 ≤ c - 2; omega, by show c - 2 ≤ maxLen; omega⟩
      clear hq hcut
      go_wp2_with fail
      go_meet
      case rel => exact ⟨⟨some ⟨b, off + 2, none⟩, n - 2, c - 2, l.drop 2⟩, rfl, Lib.hid rfl, Lib.hid hqo, rfl⟩
  case rest =>
    obtain ⟨q0, rfl, hql, hqo, rfl⟩ := hcut
    have HSP0 : Hid (SpI l N 0 [] q0.l) := Lib.hid (by rw [hql.out]; exact hsp)
    have HREA0 : Hid (ReaN ⟨true, none, 0, 0, [], none, 0, 0, []⟩ w.heap.size B W2) := Lib.hid ⟨World.ownsRow_nil _ _ _ _, World.ownsRow_nil _ _ _ _, fun x hx => (by cases hx), fun x hx => (by cases hx), by omega⟩
    have HX2 := Lib.hid hX2
    have HX4 := Lib.hid hX4
    have hiN : IntKind.i64.wrap (N : Int) = (N : Int) := by rw [IntKind.wrap_i64]; omega
    have HQ0 := Lib.hid (hqo.out.later (hb2.mono hB))
    clear hsp hX2 hX4 hql hqo hb1 hN6 hn2 hi0 hi2 hnc hc2
    go_wp2_with fail
    go_loopw [5, 6] (fun s y wr => ∃ (i : Nat) (q : PcT) (I : List ItT) (A : Option Addr) (c' : Nat), i ≤ N ∧ y = .int .i64 i ∧ s = .slice q.A q.n q.c ∧ Hid (q.Ok wr B) ∧ Hid (ReaN ⟨true, A, i, c', I, none, 0, 0, []⟩ w.heap.size B wr) ∧ Hid (wr.heap[w.heap.size + 1]? = some (.cells #[.bool true, .slice A i c', .slice none 0 0] 25 (0, 0))) ∧ Hid (wr.heap[w.heap.size]? = some (.cells #[.bool false, .slice none 0 0, .slice none 0 0] 25 (0, 0))) ∧ Hid (SpI l N i I q.l) ∧ Hid (I.length = i) ∧ Below w.heap.size w wr ∧ w.heap.size + 2 ≤ wr.heap.size) (fun _ y _ => N - (intOf y).toNat)
    case atStart => exact ⟨0, q0, [], none, 0, Nat.zero_le _, rfl, rfl, HQ0, HREA0, HX4, HX2, HSP0, Lib.hid rfl, hb2, hsz2⟩
    case round =>
      clear hb2 hsz2
      obtain ⟨i, q, I, A, c', hiN', rfl, rfl, HQ, HREA, H4, H2, HSP, HIL, hbr, hszr⟩ := hrel
      rename World => wr
      have v1 := (hbr.cell (show b < w.heap.size from hbw)).trans HY1.out
      by_cases hlt : i < N
      · obtain ⟨⟨n0, n1, n2⟩, -⟩ := nbox_blk H4.out
        have hlt' : (i : Int) < (N : Int) := by omega
        have hba := bel_alloc (Below.refl wr.heap.size wr) (.cells #[.slice none 0 0, .slice none 0 0, .bool false, .int .i64 0] 58)
        have hX8 := heap_alloc_new wr (.cells #[.slice none 0 0, .slice none 0 0, .bool false, .int .i64 0] 58)
        have hci := rItem14_any q B _ (HQ.out.later (hba.mono (Nat.le_trans hB (Nat.le_trans (Nat.le_add_right _ 2) hszr)))) (Nat.le_trans hB (Nat.le_trans (Nat.le_trans (Nat.le_add_right _ 2) hszr) hba.size))
        go_upto_region 11 with fail
        obtain ⟨g8, hg8⟩ : ∃ g8, wr.heap.size = g8 := ⟨_, rfl⟩
        have HG8 := Lib.hid hg8
        rw [hg8] at hX8 ⊢
        clear hg8 n0 n1 n2 v1
        generalize wr.alloc (.cells #[.slice none 0 0, .slice none 0 0, .bool false, .int .i64 0] 58) = wa at *
        go_wp2_with fail
        refine hci.mono ?_
        rintro e wb ⟨hbb, ok, x, q', rfl, hx, hq', hfin⟩
        have hst := spI_step HSP.out hlt hfin
        have hbab := bel_next hba hbb
        have hX8b := blk_later hX8 hbb
        have hag : x.agg = .agg #[.slice x.k.A x.k.n x.k.c, .slice x.v.A x.v.n x.v.c, .bool x.b, .int .i64 x.n] := rfl
        rw [hag]
        obtain ⟨⟨b0, b1, b2, b3⟩, f0, f1, f2, f3⟩ := box4_all hX8b
        have hX8c := rset4_blk hX8b (.slice x.k.A x.k.n x.k.c) (.slice x.v.A x.v.n x.v.c) (.bool x.b) (.int .i64 x.n)
        have hbc := rset4_below hbab (show wr.heap.size ≤ g8 from Nat.le_of_eq HG8.out) (.slice x.k.A x.k.n x.k.c) (.slice x.v.A x.v.n x.v.c) (.bool x.b) (.int .i64 x.n)
        have hszc := hbc.size
        have hxc := hx.later (rset4_below (Below.refl B wb) (show B ≤ g8 by have h9 := HG8.out; omega) (.slice x.k.A x.k.n x.k.c) (.slice x.v.A x.v.n x.v.c) (.bool x.b) (.int .i64 x.n))
        have hqc := hq'.later (rset4_below (Below.refl B wb) (show B ≤ g8 by have h9 := HG8.out; omega) (.slice x.k.A x.k.n x.k.c) (.slice x.v.A x.v.n x.v.c) (.bool x.b) (.int .i64 x.n))
        unfold rset4 at hX8c hbc hszc hxc hqc
        clear hci hfin hag hba hbb hX8 hX8b
        go_upto_region 12 with fail
        obtain ⟨wc, hwc⟩ : ∃ W, (((wb.setCell ⟨g8, 0, none⟩ (.slice x.k.A x.k.n x.k.c)).setCell ⟨g8, 1, none⟩ (.slice x.v.A x.v.n x.v.c)).setCell ⟨g8, 2, none⟩ (.bool x.b)).setCell ⟨g8, 3, none⟩ (.int .i64 x.n) = W := ⟨_, rfl⟩
        rw [hwc] at hX8c hbc hszc hxc hqc ⊢
        clear hwc b0 b1 b2 b3 f0 f1 f2 f3
        have HXC := Lib.hid hxc
        have HQC := Lib.hid hqc
        have hr4 := blk_later H4.out hbc
        have hr2 := blk_later H2.out hbc
        have hrea := HREA.out.later hbc
        have hIL := HIL.out
        obtain ⟨⟨u0, u1, u2, u3⟩, -⟩ := box4_all hX8c
        obtain ⟨⟨n0, n1, n2⟩, -⟩ := nbox_blk hr4
        have hal := bel_alloc (Below.refl wc.heap.size wc) (.cells #[.slice x.k.A x.k.n x.k.c, .slice x.v.A x.v.n x.v.c, .bool x.b, .int .i64 x.n] 58)
        have hnewb := heap_alloc_new wc (.cells #[.slice x.k.A x.k.n x.k.c, .slice x.v.A x.v.n x.v.c, .bool x.b, .int .i64 x.n] 58)
        have hrea1 := hrea.later hal
        have hr41 := blk_later hr4 hal
        have hr21 := blk_later hr2 hal
        have hDa : w.heap.size ≤ (wc.alloc (.cells #[.slice x.k.A x.k.n x.k.c, .slice x.v.A x.v.n x.v.c, .bool x.b, .int .i64 x.n] 58)).heap.size := by have h9 := hal.size; omega
        have hbd := hbr.trans ((hbc.trans (hal.mono hszc)).mono (by omega))
        have hma : i + 1 ≤ maxLen := by unfold maxLen; omega
        have hmb : (i + 1) * 64 ≤ 140737488355328 := by omega
        have own0 : (wc.alloc (.cells #[.slice x.k.A x.k.n x.k.c, .slice x.v.A x.v.n x.v.c, .bool x.b, .int .i64 x.n] 58)).ownsRow w.heap.size 58 4 (.slice A i c') i (I.flatMap ItT.cells) := hrea1.irow
        clear hal
        cases ok
        · skip
          go_wp2_with (at_builtin; refine wpList_append_shows _ rfl _ _ 22 rfl w.heap.size 58 i0 (.agg #[.slice none 0 0, .slice none 0 0, .bool false, .int .i64 0]) 4 64 Try.underlying22 hi hz0 hz1 hz2 rfl (by decide) _ _ _ rfl own0 _ _ 1 _ _ rfl (shows_blk hnewb rfl) (by intro u hu; exact cells_it1 [x] u (by simpa [ItT.cells] using hu)) hma hmb hDa ?_; intro A7 c7 w7 hown hgrow hbb7; have h47 := blk_other hr41 hgrow (own_blk_ne own0 hr41 (by decide)); have h27 := blk_other hr21 hgrow (own_blk_ne own0 hr21 (by decide)); have HO7 := Lib.hid hown; have HB7 := Lib.hid hbb7; obtain ⟨⟨p0, p1, p2⟩, pf0, pf1, pf2⟩ := nbox_blk h47; obtain ⟨⟨z0, z1, z2⟩, yf0, yf1, yf2⟩ := nbox_blk h27; clear hown hgrow own0 hnewb n0 n1 n2)
          have hI7 : I.flatMap ItT.cells ++ [.slice x.k.A x.k.n x.k.c, .slice x.v.A x.v.n x.v.c, .bool x.b, .int .i64 x.n] = (I ++ [x]).flatMap ItT.cells := by rw [List.flatMap_append, List.flatMap_singleton]; rfl
          have hrea7 : ReaN ⟨true, A7, i + 1, c7, I ++ [x], none, 0, 0, []⟩ w.heap.size B w7 := ⟨by show w7.ownsRow _ _ _ _ _ ((I ++ [x]).flatMap ItT.cells); rw [← hI7]; exact HO7.out, World.ownsRow_nil _ _ _ _, fun y hy => (List.mem_append.1 hy).elim (fun h => (hrea1.items y h).later (HB7.out.mono hB)) (fun h => by rw [List.mem_singleton.1 h]; exact (HXC.out.later ((Below.refl B wc).alloc (show B ≤ wc.heap.size by omega) _)).later (HB7.out.mono hB)), fun y hy => (by cases hy), Nat.le_trans hrea1.bound HB7.out.size⟩
          have hrea8 := hrea7.set1 (k := 1) h47 (show B ≤ w.heap.size + 1 by omega) (.slice A7 (i + 1) c7)
          have h48 := set_blkN (k := 1) (u := .slice A7 (i + 1) c7) h47
          have h28 := (set_othN (W := w7) (g := w.heap.size + 1) (k := 1) (u := .slice A7 (i + 1) c7) (show w.heap.size ≠ w.heap.size + 1 by omega)).trans h27
          have hbz8 := (hbd.trans HB7.out).setCell (p := ⟨w.heap.size + 1, 1, none⟩) (show w.heap.size ≤ w.heap.size + 1 by omega) (.slice A7 (i + 1) c7)
          have hq8 := HQC.out.later (((Below.refl B wc).alloc (show B ≤ wc.heap.size by omega) (.cells #[.slice x.k.A x.k.n x.k.c, .slice x.v.A x.v.n x.v.c, .bool x.b, .int .i64 x.n] 58)).trans (HB7.out.mono hB))
          have hq9 := hq8.later ((Below.refl B w7).setCell (p := ⟨w.heap.size + 1, 1, none⟩) (show B ≤ w.heap.size + 1 by omega) (.slice A7 (i + 1) c7))
          have hsz8 : w.heap.size + 2 ≤ w7.heap.size := by have h9 := HB7.out.size; rw [World.size_alloc] at h9; omega
          have HREA8 := Lib.hid hrea8
          have H48 := Lib.hid h48
          have H28 := Lib.hid h28
          have HQ9 := Lib.hid hq9
          have HST := Lib.hid hst
          have HBZ8 := Lib.hid hbz8
          have HIL8 : Hid ((I ++ [x]).length = i + 1) := Lib.hid (by rw [List.length_append, HIL.out]; rfl)
          clear p0 p1 p2 pf0 pf1 pf2 h47 h27 hrea8 h48 h28 hq8 hq9 hst hbz8 hrea7 hrea1 hrea hr4 hr2 hr41 hr21 hI7 hbd hDa hma hmb hX8c hbc hszc hxc hqc hIL u0 u1 u2 u3
          have hbz3 := set3_below HBZ8.out (Nat.le_refl w.heap.size) (.bool false) (.slice none 0 0) (.slice none 0 0)
          unfold set3 at hbz3
          go_wp2
          refine bodyPost_ret (v := .tuple #[.agg #[.bool false, .slice none 0 0, .slice none 0 0], .bool false]) ?_ rfl ⟨hbz3, .inl ⟨rfl, HST.out.1 (by first | rfl | trivial)⟩⟩
          simp [results, Try.results26, go_sem, *]
        · skip
          go_wp2_with (at_builtin; refine wpList_append_shows _ rfl _ _ 22 rfl w.heap.size 58 i0 (.agg #[.slice none 0 0, .slice none 0 0, .bool false, .int .i64 0]) 4 64 Try.underlying22 hi hz0 hz1 hz2 rfl (by decide) _ _ _ rfl own0 _ _ 1 _ _ rfl (shows_blk hnewb rfl) (by intro u hu; exact cells_it1 [x] u (by simpa [ItT.cells] using hu)) hma hmb hDa ?_; intro A7 c7 w7 hown hgrow hbb7; have h47 := blk_other hr41 hgrow (own_blk_ne own0 hr41 (by decide)); have h27 := blk_other hr21 hgrow (own_blk_ne own0 hr21 (by decide)); have HO7 := Lib.hid hown; have HB7 := Lib.hid hbb7; obtain ⟨⟨p0, p1, p2⟩, pf0, pf1, pf2⟩ := nbox_blk h47; clear hown hgrow own0 hnewb n0 n1 n2)
          have hI7 : I.flatMap ItT.cells ++ [.slice x.k.A x.k.n x.k.c, .slice x.v.A x.v.n x.v.c, .bool x.b, .int .i64 x.n] = (I ++ [x]).flatMap ItT.cells := by rw [List.flatMap_append, List.flatMap_singleton]; rfl
          have hrea7 : ReaN ⟨true, A7, i + 1, c7, I ++ [x], none, 0, 0, []⟩ w.heap.size B w7 := ⟨by show w7.ownsRow _ _ _ _ _ ((I ++ [x]).flatMap ItT.cells); rw [← hI7]; exact HO7.out, World.ownsRow_nil _ _ _ _, fun y hy => (List.mem_append.1 hy).elim (fun h => (hrea1.items y h).later (HB7.out.mono hB)) (fun h => by rw [List.mem_singleton.1 h]; exact (HXC.out.later ((Below.refl B wc).alloc (show B ≤ wc.heap.size by omega) _)).later (HB7.out.mono hB)), fun y hy => (by cases hy), Nat.le_trans hrea1.bound HB7.out.size⟩
          have hrea8 := hrea7.set1 (k := 1) h47 (show B ≤ w.heap.size + 1 by omega) (.slice A7 (i + 1) c7)
          have h48 := set_blkN (k := 1) (u := .slice A7 (i + 1) c7) h47
          have h28 := (set_othN (W := w7) (g := w.heap.size + 1) (k := 1) (u := .slice A7 (i + 1) c7) (show w.heap.size ≠ w.heap.size + 1 by omega)).trans h27
          have hbz8 := (hbd.trans HB7.out).setCell (p := ⟨w.heap.size + 1, 1, none⟩) (show w.heap.size ≤ w.heap.size + 1 by omega) (.slice A7 (i + 1) c7)
          have hq8 := HQC.out.later (((Below.refl B wc).alloc (show B ≤ wc.heap.size by omega) (.cells #[.slice x.k.A x.k.n x.k.c, .slice x.v.A x.v.n x.v.c, .bool x.b, .int .i64 x.n] 58)).trans (HB7.out.mono hB))
          have hq9 := hq8.later ((Below.refl B w7).setCell (p := ⟨w.heap.size + 1, 1, none⟩) (show B ≤ w.heap.size + 1 by omega) (.slice A7 (i + 1) c7))
          have hsz8 : w.heap.size + 2 ≤ w7.heap.size := by have h9 := HB7.out.size; rw [World.size_alloc] at h9; omega
          have HREA8 := Lib.hid hrea8
          have H48 := Lib.hid h48
          have H28 := Lib.hid h28
          have HQ9 := Lib.hid hq9
          have HST := Lib.hid hst
          have HBZ8 := Lib.hid hbz8
          have HIL8 : Hid ((I ++ [x]).length = i + 1) := Lib.hid (by rw [List.length_append, HIL.out]; rfl)
          clear p0 p1 p2 pf0 pf1 pf2 h47 h27 hrea8 h48 h28 hq8 hq9 hst hbz8 hrea7 hrea1 hrea hr4 hr2 hr41 hr21 hI7 hbd hDa hma hmb hX8c hbc hszc hxc hqc hIL u0 u1 u2 u3
          go_wp2_with fail
          go_roundw
          case rel => first | exact ⟨i + 1, q', I ++ [x], A7, c7, by omega, by go_num, rfl, HQ9, HREA8, H48, H28, Lib.hid HST.out.2, HIL8, HBZ8.out, by rw [size_set]; exact hsz8⟩ | exact ⟨_, ⟨i + 1, q', I ++ [x], A7, c7, by omega, by go_num, rfl, HQ9, HREA8, H48, H28, Lib.hid HST.out.2, HIL8, HBZ8.out, by rw [size_set]; exact hsz8⟩, rfl⟩
          case measure => simp [intOf]; omega
      · obtain rfl : N = i := by omega
        obtain ⟨W5, hW5⟩ : ∃ W, wr = W := ⟨_, rfl⟩
        obtain ⟨X, hX⟩ : ∃ X : NoT, X = ⟨true, A, N, c', I, none, 0, 0, []⟩ := ⟨_, rfl⟩
        have HAG : Hid (X.agg = .agg #[.bool true, .slice A N c', .slice none 0 0]) := Lib.hid (by rw [hX]; rfl)
        have hEND : ∀ Z, Hyp l Z → X.okB = true ∧ X.enc = l := fun Z hZ => by
          rw [hX]
          exact spI_end HSP.out HIL.out Z hZ
        have HREAX : Hid (ReaN X w.heap.size B W5) := Lib.hid (by rw [hX, ← hW5]; exact HREA.out)
        rw [hW5] at H4 H2 hbr v1 hszr HQ ⊢
        clear HREA hW5 hX HSP HIL hlt hiN'
        have HREA := HREAX
        clear HREAX
        have HBW := Lib.hid hbr
        have hrn := nbox_blk H4.out
        have m0 : ∀ W, Below W5.heap.size W5 W → W.cell? ⟨w.heap.size + 1, 0, none⟩ = _ := fun W h => (hrn.later h).1.1
        have m1 : ∀ W, Below W5.heap.size W5 W → W.cell? ⟨w.heap.size + 1, 1, none⟩ = _ := fun W h => (hrn.later h).1.2.1
        have m2 : ∀ W, Below W5.heap.size W5 W → W.cell? ⟨w.heap.size + 1, 2, none⟩ = _ := fun W h => (hrn.later h).1.2.2
        have hcR : ∀ W, Below W5.heap.size W5 W → Calls Try.prog 13 #[.agg #[.bool true, .slice A N c', .slice none 0 0]] W fun e w' => e = .returned (.bool X.okB) ∧ Below W.heap.size W w' := fun W h => by
          have h9 := rRight14_any X _ W (HREA.out.later h).lie (Nat.le_refl _)
          rw [HAG.out] at h9
          exact h9
        have HcB : Hid (X.okB = true → ∀ W, Below W5.heap.size W5 W → Calls Try.prog 23 #[.agg #[.bool true, .slice A N c', .slice none 0 0]] W (GivesBytes 5 X.enc W)) := Lib.hid (fun hk W h => by
          have h9 := rBytes14_any X _ W (HREA.out.later h).lie (Nat.le_refl _) hk
          rw [HAG.out] at h9
          exact h9)
        obtain ⟨s1, hs1⟩ : ∃ s, ofL X.enc = s := ⟨_, rfl⟩
        obtain ⟨s2, hs2⟩ : ∃ s, ofL l = s := ⟨_, rfl⟩
        have t1 := bofL_beq X.enc l
        rw [hs1, hs2] at t1
        have HS1 := Lib.hid hs1
        have Hkp := Lib.hid (fun W (h : Below W5.heap.size W5 W) => (by
          have h9 := run_bytes_string (P := Try.prog) Try.underlying32 Try.underlying5 Try.underlying9 W (some ⟨b, off, none⟩) n c B l (HP.out.later ((HBW.out.trans (h.mono (by omega))).mono hB)).here
          rw [hs2] at h9
          exact h9 : _))
        clear hs1 hs2 hrn
        by_cases hk : X.okB = true
        · have HcB := Lib.hid (HcB.out hk)
          rw [hk] at hcR
          have HcR := Lib.hid hcR
          have HOK := Lib.hid hk
          clear hcR hk
          by_cases he : X.enc = l
          · have HEN := Lib.hid he
            rw [show sameB X.enc l = true from sameB_iff2.2 he] at t1
            have t2 : (s1.toList != s2.toList) = false := by rw [bne, t1]; rfl
            clear he hEND
            go_upto_region 18 with fail
            clear v1
            refine wp_region_held_drew (S := fun W => Below W5.heap.size W5 W) (by kernel_rfl) (below_drewN (Below.refl _ _) 1) (fun hHeld => ?_)
            refine rg_in 0 rfl (by kernel_rfl) (by kernel_rfl) (by kernel_rfl) (by rfl) (v := ?_) (fun _ _ _ h => h) hHeld (fun w hSw => ?_) ?_
            rotate_left
            · (try dsimp only at hSw); go_simp <;> (with_reducible rfl)
            (try simp only [Act.put, List.setIfInBounds_toArray, List.set_cons_zero, List.set_cons_succ])
            refine rg_do 1 rfl (by kernel_rfl) (by rfl) (fun K hK => ?_)
            go_simp
            (go_at_call 13; (with_reducible refine (HcR.out _ hHeld).mono ?_); (rintro e w101 ⟨rfl, hbs⟩))
            have hHx := bel_next hHeld hbs
            refine hK.out _ _ hHx (fun hHeld => ?_)
            clear hK K
            (try simp only [Act.put, List.setIfInBounds_toArray, List.set_cons_zero, List.set_cons_succ])
            refine rg_in 2 rfl (by kernel_rfl) (by kernel_rfl) (by kernel_rfl) (by rfl) (v := ?_) (fun _ _ _ h => h) hHeld (fun w hSw => ?_) ?_
            rotate_left
            · (try dsimp only at hSw); go_simp <;> (with_reducible rfl)
            (try simp only [Act.put, List.setIfInBounds_toArray, List.set_cons_zero, List.set_cons_succ])
            refine rg_in 3 rfl (by kernel_rfl) (by kernel_rfl) (by kernel_rfl) (by rfl) (v := ?_) (fun _ _ _ h => h) hHeld (fun w hSw => ?_) ?_
            rotate_left
            · (try dsimp only at hSw); go_simp <;> (with_reducible rfl)
            (try simp only [Act.put, List.setIfInBounds_toArray, List.set_cons_zero, List.set_cons_succ])
            refine rg_in 4 rfl (by kernel_rfl) (by kernel_rfl) (by kernel_rfl) (by rfl) (v := ?_) (fun _ _ _ h => h) hHeld (fun w hSw => ?_) ?_
            rotate_left
            · (try dsimp only at hSw); go_simp <;> (with_reducible rfl)
            (try simp only [Act.put, List.setIfInBounds_toArray, List.set_cons_zero, List.set_cons_succ])
            refine rg_in 7 rfl (by kernel_rfl) (by kernel_rfl) (by kernel_rfl) (by rfl) (v := ?_) (fun _ _ _ h => h) hHeld (fun w hSw => ?_) ?_
            rotate_left
            · (try dsimp only at hSw); go_simp <;> (with_reducible rfl)
            (try simp only [Act.put, List.setIfInBounds_toArray, List.set_cons_zero, List.set_cons_succ])
            refine wpAnyH_ready (rs := [5, 8]) (by kernel_rfl) (by simp) ?_
            refine rg_cons rfl (by rfl) (fun K hK => ?_) ?_
            · go_simp
              (go_at_call 23; (with_reducible refine (HcB.out _ hHeld).mono ?_); (rintro e w105 ⟨Ab, nb, cb, rfl, hOb, hbs⟩))
              have hHx := bel_next hHeld hbs
              have kb1 := run_bytes_string (P := Try.prog) Try.underlying32 Try.underlying5 Try.underlying9 w105 Ab nb cb _ X.enc (Bytes.own hOb)
              rw [HS1.out] at kb1
              have kp1 := Hkp.out _ hHx
              refine hK.out _ _ hHx (fun hHeld => ?_)
              clear hK K
              (try simp only [Act.put, List.setIfInBounds_toArray, List.set_cons_zero, List.set_cons_succ])
              refine wpAnyH_ready (rs := [6, 8]) (by kernel_rfl) (by simp) ?_
              refine rg_cons rfl (by rfl) (fun K hK => ?_) ?_
              · have hHx := hHeld
                have kp1 := Hkp.out _ hHeld
                go_simp
                refine hK.out _ _ hHx (fun hHeld => ?_)
                clear hK K
                (try simp only [Act.put, List.setIfInBounds_toArray, List.set_cons_zero, List.set_cons_succ])
                refine rg_do 8 rfl (by kernel_rfl) (by rfl) (fun K hK => ?_)
                have hHx := hHeld
                have kp1 := Hkp.out _ hHeld
                go_simp
                refine hK.out _ _ hHx (fun hHeld => ?_)
                clear hK K
                (try simp only [Act.put, List.setIfInBounds_toArray, List.set_cons_zero, List.set_cons_succ])
                refine rg_in 9 rfl (by kernel_rfl) (by kernel_rfl) (by kernel_rfl) (by rfl) (v := ?_) (fun _ _ _ h => h) hHeld (fun w hSw => ?_) ?_
                rotate_left
                · (try dsimp only at hSw); go_simp <;> (with_reducible rfl)
                (try simp only [Act.put, List.setIfInBounds_toArray, List.set_cons_zero, List.set_cons_succ])
                refine rg_in 10 rfl (by kernel_rfl) (by kernel_rfl) (by kernel_rfl) (by rfl) (v := ?_) (fun _ _ _ h => h) hHeld (fun w hSw => ?_) ?_
                rotate_left
                · (try dsimp only at hSw); go_simp <;> (with_reducible rfl)
                (try simp only [Act.put, List.setIfInBounds_toArray, List.set_cons_zero, List.set_cons_succ])
                refine wpAnyH_done (by kernel_rfl) ?_ _
                have hbz := HBW.out.trans (hHeld.mono HBW.out.size)
                have h2l := blk_later H2.out hHeld
                have h4l := blk_later H4.out hHeld
                have hrz := (HREA.out.later hHeld).set3 h2l hB (.bool true) (.slice A N c') (.slice none 0 0)
                have hLW := Lib.hid hrz.lie
                have hbz3 := set3_below hbz (Nat.le_refl w.heap.size) (.bool true) (.slice A N c') (.slice none 0 0)
                obtain ⟨⟨z0, z1, z2⟩, y0, y1, y2⟩ := nbox_blk h2l
                obtain ⟨⟨n0, n1, n2⟩, -⟩ := nbox_blk h4l
                unfold set3 at hbz3 hLW
                clear hHeld hHx kb1 kp1 hOb hbs hrz h2l h4l m0 m1 m2
                go_wp2
                refine bodyPost_ret (v := .tuple #[.agg #[.bool true, .slice A N c', .slice none 0 0], .bool true]) ?_ rfl ⟨hbz3, .inr ⟨X, by rw [HAG.out], HOK.out, HEN.out, hLW.out⟩⟩
                simp [results, Try.results26, go_sem, *]
              refine rg_cons rfl (by rfl) (fun K hK => ?_) ?_
              · have hHx := hHeld
                have kp1 := Hkp.out _ hHeld
                go_simp
                refine hK.out _ _ hHx (fun hHeld => ?_)
                clear hK K
                (try simp only [Act.put, List.setIfInBounds_toArray, List.set_cons_zero, List.set_cons_succ])
                refine rg_do 6 rfl (by kernel_rfl) (by rfl) (fun K hK => ?_)
                have hHx := hHeld
                have kp1 := Hkp.out _ hHeld
                go_simp
                refine hK.out _ _ hHx (fun hHeld => ?_)
                clear hK K
                (try simp only [Act.put, List.setIfInBounds_toArray, List.set_cons_zero, List.set_cons_succ])
                refine rg_in 9 rfl (by kernel_rfl) (by kernel_rfl) (by kernel_rfl) (by rfl) (v := ?_) (fun _ _ _ h => h) hHeld (fun w hSw => ?_) ?_
                rotate_left
                · (try dsimp only at hSw); go_simp <;> (with_reducible rfl)
                (try simp only [Act.put, List.setIfInBounds_toArray, List.set_cons_zero, List.set_cons_succ])
                refine rg_in 10 rfl (by kernel_rfl) (by kernel_rfl) (by kernel_rfl) (by rfl) (v := ?_) (fun _ _ _ h => h) hHeld (fun w hSw => ?_) ?_
                rotate_left
                · (try dsimp only at hSw); go_simp <;> (with_reducible rfl)
                (try simp only [Act.put, List.setIfInBounds_toArray, List.set_cons_zero, List.set_cons_succ])
                refine wpAnyH_done (by kernel_rfl) ?_ _
                have hbz := HBW.out.trans (hHeld.mono HBW.out.size)
                have h2l := blk_later H2.out hHeld
                have h4l := blk_later H4.out hHeld
                have hrz := (HREA.out.later hHeld).set3 h2l hB (.bool true) (.slice A N c') (.slice none 0 0)
                have hLW := Lib.hid hrz.lie
                have hbz3 := set3_below hbz (Nat.le_refl w.heap.size) (.bool true) (.slice A N c') (.slice none 0 0)
                obtain ⟨⟨z0, z1, z2⟩, y0, y1, y2⟩ := nbox_blk h2l
                obtain ⟨⟨n0, n1, n2⟩, -⟩ := nbox_blk h4l
                unfold set3 at hbz3 hLW
                clear hHeld hHx kb1 kp1 hOb hbs hrz h2l h4l m0 m1 m2
                go_wp2
                refine bodyPost_ret (v := .tuple #[.agg #[.bool true, .slice A N c', .slice none 0 0], .bool true]) ?_ rfl ⟨hbz3, .inr ⟨X, by rw [HAG.out], HOK.out, HEN.out, hLW.out⟩⟩
                simp [results, Try.results26, go_sem, *]
              exact AllReadyH.nil
            refine rg_cons rfl (by rfl) (fun K hK => ?_) ?_
            · have hHx := hHeld
              have kp1 := Hkp.out _ hHeld
              go_simp
              refine hK.out _ _ hHx (fun hHeld => ?_)
              clear hK K
              (try simp only [Act.put, List.setIfInBounds_toArray, List.set_cons_zero, List.set_cons_succ])
              refine rg_do 5 rfl (by kernel_rfl) (by rfl) (fun K hK => ?_)
              go_simp
              (go_at_call 23; (with_reducible refine (HcB.out _ hHeld).mono ?_); (rintro e w105 ⟨Ab, nb, cb, rfl, hOb, hbs⟩))
              have hHx := bel_next hHeld hbs
              have kb1 := run_bytes_string (P := Try.prog) Try.underlying32 Try.underlying5 Try.underlying9 w105 Ab nb cb _ X.enc (Bytes.own hOb)
              rw [HS1.out] at kb1
              have kp1 := Hkp.out _ hHx
              refine hK.out _ _ hHx (fun hHeld => ?_)
              clear hK K
              (try simp only [Act.put, List.setIfInBounds_toArray, List.set_cons_zero, List.set_cons_succ])
              refine rg_do 6 rfl (by kernel_rfl) (by rfl) (fun K hK => ?_)
              have hHx := hHeld
              have kp1 := Hkp.out _ hHeld
              go_simp
              refine hK.out _ _ hHx (fun hHeld => ?_)
              clear hK K
              (try simp only [Act.put, List.setIfInBounds_toArray, List.set_cons_zero, List.set_cons_succ])
              refine rg_in 9 rfl (by kernel_rfl) (by kernel_rfl) (by kernel_rfl) (by rfl) (v := ?_) (fun _ _ _ h => h) hHeld (fun w hSw => ?_) ?_
              rotate_left
              · (try dsimp only at hSw); go_simp <;> (with_reducible rfl)
              (try simp only [Act.put, List.setIfInBounds_toArray, List.set_cons_zero, List.set_cons_succ])
              refine rg_in 10 rfl (by kernel_rfl) (by kernel_rfl) (by kernel_rfl) (by rfl) (v := ?_) (fun _ _ _ h => h) hHeld (fun w hSw => ?_) ?_
              rotate_left
              · (try dsimp only at hSw); go_simp <;> (with_reducible rfl)
              (try simp only [Act.put, List.setIfInBounds_toArray, List.set_cons_zero, List.set_cons_succ])
              refine wpAnyH_done (by kernel_rfl) ?_ _
              have hbz := HBW.out.trans (hHeld.mono HBW.out.size)
              have h2l := blk_later H2.out hHeld
              have h4l := blk_later H4.out hHeld
              have hrz := (HREA.out.later hHeld).set3 h2l hB (.bool true) (.slice A N c') (.slice none 0 0)
              have hLW := Lib.hid hrz.lie
              have hbz3 := set3_below hbz (Nat.le_refl w.heap.size) (.bool true) (.slice A N c') (.slice none 0 0)
              obtain ⟨⟨z0, z1, z2⟩, y0, y1, y2⟩ := nbox_blk h2l
              obtain ⟨⟨n0, n1, n2⟩, -⟩ := nbox_blk h4l
              unfold set3 at hbz3 hLW
              clear hHeld hHx kb1 kp1 hOb hbs hrz h2l h4l m0 m1 m2
              go_wp2
              refine bodyPost_ret (v := .tuple #[.agg #[.bool true, .slice A N c', .slice none 0 0], .bool true]) ?_ rfl ⟨hbz3, .inr ⟨X, by rw [HAG.out], HOK.out, HEN.out, hLW.out⟩⟩
              simp [results, Try.results26, go_sem, *]
            exact AllReadyH.nil
          · have HNO : Hid (∀ Z, ¬ Hyp l Z) := Lib.hid (fun Z hZ => he (hEND Z hZ).2)
            rw [show sameB X.enc l = false by cases hv : sameB X.enc l; rfl; exact absurd (sameB_iff2.1 hv) he] at t1
            have t2 : (s1.toList != s2.toList) = true := by rw [bne, t1]; rfl
            clear he hEND
            go_upto_region 18 with fail
            clear v1
            refine wp_region_held_drew (S := fun W => Below W5.heap.size W5 W) (by kernel_rfl) (below_drewN (Below.refl _ _) 1) (fun hHeld => ?_)
            refine rg_in 0 rfl (by kernel_rfl) (by kernel_rfl) (by kernel_rfl) (by rfl) (v := ?_) (fun _ _ _ h => h) hHeld (fun w hSw => ?_) ?_
            rotate_left
            · (try dsimp only at hSw); go_simp <;> (with_reducible rfl)
            (try simp only [Act.put, List.setIfInBounds_toArray, List.set_cons_zero, List.set_cons_succ])
            refine rg_do 1 rfl (by kernel_rfl) (by rfl) (fun K hK => ?_)
            go_simp
            (go_at_call 13; (with_reducible refine (HcR.out _ hHeld).mono ?_); (rintro e w101 ⟨rfl, hbs⟩))
            have hHx := bel_next hHeld hbs
            refine hK.out _ _ hHx (fun hHeld => ?_)
            clear hK K
            (try simp only [Act.put, List.setIfInBounds_toArray, List.set_cons_zero, List.set_cons_succ])
            refine rg_in 2 rfl (by kernel_rfl) (by kernel_rfl) (by kernel_rfl) (by rfl) (v := ?_) (fun _ _ _ h => h) hHeld (fun w hSw => ?_) ?_
            rotate_left
            · (try dsimp only at hSw); go_simp <;> (with_reducible rfl)
            (try simp only [Act.put, List.setIfInBounds_toArray, List.set_cons_zero, List.set_cons_succ])
            refine rg_in 3 rfl (by kernel_rfl) (by kernel_rfl) (by kernel_rfl) (by rfl) (v := ?_) (fun _ _ _ h => h) hHeld (fun w hSw => ?_) ?_
            rotate_left
            · (try dsimp only at hSw); go_simp <;> (with_reducible rfl)
            (try simp only [Act.put, List.setIfInBounds_toArray, List.set_cons_zero, List.set_cons_succ])
            refine rg_in 4 rfl (by kernel_rfl) (by kernel_rfl) (by kernel_rfl) (by rfl) (v := ?_) (fun _ _ _ h => h) hHeld (fun w hSw => ?_) ?_
            rotate_left
            · (try dsimp only at hSw); go_simp <;> (with_reducible rfl)
            (try simp only [Act.put, List.setIfInBounds_toArray, List.set_cons_zero, List.set_cons_succ])
            refine rg_in 7 rfl (by kernel_rfl) (by kernel_rfl) (by kernel_rfl) (by rfl) (v := ?_) (fun _ _ _ h => h) hHeld (fun w hSw => ?_) ?_
            rotate_left
            · (try dsimp only at hSw); go_simp <;> (with_reducible rfl)
            (try simp only [Act.put, List.setIfInBounds_toArray, List.set_cons_zero, List.set_cons_succ])
            refine wpAnyH_ready (rs := [5, 8]) (by kernel_rfl) (by simp) ?_
            refine rg_cons rfl (by rfl) (fun K hK => ?_) ?_
            · go_simp
              (go_at_call 23; (with_reducible refine (HcB.out _ hHeld).mono ?_); (rintro e w105 ⟨Ab, nb, cb, rfl, hOb, hbs⟩))
              have hHx := bel_next hHeld hbs
              have kb1 := run_bytes_string (P := Try.prog) Try.underlying32 Try.underlying5 Try.underlying9 w105 Ab nb cb _ X.enc (Bytes.own hOb)
              rw [HS1.out] at kb1
              have kp1 := Hkp.out _ hHx
              refine hK.out _ _ hHx (fun hHeld => ?_)
              clear hK K
              (try simp only [Act.put, List.setIfInBounds_toArray, List.set_cons_zero, List.set_cons_succ])
              refine wpAnyH_ready (rs := [6, 8]) (by kernel_rfl) (by simp) ?_
              refine rg_cons rfl (by rfl) (fun K hK => ?_) ?_
              · have hHx := hHeld
                have kp1 := Hkp.out _ hHeld
                go_simp
                refine hK.out _ _ hHx (fun hHeld => ?_)
                clear hK K
                (try simp only [Act.put, List.setIfInBounds_toArray, List.set_cons_zero, List.set_cons_succ])
                refine rg_do 8 rfl (by kernel_rfl) (by rfl) (fun K hK => ?_)
                have hHx := hHeld
                have kp1 := Hkp.out _ hHeld
                go_simp
                refine hK.out _ _ hHx (fun hHeld => ?_)
                clear hK K
                (try simp only [Act.put, List.setIfInBounds_toArray, List.set_cons_zero, List.set_cons_succ])
                refine rg_in 9 rfl (by kernel_rfl) (by kernel_rfl) (by kernel_rfl) (by rfl) (v := ?_) (fun _ _ _ h => h) hHeld (fun w hSw => ?_) ?_
                rotate_left
                · (try dsimp only at hSw); go_simp <;> (with_reducible rfl)
                (try simp only [Act.put, List.setIfInBounds_toArray, List.set_cons_zero, List.set_cons_succ])
                refine rg_in 10 rfl (by kernel_rfl) (by kernel_rfl) (by kernel_rfl) (by rfl) (v := ?_) (fun _ _ _ h => h) hHeld (fun w hSw => ?_) ?_
                rotate_left
                · (try dsimp only at hSw); go_simp <;> (with_reducible rfl)
                (try simp only [Act.put, List.setIfInBounds_toArray, List.set_cons_zero, List.set_cons_succ])
                refine wpAnyH_done (by kernel_rfl) ?_ _
                have hbz := HBW.out.trans (hHeld.mono HBW.out.size)
                have hn2 := nbox_blk (blk_later H2.out hHeld)
                obtain ⟨⟨z0, z1, z2⟩, y0, y1, y2⟩ := hn2
                have hbz3 := ((hbz.setCell (p := ⟨w.heap.size, 0, none⟩) (Nat.le_refl _) (.bool false)).setCell (p := ⟨w.heap.size, 1, none⟩) (Nat.le_refl _) (.slice none 0 0)).setCell (p := ⟨w.heap.size, 2, none⟩) (Nat.le_refl _) (.slice none 0 0)
                clear hHeld hHx kb1 kp1 hOb hbs m0 m1 m2
                go_wp2
                refine bodyPost_ret (v := .tuple #[.agg #[.bool false, .slice none 0 0, .slice none 0 0], .bool false]) ?_ rfl ⟨hbz3, .inl ⟨rfl, HNO.out⟩⟩
                simp [results, Try.results26, go_sem, *]
              refine rg_cons rfl (by rfl) (fun K hK => ?_) ?_
              · have hHx := hHeld
                have kp1 := Hkp.out _ hHeld
                go_simp
                refine hK.out _ _ hHx (fun hHeld => ?_)
                clear hK K
                (try simp only [Act.put, List.setIfInBounds_toArray, List.set_cons_zero, List.set_cons_succ])
                refine rg_do 6 rfl (by kernel_rfl) (by rfl) (fun K hK => ?_)
                have hHx := hHeld
                have kp1 := Hkp.out _ hHeld
                go_simp
                refine hK.out _ _ hHx (fun hHeld => ?_)
                clear hK K
                (try simp only [Act.put, List.setIfInBounds_toArray, List.set_cons_zero, List.set_cons_succ])
                refine rg_in 9 rfl (by kernel_rfl) (by kernel_rfl) (by kernel_rfl) (by rfl) (v := ?_) (fun _ _ _ h => h) hHeld (fun w hSw => ?_) ?_
                rotate_left
                · (try dsimp only at hSw); go_simp <;> (with_reducible rfl)
                (try simp only [Act.put, List.setIfInBounds_toArray, List.set_cons_zero, List.set_cons_succ])
                refine rg_in 10 rfl (by kernel_rfl) (by kernel_rfl) (by kernel_rfl) (by rfl) (v := ?_) (fun _ _ _ h => h) hHeld (fun w hSw => ?_) ?_
                rotate_left
                · (try dsimp only at hSw); go_simp <;> (with_reducible rfl)
                (try simp only [Act.put, List.setIfInBounds_toArray, List.set_cons_zero, List.set_cons_succ])
                refine wpAnyH_done (by kernel_rfl) ?_ _
                have hbz := HBW.out.trans (hHeld.mono HBW.out.size)
                have hn2 := nbox_blk (blk_later H2.out hHeld)
                obtain ⟨⟨z0, z1, z2⟩, y0, y1, y2⟩ := hn2
                have hbz3 := ((hbz.setCell (p := ⟨w.heap.size, 0, none⟩) (Nat.le_refl _) (.bool false)).setCell (p := ⟨w.heap.size, 1, none⟩) (Nat.le_refl _) (.slice none 0 0)).setCell (p := ⟨w.heap.size, 2, none⟩) (Nat.le_refl _) (.slice none 0 0)
                clear hHeld hHx kb1 kp1 hOb hbs m0 m1 m2
                go_wp2
                refine bodyPost_ret (v := .tuple #[.agg #[.bool false, .slice none 0 0, .slice none 0 0], .bool false]) ?_ rfl ⟨hbz3, .inl ⟨rfl, HNO.out⟩⟩
                simp [results, Try.results26, go_sem, *]
              exact AllReadyH.nil
            refine rg_cons rfl (by rfl) (fun K hK => ?_) ?_
            · have hHx := hHeld
              have kp1 := Hkp.out _ hHeld
              go_simp
              refine hK.out _ _ hHx (fun hHeld => ?_)
              clear hK K
              (try simp only [Act.put, List.setIfInBounds_toArray, List.set_cons_zero, List.set_cons_succ])
              refine rg_do 5 rfl (by kernel_rfl) (by rfl) (fun K hK => ?_)
              go_simp
              (go_at_call 23; (with_reducible refine (HcB.out _ hHeld).mono ?_); (rintro e w105 ⟨Ab, nb, cb, rfl, hOb, hbs⟩))
              have hHx := bel_next hHeld hbs
              have kb1 := run_bytes_string (P := Try.prog) Try.underlying32 Try.underlying5 Try.underlying9 w105 Ab nb cb _ X.enc (Bytes.own hOb)
              rw [HS1.out] at kb1
              have kp1 := Hkp.out _ hHx
              refine hK.out _ _ hHx (fun hHeld => ?_)
              clear hK K
              (try simp only [Act.put, List.setIfInBounds_toArray, List.set_cons_zero, List.set_cons_succ])
              refine rg_do 6 rfl (by kernel_rfl) (by rfl) (fun K hK => ?_)
              have hHx := hHeld
              have kp1 := Hkp.out _ hHeld
              go_simp
              refine hK.out _ _ hHx (fun hHeld => ?_)
              clear hK K
              (try simp only [Act.put, List.setIfInBounds_toArray, List.set_cons_zero, List.set_cons_succ])
              refine rg_in 9 rfl (by kernel_rfl) (by kernel_rfl) (by kernel_rfl) (by rfl) (v := ?_) (fun _ _ _ h => h) hHeld (fun w hSw => ?_) ?_
              rotate_left
              · (try dsimp only at hSw); go_simp <;> (with_reducible rfl)
              (try simp only [Act.put, List.setIfInBounds_toArray, List.set_cons_zero, List.set_cons_succ])
              refine rg_in 10 rfl (by kernel_rfl) (by kernel_rfl) (by kernel_rfl) (by rfl) (v := ?_) (fun _ _ _ h => h) hHeld (fun w hSw => ?_) ?_
              rotate_left
              · (try dsimp only at hSw); go_simp <;> (with_reducible rfl)
              (try simp only [Act.put, List.setIfInBounds_toArray, List.set_cons_zero, List.set_cons_succ])
              refine wpAnyH_done (by kernel_rfl) ?_ _
              have hbz := HBW.out.trans (hHeld.mono HBW.out.size)
              have hn2 := nbox_blk (blk_later H2.out hHeld)
              obtain ⟨⟨z0, z1, z2⟩, y0, y1, y2⟩ := hn2
              have hbz3 := ((hbz.setCell (p := ⟨w.heap.size, 0, none⟩) (Nat.le_refl _) (.bool false)).setCell (p := ⟨w.heap.size, 1, none⟩) (Nat.le_refl _) (.slice none 0 0)).setCell (p := ⟨w.heap.size, 2, none⟩) (Nat.le_refl _) (.slice none 0 0)
              clear hHeld hHx kb1 kp1 hOb hbs m0 m1 m2
              go_wp2
              refine bodyPost_ret (v := .tuple #[.agg #[.bool false, .slice none 0 0, .slice none 0 0], .bool false]) ?_ rfl ⟨hbz3, .inl ⟨rfl, HNO.out⟩⟩
              simp [results, Try.results26, go_sem, *]
            exact AllReadyH.nil
        · have hk : X.okB = false := by simpa using hk
          have HNO : Hid (∀ Z, ¬ Hyp l Z) := Lib.hid (fun Z hZ => by rw [(hEND Z hZ).1] at hk; cases hk)
          rw [hk] at hcR
          have HcR := Lib.hid hcR
          clear hcR hk hEND t1
          go_upto_region 18 with fail
          clear v1
          refine wp_region_held_drew (S := fun W => Below W5.heap.size W5 W) (by kernel_rfl) (below_drewN (Below.refl _ _) 1) (fun hHeld => ?_)
          refine rg_in 0 rfl (by kernel_rfl) (by kernel_rfl) (by kernel_rfl) (by rfl) (v := ?_) (fun _ _ _ h => h) hHeld (fun w hSw => ?_) ?_
          rotate_left
          · (try dsimp only at hSw); go_simp <;> (with_reducible rfl)
          (try simp only [Act.put, List.setIfInBounds_toArray, List.set_cons_zero, List.set_cons_succ])
          refine rg_do 1 rfl (by kernel_rfl) (by rfl) (fun K hK => ?_)
          go_simp
          (go_at_call 13; (with_reducible refine (HcR.out _ hHeld).mono ?_); (rintro e w101 ⟨rfl, hbs⟩))
          have hHx := bel_next hHeld hbs
          refine hK.out _ _ hHx (fun hHeld => ?_)
          clear hK K
          (try simp only [Act.put, List.setIfInBounds_toArray, List.set_cons_zero, List.set_cons_succ])
          refine rg_in 2 rfl (by kernel_rfl) (by kernel_rfl) (by kernel_rfl) (by rfl) (v := ?_) (fun _ _ _ h => h) hHeld (fun w hSw => ?_) ?_
          rotate_left
          · (try dsimp only at hSw); go_simp <;> (with_reducible rfl)
          (try simp only [Act.put, List.setIfInBounds_toArray, List.set_cons_zero, List.set_cons_succ])
          refine rg_in 3 rfl (by kernel_rfl) (by kernel_rfl) (by kernel_rfl) (by rfl) (v := ?_) (fun _ _ _ h => h) hHeld (fun w hSw => ?_) ?_
          rotate_left
          · (try dsimp only at hSw); go_simp <;> (with_reducible rfl)
          (try simp only [Act.put, List.setIfInBounds_toArray, List.set_cons_zero, List.set_cons_succ])
          refine rg_off 4 rfl (by kernel_rfl) (by kernel_rfl) (by kernel_rfl) (by rfl) (fun _ _ _ h => h) hHeld ?_
          (try simp only [Act.put, List.setIfInBounds_toArray, List.set_cons_zero, List.set_cons_succ])
          refine rg_off 5 rfl (by kernel_rfl) (by kernel_rfl) (by kernel_rfl) (by rfl) (fun _ _ _ h => h) hHeld ?_
          (try simp only [Act.put, List.setIfInBounds_toArray, List.set_cons_zero, List.set_cons_succ])
          refine rg_off 6 rfl (by kernel_rfl) (by kernel_rfl) (by kernel_rfl) (by rfl) (fun _ _ _ h => h) hHeld ?_
          (try simp only [Act.put, List.setIfInBounds_toArray, List.set_cons_zero, List.set_cons_succ])
          refine rg_off 7 rfl (by kernel_rfl) (by kernel_rfl) (by kernel_rfl) (by rfl) (fun _ _ _ h => h) hHeld ?_
          (try simp only [Act.put, List.setIfInBounds_toArray, List.set_cons_zero, List.set_cons_succ])
          refine rg_off 8 rfl (by kernel_rfl) (by kernel_rfl) (by kernel_rfl) (by rfl) (fun _ _ _ h => h) hHeld ?_
          (try simp only [Act.put, List.setIfInBounds_toArray, List.set_cons_zero, List.set_cons_succ])
          refine rg_off 9 rfl (by kernel_rfl) (by kernel_rfl) (by kernel_rfl) (by rfl) (fun _ _ _ h => h) hHeld ?_
          (try simp only [Act.put, List.setIfInBounds_toArray, List.set_cons_zero, List.set_cons_succ])
          refine rg_in 10 rfl (by kernel_rfl) (by kernel_rfl) (by kernel_rfl) (by rfl) (v := ?_) (fun _ _ _ h => h) hHeld (fun w hSw => ?_) ?_
          rotate_left
          · (try dsimp only at hSw); go_simp <;> (with_reducible rfl)
          (try simp only [Act.put, List.setIfInBounds_toArray, List.set_cons_zero, List.set_cons_succ])
          refine wpAnyH_done (by kernel_rfl) ?_ _
          have hbz := HBW.out.trans (hHeld.mono HBW.out.size)
          have hn2 := nbox_blk (blk_later H2.out hHeld)
          obtain ⟨⟨z0, z1, z2⟩, y0, y1, y2⟩ := hn2
          have hbz3 := ((hbz.setCell (p := ⟨w.heap.size, 0, none⟩) (Nat.le_refl _) (.bool false)).setCell (p := ⟨w.heap.size, 1, none⟩) (Nat.le_refl _) (.slice none 0 0)).setCell (p := ⟨w.heap.size, 2, none⟩) (Nat.le_refl _) (.slice none 0 0)
          clear hHeld hHx hbs m0 m1 m2
          go_wp2
          refine bodyPost_ret (v := .tuple #[.agg #[.bool false, .slice none 0 0, .slice none 0 0], .bool false]) ?_ rfl ⟨hbz3, .inl ⟨rfl, HNO.out⟩⟩
          simp [results, Try.results26, go_sem, *]
set_option maxRecDepth 20000 in
set_option maxHeartbeats 8000000 in
theorem rRead_inner (b off n c : Nat) (l : List UInt8) (B : Nat) (w : World) (hp : PcT.Ok w B ⟨some ⟨b, off, none⟩, n, c, l⟩) (hB : B ≤ w.heap.size) (hn : 2 ≤ n) (x0 x1 : UInt8) (h0 : l[0]? = some x0) (h1 : l[1]? = some x1) (h6 : x1.toNat ≤ 6) (hlf : (((x0.toNat : Nat) : Int) == 1) = false) :
    Calls Try.prog 26 #[.slice (some ⟨b, off, none⟩) n c] w (ReaP ⟨some ⟨b, off, none⟩, n, c, l⟩ w) := by
  have hsp := spK_zero h0 h1 hlf
  have hfi := hp.fits
  have hmo := hp.most
  have hlen := hp.len
  simp only at hfi hmo hlen
  obtain ⟨b', off', hbe, hbB, hcl⟩ := hp.here.2 (show 0 < n by omega)
  injection hbe with hbe
  injection hbe with e1 e2
  subst e1 e2
  have y0 : w.cell? ⟨b, off, none⟩ = some (.int .u8 (x0.toNat : Nat)) := by
    have h := hcl 0 (bv x0) (by rw [List.getElem?_map, h0]; rfl)
    rw [Nat.add_zero] at h
    exact h
  have y1 : w.cell? ⟨b, off + 1, none⟩ = some (.int .u8 (x1.toNat : Nat)) := hcl 1 (bv x1) (by rw [List.getElem?_map, h1]; rfl)
  generalize x0.toNat = xx at *
  generalize x1.toNat = N at *
  have HP := Lib.hid hp
  have hbw : b < w.heap.size := by omega
  obtain ⟨i0, hi, hz0, hz1, hz2⟩ := nkid_info
  have hb1 := bel_alloc (Below.refl w.heap.size w) (.cells #[.bool false, .slice none 0 0, .slice none 0 0] 25)
  have hX2 := heap_alloc_new w (.cells #[.bool false, .slice none 0 0, .slice none 0 0] 25)
  have hs1 : w.heap.size + 1 = (w.alloc (.cells #[.bool false, .slice none 0 0, .slice none 0 0] 25)).heap.size := (World.size_alloc _ _).symm
  have v0 := (hb1.cell (show b < w.heap.size from hbw)).trans y0
  have v1 := (hb1.cell (show b < w.heap.size from hbw)).trans y1
  have hN6 : ¬ (6 : Int) < (N : Int) := by omega
  have hn2 : ¬ (n : Int) < 2 := by omega
  have hi0 : (0 : Int) < (n : Int) := by omega
  have hi1 : (1 : Int) < (n : Int) := by omega
  have hi2 : (2 : Int) ≤ (n : Int) := by omega
  have hnc : (n : Int) ≤ (c : Int) := by omega
  have hc2 : (2 : Int) ≤ (c : Int) := by omega
  have hc63 : c ≤ 9223372036854775807 := by unfold maxLen at hmo; exact hmo
  clear hcl h0 h1 hp
  go_enter Try.func26, Try.ntmps26
  go_upto_region 3 with fail
  generalize w.alloc (.cells #[.bool false, .slice none 0 0, .slice none 0 0] 25) = W1 at *
  have hb2 := bel_alloc hb1 (.cells #[.bool false, .slice none 0 0, .slice none 0 0] 25)
  have hX4 := heap_alloc_new W1 (.cells #[.bool false, .slice none 0 0, .slice none 0 0] 25)
  have hX2 := blk_later hX2 (bel_alloc (Below.refl W1.heap.size W1) (.cells #[.bool false, .slice none 0 0, .slice none 0 0] 25))
  have hsz2 : w.heap.size + 2 ≤ (W1.alloc (.cells #[.bool false, .slice none 0 0, .slice none 0 0] 25)).heap.size := by rw [World.size_alloc]; omega
  rw [← hs1] at hX4
  have HS1 := Lib.hid hs1
  clear hs1
  go_upto_region 4 with fail
  rw [← HS1.out]
  generalize W1.alloc (.cells #[.bool false, .slice none 0 0, .slice none 0 0] 25) = W2 at *
  clear v0 v1 y0 hlf
  have HY1 := Lib.hid y1
  clear y1
  go_cut [5] (fun s wx => ∃ q : PcT, s = .slice q.A q.n q.c ∧ Hid (q.l = l.drop 2) ∧ Hid (q.Ok w B) ∧ W2 = wx)
  case first =>
    by_cases hck : c = 2
    · have hl2 : l.drop 2 = [] := List.drop_eq_nil_of_le (by omega)
      have hq : PcT.Ok w B ⟨some ⟨b, off, none⟩, 0, 0, []⟩ := ⟨Bytes.zero _, nofun, Nat.le_refl _, by show 0 ≤ maxLen; omega⟩
      obtain rfl : n = 2 := by omega
      subst hck
      go_wp2_with fail
      go_meet
      case rel => exact ⟨⟨some ⟨b, off, none⟩, 0, 0, []⟩, rfl, Lib.hid hl2.symm, Lib.hid hq, rfl⟩
    · have hq := HP.out
      have hcut := Shows.cut HP.out.here (show 2 ≤ n by omega) hfi
      rw [if_neg hck, Option.map_some, addr_add, Nat.mul_one, ← List.map_drop] at hcut
      have hqo : PcT.Ok w B ⟨some ⟨b, off + 2, none⟩, n - 2, c - 2, l.drop 2⟩ := ⟨hcut, nofun, by show n - 2 ≤ c - 2; omega, by show c - 2 ≤ maxLen; omega⟩
      clear hq hcut
      go_wp2_with fail
      go_meet
      case rel => exact ⟨⟨some ⟨b, off + 2, none⟩, n - 2, c - 2, l.drop 2⟩, rfl, Lib.hid rfl, Lib.hid hqo, rfl⟩
  case rest =>
    obtain ⟨q0, rfl, hql, hqo, rfl⟩ := hcut
    have HSP0 : Hid (SpK l N 0 [] q0.l) := Lib.hid (by rw [hql.out]; exact hsp)
    have HREA0 : Hid (ReaN ⟨false, none, 0, 0, [], none, 0, 0, []⟩ w.heap.size B W2) := Lib.hid ⟨World.ownsRow_nil _ _ _ _, World.ownsRow_nil _ _ _ _, fun x hx => (by cases hx), fun x hx => (by cases hx), by omega⟩
    have HX2 := Lib.hid hX2
    have HX4 := Lib.hid hX4
    have hiN : IntKind.i64.wrap (N : Int) = (N : Int) := by rw [IntKind.wrap_i64]; omega
    have HQ0 := Lib.hid (hqo.out.later (hb2.mono hB))
    clear hsp hX2 hX4 hql hqo hb1 hN6 hn2 hi0 hi2 hnc hc2
    go_wp2_with fail
    go_loopw [5, 6] (fun s y wr => ∃ (i : Nat) (q : PcT) (I : List KiT) (A : Option Addr) (c' : Nat), i ≤ N ∧ y = .int .i64 i ∧ s = .slice q.A q.n q.c ∧ Hid (q.Ok wr B) ∧ Hid (ReaN ⟨false, none, 0, 0, [], A, i, c', I⟩ w.heap.size B wr) ∧ Hid (wr.heap[w.heap.size + 1]? = some (.cells #[.bool false, .slice none 0 0, .slice A i c'] 25 (0, 0))) ∧ Hid (wr.heap[w.heap.size]? = some (.cells #[.bool false, .slice none 0 0, .slice none 0 0] 25 (0, 0))) ∧ Hid (SpK l N i I q.l) ∧ Hid (I.length = i) ∧ Below w.heap.size w wr ∧ w.heap.size + 2 ≤ wr.heap.size) (fun _ y _ => N - (intOf y).toNat)
    case atStart => exact ⟨0, q0, [], none, 0, Nat.zero_le _, rfl, rfl, HQ0, HREA0, HX4, HX2, HSP0, Lib.hid rfl, hb2, hsz2⟩
    case round =>
      clear hb2 hsz2
      obtain ⟨i, q, I, A, c', hiN', rfl, rfl, HQ, HREA, H4, H2, HSP, HIL, hbr, hszr⟩ := hrel
      rename World => wr
      have v1 := (hbr.cell (show b < w.heap.size from hbw)).trans HY1.out
      by_cases hlt : i < N
      · obtain ⟨⟨n0, n1, n2⟩, -⟩ := nbox_blk H4.out
        have hlt' : (i : Int) < (N : Int) := by omega
        have hba := bel_alloc (Below.refl wr.heap.size wr) (.cells #[.slice none 0 0, .int .i64 0, .int .i64 0, .int .i64 0, .int .i64 0, .int .u64 0, .int .i64 0, .int .i64 0] 60)
        have hX8 := heap_alloc_new wr (.cells #[.slice none 0 0, .int .i64 0, .int .i64 0, .int .i64 0, .int .i64 0, .int .u64 0, .int .i64 0, .int .i64 0] 60)
        have hci := rKid14_any q B _ (HQ.out.later (hba.mono (Nat.le_trans hB (Nat.le_trans (Nat.le_add_right _ 2) hszr)))) (Nat.le_trans hB (Nat.le_trans (Nat.le_trans (Nat.le_add_right _ 2) hszr) hba.size))
        go_upto_region 14 with fail
        obtain ⟨g8, hg8⟩ : ∃ g8, wr.heap.size = g8 := ⟨_, rfl⟩
        have HG8 := Lib.hid hg8
        rw [hg8] at hX8 ⊢
        clear hg8 n0 n1 n2 v1
        generalize wr.alloc (.cells #[.slice none 0 0, .int .i64 0, .int .i64 0, .int .i64 0, .int .i64 0, .int .u64 0, .int .i64 0, .int .i64 0] 60) = wa at *
        go_wp2_with fail
        refine hci.mono ?_
        rintro e wb ⟨hbb, ok, x, q', rfl, hx, hq', hfin⟩
        have hst := spK_step HSP.out hlt hfin
        have hbab := bel_next hba hbb
        have hX8b := blk_later hX8 hbb
        have hag : x.agg = .agg #[.slice x.k.A x.k.n x.k.c, .int .i64 x.a, .int .i64 x.r.c, .int .i64 x.r.i, .int .i64 (hiI x.r.v), .int .u64 (loI x.r.v), .int .i64 x.r.l, .int .i64 x.r.m] := rfl
        rw [hag]
        obtain ⟨⟨b0, b1, b2, b3, b4, b5, b6, b7⟩, f0, f1, f2, f3, f4, f5, f6, f7⟩ := box8_all hX8b
        have hX8c := rset8_blk hX8b (.slice x.k.A x.k.n x.k.c) (.int .i64 x.a) (.int .i64 x.r.c) (.int .i64 x.r.i) (.int .i64 (hiI x.r.v)) (.int .u64 (loI x.r.v)) (.int .i64 x.r.l) (.int .i64 x.r.m)
        have hbc := rset8_below hbab (show wr.heap.size ≤ g8 from Nat.le_of_eq HG8.out) (.slice x.k.A x.k.n x.k.c) (.int .i64 x.a) (.int .i64 x.r.c) (.int .i64 x.r.i) (.int .i64 (hiI x.r.v)) (.int .u64 (loI x.r.v)) (.int .i64 x.r.l) (.int .i64 x.r.m)
        have hszc := hbc.size
        have hxc := hx.later (rset8_below (Below.refl B wb) (show B ≤ g8 by have h9 := HG8.out; omega) (.slice x.k.A x.k.n x.k.c) (.int .i64 x.a) (.int .i64 x.r.c) (.int .i64 x.r.i) (.int .i64 (hiI x.r.v)) (.int .u64 (loI x.r.v)) (.int .i64 x.r.l) (.int .i64 x.r.m))
        have hqc := hq'.later (rset8_below (Below.refl B wb) (show B ≤ g8 by have h9 := HG8.out; omega) (.slice x.k.A x.k.n x.k.c) (.int .i64 x.a) (.int .i64 x.r.c) (.int .i64 x.r.i) (.int .i64 (hiI x.r.v)) (.int .u64 (loI x.r.v)) (.int .i64 x.r.l) (.int .i64 x.r.m))
        unfold rset8 at hX8c hbc hszc hxc hqc
        clear hci hfin hag hba hbb hX8 hX8b
        go_upto_region 15 with fail
        obtain ⟨wc, hwc⟩ : ∃ W, (((((((wb.setCell ⟨g8, 0, none⟩ (.slice x.k.A x.k.n x.k.c)).setCell ⟨g8, 1, none⟩ (.int .i64 x.a)).setCell ⟨g8, 2, none⟩ (.int .i64 x.r.c)).setCell ⟨g8, 3, none⟩ (.int .i64 x.r.i)).setCell ⟨g8, 4, none⟩ (.int .i64 (hiI x.r.v))).setCell ⟨g8, 5, none⟩ (.int .u64 (loI x.r.v))).setCell ⟨g8, 6, none⟩ (.int .i64 x.r.l)).setCell ⟨g8, 7, none⟩ (.int .i64 x.r.m) = W := ⟨_, rfl⟩
        rw [hwc] at hX8c hbc hszc hxc hqc ⊢
        clear hwc b0 b1 b2 b3 b4 b5 b6 b7 f0 f1 f2 f3 f4 f5 f6 f7
        have HXC := Lib.hid hxc
        have HQC := Lib.hid hqc
        have hr4 := blk_later H4.out hbc
        have hr2 := blk_later H2.out hbc
        have hrea := HREA.out.later hbc
        have hIL := HIL.out
        obtain ⟨⟨u0, u1, u2, u3, u4, u5, u6, u7⟩, -⟩ := box8_all hX8c
        obtain ⟨⟨n0, n1, n2⟩, -⟩ := nbox_blk hr4
        have hal := bel_alloc (Below.refl wc.heap.size wc) (.cells #[.slice x.k.A x.k.n x.k.c, .int .i64 x.a, .int .i64 x.r.c, .int .i64 x.r.i, .int .i64 (hiI x.r.v), .int .u64 (loI x.r.v), .int .i64 x.r.l, .int .i64 x.r.m] 60)
        have hnewb := heap_alloc_new wc (.cells #[.slice x.k.A x.k.n x.k.c, .int .i64 x.a, .int .i64 x.r.c, .int .i64 x.r.i, .int .i64 (hiI x.r.v), .int .u64 (loI x.r.v), .int .i64 x.r.l, .int .i64 x.r.m] 60)
        have hrea1 := hrea.later hal
        have hr41 := blk_later hr4 hal
        have hr21 := blk_later hr2 hal
        have hDa : w.heap.size ≤ (wc.alloc (.cells #[.slice x.k.A x.k.n x.k.c, .int .i64 x.a, .int .i64 x.r.c, .int .i64 x.r.i, .int .i64 (hiI x.r.v), .int .u64 (loI x.r.v), .int .i64 x.r.l, .int .i64 x.r.m] 60)).heap.size := by have h9 := hal.size; omega
        have hbd := hbr.trans ((hbc.trans (hal.mono hszc)).mono (by omega))
        have hma : i + 1 ≤ maxLen := by unfold maxLen; omega
        have hmb : (i + 1) * 80 ≤ 140737488355328 := by omega
        have own0 : (wc.alloc (.cells #[.slice x.k.A x.k.n x.k.c, .int .i64 x.a, .int .i64 x.r.c, .int .i64 x.r.i, .int .i64 (hiI x.r.v), .int .u64 (loI x.r.v), .int .i64 x.r.l, .int .i64 x.r.m] 60)).ownsRow w.heap.size 60 8 (.slice A i c') i (I.flatMap KiT.cells) := hrea1.krow
        clear hal
        cases ok
        · skip
          go_wp2_with (at_builtin; refine wpList_append_shows _ rfl _ _ 23 rfl w.heap.size 60 i0 (.agg #[.slice none 0 0, .int .i64 0, .int .i64 0, .int .i64 0, .int .i64 0, .int .u64 0, .int .i64 0, .int .i64 0]) 8 80 Try.underlying23 hi hz0 hz1 hz2 rfl (by decide) _ _ _ rfl own0 _ _ 1 _ _ rfl (shows_blk hnewb rfl) (by intro u hu; exact cells_ki1 [x] u (by simpa [KiT.cells] using hu)) hma hmb hDa ?_; intro A7 c7 w7 hown hgrow hbb7; have h47 := blk_other hr41 hgrow (own_blk_ne own0 hr41 (by decide)); have h27 := blk_other hr21 hgrow (own_blk_ne own0 hr21 (by decide)); have HO7 := Lib.hid hown; have HB7 := Lib.hid hbb7; obtain ⟨⟨p0, p1, p2⟩, pf0, pf1, pf2⟩ := nbox_blk h47; obtain ⟨⟨z0, z1, z2⟩, yf0, yf1, yf2⟩ := nbox_blk h27; clear hown hgrow own0 hnewb n0 n1 n2)
          have hI7 : I.flatMap KiT.cells ++ [.slice x.k.A x.k.n x.k.c, .int .i64 x.a, .int .i64 x.r.c, .int .i64 x.r.i, .int .i64 (hiI x.r.v), .int .u64 (loI x.r.v), .int .i64 x.r.l, .int .i64 x.r.m] = (I ++ [x]).flatMap KiT.cells := by rw [List.flatMap_append, List.flatMap_singleton]; rfl
          have hrea7 : ReaN ⟨false, none, 0, 0, [], A7, i + 1, c7, I ++ [x]⟩ w.heap.size B w7 := ⟨World.ownsRow_nil _ _ _ _, by show w7.ownsRow _ _ _ _ _ ((I ++ [x]).flatMap KiT.cells); rw [← hI7]; exact HO7.out, fun y hy => (by cases hy), fun y hy => (List.mem_append.1 hy).elim (fun h => (hrea1.kids y h).later (HB7.out.mono hB)) (fun h => by rw [List.mem_singleton.1 h]; exact (HXC.out.later ((Below.refl B wc).alloc (show B ≤ wc.heap.size by omega) _)).later (HB7.out.mono hB)), Nat.le_trans hrea1.bound HB7.out.size⟩
          have hrea8 := hrea7.set1 (k := 2) h47 (show B ≤ w.heap.size + 1 by omega) (.slice A7 (i + 1) c7)
          have h48 := set_blkN (k := 2) (u := .slice A7 (i + 1) c7) h47
          have h28 := (set_othN (W := w7) (g := w.heap.size + 1) (k := 2) (u := .slice A7 (i + 1) c7) (show w.heap.size ≠ w.heap.size + 1 by omega)).trans h27
          have hbz8 := (hbd.trans HB7.out).setCell (p := ⟨w.heap.size + 1, 2, none⟩) (show w.heap.size ≤ w.heap.size + 1 by omega) (.slice A7 (i + 1) c7)
          have hq8 := HQC.out.later (((Below.refl B wc).alloc (show B ≤ wc.heap.size by omega) (.cells #[.slice x.k.A x.k.n x.k.c, .int .i64 x.a, .int .i64 x.r.c, .int .i64 x.r.i, .int .i64 (hiI x.r.v), .int .u64 (loI x.r.v), .int .i64 x.r.l, .int .i64 x.r.m] 60)).trans (HB7.out.mono hB))
          have hq9 := hq8.later ((Below.refl B w7).setCell (p := ⟨w.heap.size + 1, 2, none⟩) (show B ≤ w.heap.size + 1 by omega) (.slice A7 (i + 1) c7))
          have hsz8 : w.heap.size + 2 ≤ w7.heap.size := by have h9 := HB7.out.size; rw [World.size_alloc] at h9; omega
          have HREA8 := Lib.hid hrea8
          have H48 := Lib.hid h48
          have H28 := Lib.hid h28
          have HQ9 := Lib.hid hq9
          have HST := Lib.hid hst
          have HBZ8 := Lib.hid hbz8
          have HIL8 : Hid ((I ++ [x]).length = i + 1) := Lib.hid (by rw [List.length_append, HIL.out]; rfl)
          clear p0 p1 p2 pf0 pf1 pf2 h47 h27 hrea8 h48 h28 hq8 hq9 hst hbz8 hrea7 hrea1 hrea hr4 hr2 hr41 hr21 hI7 hbd hDa hma hmb hX8c hbc hszc hxc hqc hIL u0 u1 u2 u3 u4 u5 u6 u7
          have hbz3 := set3_below HBZ8.out (Nat.le_refl w.heap.size) (.bool false) (.slice none 0 0) (.slice none 0 0)
          unfold set3 at hbz3
          go_wp2
          refine bodyPost_ret (v := .tuple #[.agg #[.bool false, .slice none 0 0, .slice none 0 0], .bool false]) ?_ rfl ⟨hbz3, .inl ⟨rfl, HST.out.1 (by first | rfl | trivial)⟩⟩
          simp [results, Try.results26, go_sem, *]
        · skip
          go_wp2_with (at_builtin; refine wpList_append_shows _ rfl _ _ 23 rfl w.heap.size 60 i0 (.agg #[.slice none 0 0, .int .i64 0, .int .i64 0, .int .i64 0, .int .i64 0, .int .u64 0, .int .i64 0, .int .i64 0]) 8 80 Try.underlying23 hi hz0 hz1 hz2 rfl (by decide) _ _ _ rfl own0 _ _ 1 _ _ rfl (shows_blk hnewb rfl) (by intro u hu; exact cells_ki1 [x] u (by simpa [KiT.cells] using hu)) hma hmb hDa ?_; intro A7 c7 w7 hown hgrow hbb7; have h47 := blk_other hr41 hgrow (own_blk_ne own0 hr41 (by decide)); have h27 := blk_other hr21 hgrow (own_blk_ne own0 hr21 (by decide)); have HO7 := Lib.hid hown; have HB7 := Lib.hid hbb7; obtain ⟨⟨p0, p1, p2⟩, pf0, pf1, pf2⟩ := nbox_blk h47; clear hown hgrow own0 hnewb n0 n1 n2)
          have hI7 : I.flatMap KiT.cells ++ [.slice x.k.A x.k.n x.k.c, .int .i64 x.a, .int .i64 x.r.c, .int .i64 x.r.i, .int .i64 (hiI x.r.v), .int .u64 (loI x.r.v), .int .i64 x.r.l, .int .i64 x.r.m] = (I ++ [x]).flatMap KiT.cells := by rw [List.flatMap_append, List.flatMap_singleton]; rfl
          have hrea7 : ReaN ⟨false, none, 0, 0, [], A7, i + 1, c7, I ++ [x]⟩ w.heap.size B w7 := ⟨World.ownsRow_nil _ _ _ _, by show w7.ownsRow _ _ _ _ _ ((I ++ [x]).flatMap KiT.cells); rw [← hI7]; exact HO7.out, fun y hy => (by cases hy), fun y hy => (List.mem_append.1 hy).elim (fun h => (hrea1.kids y h).later (HB7.out.mono hB)) (fun h => by rw [List.mem_singleton.1 h]; exact (HXC.out.later ((Below.refl B wc).alloc (show B ≤ wc.heap.size by omega) _)).later (HB7.out.mono hB)), Nat.le_trans hrea1.bound HB7.out.size⟩
          have hrea8 := hrea7.set1 (k := 2) h47 (show B ≤ w.heap.size + 1 by omega) (.slice A7 (i + 1) c7)
          have h48 := set_blkN (k := 2) (u := .slice A7 (i + 1) c7) h47
          have h28 := (set_othN (W := w7) (g := w.heap.size + 1) (k := 2) (u := .slice A7 (i + 1) c7) (show w.heap.size ≠ w.heap.size + 1 by omega)).trans h27
          have hbz8 := (hbd.trans HB7.out).setCell (p := ⟨w.heap.size + 1, 2, none⟩) (show w.heap.size ≤ w.heap.size + 1 by omega) (.slice A7 (i + 1) c7)
          have hq8 := HQC.out.later (((Below.refl B wc).alloc (show B ≤ wc.heap.size by omega) (.cells #[.slice x.k.A x.k.n x.k.c, .int .i64 x.a, .int .i64 x.r.c, .int .i64 x.r.i, .int .i64 (hiI x.r.v), .int .u64 (loI x.r.v), .int .i64 x.r.l, .int .i64 x.r.m] 60)).trans (HB7.out.mono hB))
          have hq9 := hq8.later ((Below.refl B w7).setCell (p := ⟨w.heap.size + 1, 2, none⟩) (show B ≤ w.heap.size + 1 by omega) (.slice A7 (i + 1) c7))
          have hsz8 : w.heap.size + 2 ≤ w7.heap.size := by have h9 := HB7.out.size; rw [World.size_alloc] at h9; omega
          have HREA8 := Lib.hid hrea8
          have H48 := Lib.hid h48
          have H28 := Lib.hid h28
          have HQ9 := Lib.hid hq9
          have HST := Lib.hid hst
          have HBZ8 := Lib.hid hbz8
          have HIL8 : Hid ((I ++ [x]).length = i + 1) := Lib.hid (by rw [List.length_append, HIL.out]; rfl)
          clear p0 p1 p2 pf0 pf1 pf2 h47 h27 hrea8 h48 h28 hq8 hq9 hst hbz8 hrea7 hrea1 hrea hr4 hr2 hr41 hr21 hI7 hbd hDa hma hmb hX8c hbc hszc hxc hqc hIL u0 u1 u2 u3 u4 u5 u6 u7
          go_wp2_with fail
          go_roundw
          case rel => first | exact ⟨i + 1, q', I ++ [x], A7, c7, by omega, by go_num, rfl, HQ9, HREA8, H48, H28, Lib.hid HST.out.2, HIL8, HBZ8.out, by rw [size_set]; exact hsz8⟩ | exact ⟨_, ⟨i + 1, q', I ++ [x], A7, c7, by omega, by go_num, rfl, HQ9, HREA8, H48, H28, Lib.hid HST.out.2, HIL8, HBZ8.out, by rw [size_set]; exact hsz8⟩, rfl⟩
          case measure => simp [intOf]; omega
      · obtain rfl : N = i := by omega
        obtain ⟨W5, hW5⟩ : ∃ W, wr = W := ⟨_, rfl⟩
        obtain ⟨X, hX⟩ : ∃ X : NoT, X = ⟨false, none, 0, 0, [], A, N, c', I⟩ := ⟨_, rfl⟩
        have HAG : Hid (X.agg = .agg #[.bool false, .slice none 0 0, .slice A N c']) := Lib.hid (by rw [hX]; rfl)
        have hEND : ∀ Z, Hyp l Z → X.okB = true ∧ X.enc = l := fun Z hZ => by
          rw [hX]
          exact spK_end HSP.out HIL.out Z hZ
        have HREAX : Hid (ReaN X w.heap.size B W5) := Lib.hid (by rw [hX, ← hW5]; exact HREA.out)
        rw [hW5] at H4 H2 hbr v1 hszr HQ ⊢
        clear HREA hW5 hX HSP HIL hlt hiN'
        have HREA := HREAX
        clear HREAX
        have HBW := Lib.hid hbr
        have hrn := nbox_blk H4.out
        have m0 : ∀ W, Below W5.heap.size W5 W → W.cell? ⟨w.heap.size + 1, 0, none⟩ = _ := fun W h => (hrn.later h).1.1
        have m1 : ∀ W, Below W5.heap.size W5 W → W.cell? ⟨w.heap.size + 1, 1, none⟩ = _ := fun W h => (hrn.later h).1.2.1
        have m2 : ∀ W, Below W5.heap.size W5 W → W.cell? ⟨w.heap.size + 1, 2, none⟩ = _ := fun W h => (hrn.later h).1.2.2
        have hcR : ∀ W, Below W5.heap.size W5 W → Calls Try.prog 13 #[.agg #[.bool false, .slice none 0 0, .slice A N c']] W fun e w' => e = .returned (.bool X.okB) ∧ Below W.heap.size W w' := fun W h => by
          have h9 := rRight14_any X _ W (HREA.out.later h).lie (Nat.le_refl _)
          rw [HAG.out] at h9
          exact h9
        have HcB : Hid (X.okB = true → ∀ W, Below W5.heap.size W5 W → Calls Try.prog 23 #[.agg #[.bool false, .slice none 0 0, .slice A N c']] W (GivesBytes 5 X.enc W)) := Lib.hid (fun hk W h => by
          have h9 := rBytes14_any X _ W (HREA.out.later h).lie (Nat.le_refl _) hk
          rw [HAG.out] at h9
          exact h9)
        obtain ⟨s1, hs1⟩ : ∃ s, ofL X.enc = s := ⟨_, rfl⟩
        obtain ⟨s2, hs2⟩ : ∃ s, ofL l = s := ⟨_, rfl⟩
        have t1 := bofL_beq X.enc l
        rw [hs1, hs2] at t1
        have HS1 := Lib.hid hs1
        have Hkp := Lib.hid (fun W (h : Below W5.heap.size W5 W) => (by
          have h9 := run_bytes_string (P := Try.prog) Try.underlying32 Try.underlying5 Try.underlying9 W (some ⟨b, off, none⟩) n c B l (HP.out.later ((HBW.out.trans (h.mono (by omega))).mono hB)).here
          rw [hs2] at h9
          exact h9 : _))
        clear hs1 hs2 hrn
        by_cases hk : X.okB = true
        · have HcB := Lib.hid (HcB.out hk)
          rw [hk] at hcR
          have HcR := Lib.hid hcR
          have HOK := Lib.hid hk
          clear hcR hk
          by_cases he : X.enc = l
          · have HEN := Lib.hid he
            rw [show sameB X.enc l = true from sameB_iff2.2 he] at t1
            have t2 : (s1.toList != s2.toList) = false := by rw [bne, t1]; rfl
            clear he hEND
            go_upto_region 18 with fail
            clear v1
            refine wp_region_held_drew (S := fun W => Below W5.heap.size W5 W) (by kernel_rfl) (below_drewN (Below.refl _ _) 1) (fun hHeld => ?_)
            refine rg_in 0 rfl (by kernel_rfl) (by kernel_rfl) (by kernel_rfl) (by rfl) (v := ?_) (fun _ _ _ h => h) hHeld (fun w hSw => ?_) ?_
            rotate_left
            · (try dsimp only at hSw); go_simp <;> (with_reducible rfl)
            (try simp only [Act.put, List.setIfInBounds_toArray, List.set_cons_zero, List.set_cons_succ])
            refine rg_do 1 rfl (by kernel_rfl) (by rfl) (fun K hK => ?_)
            go_simp
            (go_at_call 13; (with_reducible refine (HcR.out _ hHeld).mono ?_); (rintro e w101 ⟨rfl, hbs⟩))
            have hHx := bel_next hHeld hbs
            refine hK.out _ _ hHx (fun hHeld => ?_)
            clear hK K
            (try simp only [Act.put, List.setIfInBounds_toArray, List.set_cons_zero, List.set_cons_succ])
            refine rg_in 2 rfl (by kernel_rfl) (by kernel_rfl) (by kernel_rfl) (by rfl) (v := ?_) (fun _ _ _ h => h) hHeld (fun w hSw => ?_) ?_
            rotate_left
            · (try dsimp only at hSw); go_simp <;> (with_reducible rfl)
            (try simp only [Act.put, List.setIfInBounds_toArray, List.set_cons_zero, List.set_cons_succ])
            refine rg_in 3 rfl (by kernel_rfl) (by kernel_rfl) (by kernel_rfl) (by rfl) (v := ?_) (fun _ _ _ h => h) hHeld (fun w hSw => ?_) ?_
            rotate_left
            · (try dsimp only at hSw); go_simp <;> (with_reducible rfl)
            (try simp only [Act.put, List.setIfInBounds_toArray, List.set_cons_zero, List.set_cons_succ])
            refine rg_in 4 rfl (by kernel_rfl) (by kernel_rfl) (by kernel_rfl) (by rfl) (v := ?_) (fun _ _ _ h => h) hHeld (fun w hSw => ?_) ?_
            rotate_left
            · (try dsimp only at hSw); go_simp <;> (with_reducible rfl)
            (try simp only [Act.put, List.setIfInBounds_toArray, List.set_cons_zero, List.set_cons_succ])
            refine rg_in 7 rfl (by kernel_rfl) (by kernel_rfl) (by kernel_rfl) (by rfl) (v := ?_) (fun _ _ _ h => h) hHeld (fun w hSw => ?_) ?_
            rotate_left
            · (try dsimp only at hSw); go_simp <;> (with_reducible rfl)
            (try simp only [Act.put, List.setIfInBounds_toArray, List.set_cons_zero, List.set_cons_succ])
            refine wpAnyH_ready (rs := [5, 8]) (by kernel_rfl) (by simp) ?_
            refine rg_cons rfl (by rfl) (fun K hK => ?_) ?_
            · go_simp
              (go_at_call 23; (with_reducible refine (HcB.out _ hHeld).mono ?_); (rintro e w105 ⟨Ab, nb, cb, rfl, hOb, hbs⟩))
              have hHx := bel_next hHeld hbs
              have kb1 := run_bytes_string (P := Try.prog) Try.underlying32 Try.underlying5 Try.underlying9 w105 Ab nb cb _ X.enc (Bytes.own hOb)
              rw [HS1.out] at kb1
              have kp1 := Hkp.out _ hHx
              refine hK.out _ _ hHx (fun hHeld => ?_)
              clear hK K
              (try simp only [Act.put, List.setIfInBounds_toArray, List.set_cons_zero, List.set_cons_succ])
              refine wpAnyH_ready (rs := [6, 8]) (by kernel_rfl) (by simp) ?_
              refine rg_cons rfl (by rfl) (fun K hK => ?_) ?_
              · have hHx := hHeld
                have kp1 := Hkp.out _ hHeld
                go_simp
                refine hK.out _ _ hHx (fun hHeld => ?_)
                clear hK K
                (try simp only [Act.put, List.setIfInBounds_toArray, List.set_cons_zero, List.set_cons_succ])
                refine rg_do 8 rfl (by kernel_rfl) (by rfl) (fun K hK => ?_)
                have hHx := hHeld
                have kp1 := Hkp.out _ hHeld
                go_simp
                refine hK.out _ _ hHx (fun hHeld => ?_)
                clear hK K
                (try simp only [Act.put, List.setIfInBounds_toArray, List.set_cons_zero, List.set_cons_succ])
                refine rg_in 9 rfl (by kernel_rfl) (by kernel_rfl) (by kernel_rfl) (by rfl) (v := ?_) (fun _ _ _ h => h) hHeld (fun w hSw => ?_) ?_
                rotate_left
                · (try dsimp only at hSw); go_simp <;> (with_reducible rfl)
                (try simp only [Act.put, List.setIfInBounds_toArray, List.set_cons_zero, List.set_cons_succ])
                refine rg_in 10 rfl (by kernel_rfl) (by kernel_rfl) (by kernel_rfl) (by rfl) (v := ?_) (fun _ _ _ h => h) hHeld (fun w hSw => ?_) ?_
                rotate_left
                · (try dsimp only at hSw); go_simp <;> (with_reducible rfl)
                (try simp only [Act.put, List.setIfInBounds_toArray, List.set_cons_zero, List.set_cons_succ])
                refine wpAnyH_done (by kernel_rfl) ?_ _
                have hbz := HBW.out.trans (hHeld.mono HBW.out.size)
                have h2l := blk_later H2.out hHeld
                have h4l := blk_later H4.out hHeld
                have hrz := (HREA.out.later hHeld).set3 h2l hB (.bool false) (.slice none 0 0) (.slice A N c')
                have hLW := Lib.hid hrz.lie
                have hbz3 := set3_below hbz (Nat.le_refl w.heap.size) (.bool false) (.slice none 0 0) (.slice A N c')
                obtain ⟨⟨z0, z1, z2⟩, y0, y1, y2⟩ := nbox_blk h2l
                obtain ⟨⟨n0, n1, n2⟩, -⟩ := nbox_blk h4l
                unfold set3 at hbz3 hLW
                clear hHeld hHx kb1 kp1 hOb hbs hrz h2l h4l m0 m1 m2
                go_wp2
                refine bodyPost_ret (v := .tuple #[.agg #[.bool false, .slice none 0 0, .slice A N c'], .bool true]) ?_ rfl ⟨hbz3, .inr ⟨X, by rw [HAG.out], HOK.out, HEN.out, hLW.out⟩⟩
                simp [results, Try.results26, go_sem, *]
              refine rg_cons rfl (by rfl) (fun K hK => ?_) ?_
              · have hHx := hHeld
                have kp1 := Hkp.out _ hHeld
                go_simp
                refine hK.out _ _ hHx (fun hHeld => ?_)
                clear hK K
                (try simp only [Act.put, List.setIfInBounds_toArray, List.set_cons_zero, List.set_cons_succ])
                refine rg_do 6 rfl (by kernel_rfl) (by rfl) (fun K hK => ?_)
                have hHx := hHeld
                have kp1 := Hkp.out _ hHeld
                go_simp
                refine hK.out _ _ hHx (fun hHeld => ?_)
                clear hK K
                (try simp only [Act.put, List.setIfInBounds_toArray, List.set_cons_zero, List.set_cons_succ])
                refine rg_in 9 rfl (by kernel_rfl) (by kernel_rfl) (by kernel_rfl) (by rfl) (v := ?_) (fun _ _ _ h => h) hHeld (fun w hSw => ?_) ?_
                rotate_left
                · (try dsimp only at hSw); go_simp <;> (with_reducible rfl)
                (try simp only [Act.put, List.setIfInBounds_toArray, List.set_cons_zero, List.set_cons_succ])
                refine rg_in 10 rfl (by kernel_rfl) (by kernel_rfl) (by kernel_rfl) (by rfl) (v := ?_) (fun _ _ _ h => h) hHeld (fun w hSw => ?_) ?_
                rotate_left
                · (try dsimp only at hSw); go_simp <;> (with_reducible rfl)
                (try simp only [Act.put, List.setIfInBounds_toArray, List.set_cons_zero, List.set_cons_succ])
                refine wpAnyH_done (by kernel_rfl) ?_ _
                have hbz := HBW.out.trans (hHeld.mono HBW.out.size)
                have h2l := blk_later H2.out hHeld
                have h4l := blk_later H4.out hHeld
                have hrz := (HREA.out.later hHeld).set3 h2l hB (.bool false) (.slice none 0 0) (.slice A N c')
                have hLW := Lib.hid hrz.lie
                have hbz3 := set3_below hbz (Nat.le_refl w.heap.size) (.bool false) (.slice none 0 0) (.slice A N c')
                obtain ⟨⟨z0, z1, z2⟩, y0, y1, y2⟩ := nbox_blk h2l
                obtain ⟨⟨n0, n1, n2⟩, -⟩ := nbox_blk h4l
                unfold set3 at hbz3 hLW
                clear hHeld hHx kb1 kp1 hOb hbs hrz h2l h4l m0 m1 m2
                go_wp2
                refine bodyPost_ret (v := .tuple #[.agg #[.bool false, .slice none 0 0, .slice A N c'], .bool true]) ?_ rfl ⟨hbz3, .inr ⟨X, by rw [HAG.out], HOK.out, HEN.out, hLW.out⟩⟩
                simp [results, Try.results26, go_sem, *]
              exact AllReadyH.nil
            refine rg_cons rfl (by rfl) (fun K hK => ?_) ?_
            · have hHx := hHeld
              have kp1 := Hkp.out _ hHeld
              go_simp
              refine hK.out _ _ hHx (fun hHeld => ?_)
              clear hK K
              (try simp only [Act.put, List.setIfInBounds_toArray, List.set_cons_zero, List.set_cons_succ])
              refine rg_do 5 rfl (by kernel_rfl) (by rfl) (fun K hK => ?_)
              go_simp
              (go_at_call 23; (with_reducible refine (HcB.out _ hHeld).mono ?_); (rintro e w105 ⟨Ab, nb, cb, rfl, hOb, hbs⟩))
              have hHx := bel_next hHeld hbs
              have kb1 := run_bytes_string (P := Try.prog) Try.underlying32 Try.underlying5 Try.underlying9 w105 Ab nb cb _ X.enc (Bytes.own hOb)
              rw [HS1.out] at kb1
              have kp1 := Hkp.out _ hHx
              refine hK.out _ _ hHx (fun hHeld => ?_)
              clear hK K
              (try simp only [Act.put, List.setIfInBounds_toArray, List.set_cons_zero, List.set_cons_succ])
              refine rg_do 6 rfl (by kernel_rfl) (by rfl) (fun K hK => ?_)
              have hHx := hHeld
              have kp1 := Hkp.out _ hHeld
              go_simp
              refine hK.out _ _ hHx (fun hHeld => ?_)
              clear hK K
              (try simp only [Act.put, List.setIfInBounds_toArray, List.set_cons_zero, List.set_cons_succ])
              refine rg_in 9 rfl (by kernel_rfl) (by kernel_rfl) (by kernel_rfl) (by rfl) (v := ?_) (fun _ _ _ h => h) hHeld (fun w hSw => ?_) ?_
              rotate_left
              · (try dsimp only at hSw); go_simp <;> (with_reducible rfl)
              (try simp only [Act.put, List.setIfInBounds_toArray, List.set_cons_zero, List.set_cons_succ])
              refine rg_in 10 rfl (by kernel_rfl) (by kernel_rfl) (by kernel_rfl) (by rfl) (v := ?_) (fun _ _ _ h => h) hHeld (fun w hSw => ?_) ?_
              rotate_left
              · (try dsimp only at hSw); go_simp <;> (with_reducible rfl)
              (try simp only [Act.put, List.setIfInBounds_toArray, List.set_cons_zero, List.set_cons_succ])
              refine wpAnyH_done (by kernel_rfl) ?_ _
              have hbz := HBW.out.trans (hHeld.mono HBW.out.size)
              have h2l := blk_later H2.out hHeld
              have h4l := blk_later H4.out hHeld
              have hrz := (HREA.out.later hHeld).set3 h2l hB (.bool false) (.slice none 0 0) (.slice A N c')
              have hLW := Lib.hid hrz.lie
              have hbz3 := set3_below hbz (Nat.le_refl w.heap.size) (.bool false) (.slice none 0 0) (.slice A N c')
              obtain ⟨⟨z0, z1, z2⟩, y0, y1, y2⟩ := nbox_blk h2l
              obtain ⟨⟨n0, n1, n2⟩, -⟩ := nbox_blk h4l
              unfold set3 at hbz3 hLW
              clear hHeld hHx kb1 kp1 hOb hbs hrz h2l h4l m0 m1 m2
              go_wp2
              refine bodyPost_ret (v := .tuple #[.agg #[.bool false, .slice none 0 0, .slice A N c'], .bool true]) ?_ rfl ⟨hbz3, .inr ⟨X, by rw [HAG.out], HOK.out, HEN.out, hLW.out⟩⟩
              simp [results, Try.results26, go_sem, *]
            exact AllReadyH.nil
          · have HNO : Hid (∀ Z, ¬ Hyp l Z) := Lib.hid (fun Z hZ => he (hEND Z hZ).2)
            rw [show sameB X.enc l = false by cases hv : sameB X.enc l; rfl; exact absurd (sameB_iff2.1 hv) he] at t1
            have t2 : (s1.toList != s2.toList) = true := by rw [bne, t1]; rfl
            clear he hEND
            go_upto_region 18 with fail
            clear v1
            refine wp_region_held_drew (S := fun W => Below W5.heap.size W5 W) (by kernel_rfl) (below_drewN (Below.refl _ _) 1) (fun hHeld => ?_)
            refine rg_in 0 rfl (by kernel_rfl) (by kernel_rfl) (by kernel_rfl) (by rfl) (v := ?_) (fun _ _ _ h => h) hHeld (fun w hSw => ?_) ?_
            rotate_left
            · (try dsimp only at hSw); go_simp <;> (with_reducible rfl)
            (try simp only [Act.put, List.setIfInBounds_toArray, List.set_cons_zero, List.set_cons_succ])
            refine rg_do 1 rfl (by kernel_rfl) (by rfl) (fun K hK => ?_)
            go_simp
            (go_at_call 13; (with_reducible refine (HcR.out _ hHeld).mono ?_); (rintro e w101 ⟨rfl, hbs⟩))
            have hHx := bel_next hHeld hbs
            refine hK.out _ _ hHx (fun hHeld => ?_)
            clear hK K
            (try simp only [Act.put, List.setIfInBounds_toArray, List.set_cons_zero, List.set_cons_succ])
            refine rg_in 2 rfl (by kernel_rfl) (by kernel_rfl) (by kernel_rfl) (by rfl) (v := ?_) (fun _ _ _ h => h) hHeld (fun w hSw => ?_) ?_
            rotate_left
            · (try dsimp only at hSw); go_simp <;> (with_reducible rfl)
            (try simp only [Act.put, List.setIfInBounds_toArray, List.set_cons_zero, List.set_cons_succ])
            refine rg_in 3 rfl (by kernel_rfl) (by kernel_rfl) (by kernel_rfl) (by rfl) (v := ?_) (fun _ _ _ h => h) hHeld (fun w hSw => ?_) ?_
            rotate_left
            · (try dsimp only at hSw); go_simp <;> (with_reducible rfl)
            (try simp only [Act.put, List.setIfInBounds_toArray, List.set_cons_zero, List.set_cons_succ])
            refine rg_in 4 rfl (by kernel_rfl) (by kernel_rfl) (by kernel_rfl) (by rfl) (v := ?_) (fun _ _ _ h => h) hHeld (fun w hSw => ?_) ?_
            rotate_left
            · (try dsimp only at hSw); go_simp <;> (with_reducible rfl)
            (try simp only [Act.put, List.setIfInBounds_toArray, List.set_cons_zero, List.set_cons_succ])
            refine rg_in 7 rfl (by kernel_rfl) (by kernel_rfl) (by kernel_rfl) (by rfl) (v := ?_) (fun _ _ _ h => h) hHeld (fun w hSw => ?_) ?_
            rotate_left
            · (try dsimp only at hSw); go_simp <;> (with_reducible rfl)
            (try simp only [Act.put, List.setIfInBounds_toArray, List.set_cons_zero, List.set_cons_succ])
            refine wpAnyH_ready (rs := [5, 8]) (by kernel_rfl) (by simp) ?_
            refine rg_cons rfl (by rfl) (fun K hK => ?_) ?_
            · go_simp
              (go_at_call 23; (with_reducible refine (HcB.out _ hHeld).mono ?_); (rintro e w105 ⟨Ab, nb, cb, rfl, hOb, hbs⟩))
              have hHx := bel_next hHeld hbs
              have kb1 := run_bytes_string (P := Try.prog) Try.underlying32 Try.underlying5 Try.underlying9 w105 Ab nb cb _ X.enc (Bytes.own hOb)
              rw [HS1.out] at kb1
              have kp1 := Hkp.out _ hHx
              refine hK.out _ _ hHx (fun hHeld => ?_)
              clear hK K
              (try simp only [Act.put, List.setIfInBounds_toArray, List.set_cons_zero, List.set_cons_succ])
              refine wpAnyH_ready (rs := [6, 8]) (by kernel_rfl) (by simp) ?_
              refine rg_cons rfl (by rfl) (fun K hK => ?_) ?_
              · have hHx := hHeld
                have kp1 := Hkp.out _ hHeld
                go_simp
                refine hK.out _ _ hHx (fun hHeld => ?_)
                clear hK K
                (try simp only [Act.put, List.setIfInBounds_toArray, List.set_cons_zero, List.set_cons_succ])
                refine rg_do 8 rfl (by kernel_rfl) (by rfl) (fun K hK => ?_)
                have hHx := hHeld
                have kp1 := Hkp.out _ hHeld
                go_simp
                refine hK.out _ _ hHx (fun hHeld => ?_)
                clear hK K
                (try simp only [Act.put, List.setIfInBounds_toArray, List.set_cons_zero, List.set_cons_succ])
                refine rg_in 9 rfl (by kernel_rfl) (by kernel_rfl) (by kernel_rfl) (by rfl) (v := ?_) (fun _ _ _ h => h) hHeld (fun w hSw => ?_) ?_
                rotate_left
                · (try dsimp only at hSw); go_simp <;> (with_reducible rfl)
                (try simp only [Act.put, List.setIfInBounds_toArray, List.set_cons_zero, List.set_cons_succ])
                refine rg_in 10 rfl (by kernel_rfl) (by kernel_rfl) (by kernel_rfl) (by rfl) (v := ?_) (fun _ _ _ h => h) hHeld (fun w hSw => ?_) ?_
                rotate_left
                · (try dsimp only at hSw); go_simp <;> (with_reducible rfl)
                (try simp only [Act.put, List.setIfInBounds_toArray, List.set_cons_zero, List.set_cons_succ])
                refine wpAnyH_done (by kernel_rfl) ?_ _
                have hbz := HBW.out.trans (hHeld.mono HBW.out.size)
                have hn2 := nbox_blk (blk_later H2.out hHeld)
                obtain ⟨⟨z0, z1, z2⟩, y0, y1, y2⟩ := hn2
                have hbz3 := ((hbz.setCell (p := ⟨w.heap.size, 0, none⟩) (Nat.le_refl _) (.bool false)).setCell (p := ⟨w.heap.size, 1, none⟩) (Nat.le_refl _) (.slice none 0 0)).setCell (p := ⟨w.heap.size, 2, none⟩) (Nat.le_refl _) (.slice none 0 0)
                clear hHeld hHx kb1 kp1 hOb hbs m0 m1 m2
                go_wp2
                refine bodyPost_ret (v := .tuple #[.agg #[.bool false, .slice none 0 0, .slice none 0 0], .bool false]) ?_ rfl ⟨hbz3, .inl ⟨rfl, HNO.out⟩⟩
                simp [results, Try.results26, go_sem, *]
              refine rg_cons rfl (by rfl) (fun K hK => ?_) ?_
              · have hHx := hHeld
                have kp1 := Hkp.out _ hHeld
                go_simp
                refine hK.out _ _ hHx (fun hHeld => ?_)
                clear hK K
                (try simp only [Act.put, List.setIfInBounds_toArray, List.set_cons_zero, List.set_cons_succ])
                refine rg_do 6 rfl (by kernel_rfl) (by rfl) (fun K hK => ?_)
                have hHx := hHeld
                have kp1 := Hkp.out _ hHeld
                go_simp
                refine hK.out _ _ hHx (fun hHeld => ?_)
                clear hK K
                (try simp only [Act.put, List.setIfInBounds_toArray, List.set_cons_zero, List.set_cons_succ])
                refine rg_in 9 rfl (by kernel_rfl) (by kernel_rfl) (by kernel_rfl) (by rfl) (v := ?_) (fun _ _ _ h => h) hHeld (fun w hSw => ?_) ?_
                rotate_left
                · (try dsimp only at hSw); go_simp <;> (with_reducible rfl)
                (try simp only [Act.put, List.setIfInBounds_toArray, List.set_cons_zero, List.set_cons_succ])
                refine rg_in 10 rfl (by kernel_rfl) (by kernel_rfl) (by kernel_rfl) (by rfl) (v := ?_) (fun _ _ _ h => h) hHeld (fun w hSw => ?_) ?_
                rotate_left
                · (try dsimp only at hSw); go_simp <;> (with_reducible rfl)
                (try simp only [Act.put, List.setIfInBounds_toArray, List.set_cons_zero, List.set_cons_succ])
                refine wpAnyH_done (by kernel_rfl) ?_ _
                have hbz := HBW.out.trans (hHeld.mono HBW.out.size)
                have hn2 := nbox_blk (blk_later H2.out hHeld)
                obtain ⟨⟨z0, z1, z2⟩, y0, y1, y2⟩ := hn2
                have hbz3 := ((hbz.setCell (p := ⟨w.heap.size, 0, none⟩) (Nat.le_refl _) (.bool false)).setCell (p := ⟨w.heap.size, 1, none⟩) (Nat.le_refl _) (.slice none 0 0)).setCell (p := ⟨w.heap.size, 2, none⟩) (Nat.le_refl _) (.slice none 0 0)
                clear hHeld hHx kb1 kp1 hOb hbs m0 m1 m2
                go_wp2
                refine bodyPost_ret (v := .tuple #[.agg #[.bool false, .slice none 0 0, .slice none 0 0], .bool false]) ?_ rfl ⟨hbz3, .inl ⟨rfl, HNO.out⟩⟩
                simp [results, Try.results26, go_sem, *]
              exact AllReadyH.nil
            refine rg_cons rfl (by rfl) (fun K hK => ?_) ?_
            · have hHx := hHeld
              have kp1 := Hkp.out _ hHeld
              go_simp
              refine hK.out _ _ hHx (fun hHeld => ?_)
              clear hK K
              (try simp only [Act.put, List.setIfInBounds_toArray, List.set_cons_zero, List.set_cons_succ])
              refine rg_do 5 rfl (by kernel_rfl) (by rfl) (fun K hK => ?_)
              go_simp
              (go_at_call 23; (with_reducible refine (HcB.out _ hHeld).mono ?_); (rintro e w105 ⟨Ab, nb, cb, rfl, hOb, hbs⟩))
              have hHx := bel_next hHeld hbs
              have kb1 := run_bytes_string (P := Try.prog) Try.underlying32 Try.underlying5 Try.underlying9 w105 Ab nb cb _ X.enc (Bytes.own hOb)
              rw [HS1.out] at kb1
              have kp1 := Hkp.out _ hHx
              refine hK.out _ _ hHx (fun hHeld => ?_)
              clear hK K
              (try simp only [Act.put, List.setIfInBounds_toArray, List.set_cons_zero, List.set_cons_succ])
              refine rg_do 6 rfl (by kernel_rfl) (by rfl) (fun K hK => ?_)
              have hHx := hHeld
              have kp1 := Hkp.out _ hHeld
              go_simp
              refine hK.out _ _ hHx (fun hHeld => ?_)
              clear hK K
              (try simp only [Act.put, List.setIfInBounds_toArray, List.set_cons_zero, List.set_cons_succ])
              refine rg_in 9 rfl (by kernel_rfl) (by kernel_rfl) (by kernel_rfl) (by rfl) (v := ?_) (fun _ _ _ h => h) hHeld (fun w hSw => ?_) ?_
              rotate_left
              · (try dsimp only at hSw); go_simp <;> (with_reducible rfl)
              (try simp only [Act.put, List.setIfInBounds_toArray, List.set_cons_zero, List.set_cons_succ])
              refine rg_in 10 rfl (by kernel_rfl) (by kernel_rfl) (by kernel_rfl) (by rfl) (v := ?_) (fun _ _ _ h => h) hHeld (fun w hSw => ?_) ?_
              rotate_left
              · (try dsimp only at hSw); go_simp <;> (with_reducible rfl)
              (try simp only [Act.put, List.setIfInBounds_toArray, List.set_cons_zero, List.set_cons_succ])
              refine wpAnyH_done (by kernel_rfl) ?_ _
              have hbz := HBW.out.trans (hHeld.mono HBW.out.size)
              have hn2 := nbox_blk (blk_later H2.out hHeld)
              obtain ⟨⟨z0, z1, z2⟩, y0, y1, y2⟩ := hn2
              have hbz3 := ((hbz.setCell (p := ⟨w.heap.size, 0, none⟩) (Nat.le_refl _) (.bool false)).setCell (p := ⟨w.heap.size, 1, none⟩) (Nat.le_refl _) (.slice none 0 0)).setCell (p := ⟨w.heap.size, 2, none⟩) (Nat.le_refl _) (.slice none 0 0)
              clear hHeld hHx kb1 kp1 hOb hbs m0 m1 m2
              go_wp2
              refine bodyPost_ret (v := .tuple #[.agg #[.bool false, .slice none 0 0, .slice none 0 0], .bool false]) ?_ rfl ⟨hbz3, .inl ⟨rfl, HNO.out⟩⟩
              simp [results, Try.results26, go_sem, *]
            exact AllReadyH.nil
        · have hk : X.okB = false := by simpa using hk
          have HNO : Hid (∀ Z, ¬ Hyp l Z) := Lib.hid (fun Z hZ => by rw [(hEND Z hZ).1] at hk; cases hk)
          rw [hk] at hcR
          have HcR := Lib.hid hcR
          clear hcR hk hEND t1
          go_upto_region 18 with fail
          clear v1
          refine wp_region_held_drew (S := fun W => Below W5.heap.size W5 W) (by kernel_rfl) (below_drewN (Below.refl _ _) 1) (fun hHeld => ?_)
          refine rg_in 0 rfl (by kernel_rfl) (by kernel_rfl) (by kernel_rfl) (by rfl) (v := ?_) (fun _ _ _ h => h) hHeld (fun w hSw => ?_) ?_
          rotate_left
          · (try dsimp only at hSw); go_simp <;> (with_reducible rfl)
          (try simp only [Act.put, List.setIfInBounds_toArray, List.set_cons_zero, List.set_cons_succ])
          refine rg_do 1 rfl (by kernel_rfl) (by rfl) (fun K hK => ?_)
          go_simp
          (go_at_call 13; (with_reducible refine (HcR.out _ hHeld).mono ?_); (rintro e w101 ⟨rfl, hbs⟩))
          have hHx := bel_next hHeld hbs
          refine hK.out _ _ hHx (fun hHeld => ?_)
          clear hK K
          (try simp only [Act.put, List.setIfInBounds_toArray, List.set_cons_zero, List.set_cons_succ])
          refine rg_in 2 rfl (by kernel_rfl) (by kernel_rfl) (by kernel_rfl) (by rfl) (v := ?_) (fun _ _ _ h => h) hHeld (fun w hSw => ?_) ?_
          rotate_left
          · (try dsimp only at hSw); go_simp <;> (with_reducible rfl)
          (try simp only [Act.put, List.setIfInBounds_toArray, List.set_cons_zero, List.set_cons_succ])
          refine rg_in 3 rfl (by kernel_rfl) (by kernel_rfl) (by kernel_rfl) (by rfl) (v := ?_) (fun _ _ _ h => h) hHeld (fun w hSw => ?_) ?_
          rotate_left
          · (try dsimp only at hSw); go_simp <;> (with_reducible rfl)
          (try simp only [Act.put, List.setIfInBounds_toArray, List.set_cons_zero, List.set_cons_succ])
          refine rg_off 4 rfl (by kernel_rfl) (by kernel_rfl) (by kernel_rfl) (by rfl) (fun _ _ _ h => h) hHeld ?_
          (try simp only [Act.put, List.setIfInBounds_toArray, List.set_cons_zero, List.set_cons_succ])
          refine rg_off 5 rfl (by kernel_rfl) (by kernel_rfl) (by kernel_rfl) (by rfl) (fun _ _ _ h => h) hHeld ?_
          (try simp only [Act.put, List.setIfInBounds_toArray, List.set_cons_zero, List.set_cons_succ])
          refine rg_off 6 rfl (by kernel_rfl) (by kernel_rfl) (by kernel_rfl) (by rfl) (fun _ _ _ h => h) hHeld ?_
          (try simp only [Act.put, List.setIfInBounds_toArray, List.set_cons_zero, List.set_cons_succ])
          refine rg_off 7 rfl (by kernel_rfl) (by kernel_rfl) (by kernel_rfl) (by rfl) (fun _ _ _ h => h) hHeld ?_
          (try simp only [Act.put, List.setIfInBounds_toArray, List.set_cons_zero, List.set_cons_succ])
          refine rg_off 8 rfl (by kernel_rfl) (by kernel_rfl) (by kernel_rfl) (by rfl) (fun _ _ _ h => h) hHeld ?_
          (try simp only [Act.put, List.setIfInBounds_toArray, List.set_cons_zero, List.set_cons_succ])
          refine rg_off 9 rfl (by kernel_rfl) (by kernel_rfl) (by kernel_rfl) (by rfl) (fun _ _ _ h => h) hHeld ?_
          (try simp only [Act.put, List.setIfInBounds_toArray, List.set_cons_zero, List.set_cons_succ])
          refine rg_in 10 rfl (by kernel_rfl) (by kernel_rfl) (by kernel_rfl) (by rfl) (v := ?_) (fun _ _ _ h => h) hHeld (fun w hSw => ?_) ?_
          rotate_left
          · (try dsimp only at hSw); go_simp <;> (with_reducible rfl)
          (try simp only [Act.put, List.setIfInBounds_toArray, List.set_cons_zero, List.set_cons_succ])
          refine wpAnyH_done (by kernel_rfl) ?_ _
          have hbz := HBW.out.trans (hHeld.mono HBW.out.size)
          have hn2 := nbox_blk (blk_later H2.out hHeld)
          obtain ⟨⟨z0, z1, z2⟩, y0, y1, y2⟩ := hn2
          have hbz3 := ((hbz.setCell (p := ⟨w.heap.size, 0, none⟩) (Nat.le_refl _) (.bool false)).setCell (p := ⟨w.heap.size, 1, none⟩) (Nat.le_refl _) (.slice none 0 0)).setCell (p := ⟨w.heap.size, 2, none⟩) (Nat.le_refl _) (.slice none 0 0)
          clear hHeld hHx hbs m0 m1 m2
          go_wp2
          refine bodyPost_ret (v := .tuple #[.agg #[.bool false, .slice none 0 0, .slice none 0 0], .bool false]) ?_ rfl ⟨hbz3, .inl ⟨rfl, HNO.out⟩⟩
          simp [results, Try.results26, go_sem, *]
end Go.Proofs.Ytnfohlabmidliaa
