import Derived.Test.YtnfohlabmidliaaGai
import Derived.Test.YtnfohlabmidliaaGac
/-
  decode.
-/
namespace Go.Proofs.Ytnfohlabmidliaa
open Go.RowKit
set_option linter.unusedVariables false
set_option linter.unusedSimpArgs false

theorem PcT.Ok.back {w W : World} {B N : Nat} {p : PcT} (h : p.Ok W B) (hb : Below N w W) (hB : B ≤ N) : p.Ok w B :=
  ⟨h.here.keep fun q hq => (hb.cell (by omega)).symm, h.nil, h.fits, h.most⟩
/-- Four cells of an item's box. -/
theorem box4 {W : World} {g : Nat} {a b c d : Value} {t : TypeId} (h : W.heap[g]? = some (.cells #[a, b, c, d] t (0, 0))) : (W.cell? ⟨g, 0, none⟩ = some a ∧ W.cell? ⟨g, 1, none⟩ = some b ∧ W.cell? ⟨g, 2, none⟩ = some c ∧ W.cell? ⟨g, 3, none⟩ = some d) ∧ W.frozen? ⟨g, 2, none⟩ = false ∧ W.frozen? ⟨g, 3, none⟩ = false := by
  refine ⟨⟨?_, ?_, ?_, ?_⟩, ?_, ?_⟩
  · rw [cell_of_row _ _ _ _ _ _ h]; rfl
  · rw [cell_of_row _ _ _ _ _ _ h]; rfl
  · rw [cell_of_row _ _ _ _ _ _ h]; rfl
  · rw [cell_of_row _ _ _ _ _ _ h]; rfl
  · simp [World.frozen?, h]
  · simp [World.frozen?, h]
theorem own_far {W : World} {base size n g k : Nat} {e : TypeId} {v u : Value} {xs : List Value} (h : W.ownsRow base e size v n xs) (hg : ∀ j, v.ownBlock = some j → j ≠ g) : (W.setCell ⟨g, k, none⟩ u).ownsRow base e size v n xs := by
  refine ⟨h.1, ?_⟩
  rcases h.2 with h2 | ⟨j, cap, cur, hv, hb, hh, r⟩
  · exact .inl h2
  · exact .inr ⟨j, cap, cur, hv, hb, (set_othN (hg j (by rw [hv]; rfl))).trans hh, r⟩
theorem it_one (x : ItT) : ∀ u ∈ [x].flatMap ItT.cells, u.oneCell' = true := by
  intro u hu
  simp only [List.flatMap_cons, List.flatMap_nil, List.append_nil, ItT.cells, List.mem_cons, List.not_mem_nil, or_false] at hu
  rcases hu with rfl | rfl | rfl | rfl <;> rfl
theorem ki_one (x : KiT) : ∀ u ∈ [x].flatMap KiT.cells, u.oneCell' = true := by
  intro u hu
  simp only [List.flatMap_cons, List.flatMap_nil, List.append_nil, KiT.cells, List.mem_cons, List.not_mem_nil, or_false] at hu
  rcases hu with rfl | rfl | rfl | rfl | rfl | rfl | rfl | rfl <;> rfl
theorem rows_new (W : World) (C : Array Value) (t : TypeId) (size : Nat) (l : List Value) (hC : C.toList = l) (hl : l.length = 1 * size) : Shows (W.alloc (.cells C t)) (W.heap.size + 1) size (some ⟨W.heap.size, 0, none⟩) 1 l :=
  ⟨hl, fun _ => ⟨W.heap.size, 0, rfl, by omega, fun j u hu => by
    rw [cell_of_row _ _ _ _ _ _ (heap_alloc_new W _), Nat.zero_add]
    rw [← hC] at hu
    simpa using hu⟩⟩
set_option maxRecDepth 20000 in
theorem item_info : ∃ i, Try.prog.info? 58 = some i ∧ i.zero = some (.agg #[.slice none 0 0, .slice none 0 0, .bool false, .int .i64 0]) ∧ i.size = 4 ∧ i.bytes = 64 := ⟨Try.t58, by kernel_rfl, by kernel_rfl, by kernel_rfl, by kernel_rfl⟩
set_option maxRecDepth 20000 in
theorem kid_info : ∃ i, Try.prog.info? 60 = some i ∧ i.zero = some (.agg #[.slice none 0 0, .int .i64 0, .int .i64 0, .int .i64 0, .int .i64 0, .int .u64 0, .int .i64 0, .int .i64 0]) ∧ i.size = 8 ∧ i.bytes = 80 := ⟨Try.t60, by kernel_rfl, by kernel_rfl, by kernel_rfl, by kernel_rfl⟩
/-- Where the items' loop is over. -/
def CutI (b : PcT) (w : World) (N g1 g2 g3 g4 g5 B : Nat) (wx : World) : Prop :=
  ∃ (p : PcT) (ok : Bool) (A : Option Addr) (c : Nat) (Xs : List ItT), DecS w wx N g1 g2 g3 g4 g5 B p ok true (.slice A Xs.length c) (.slice none 0 0) ∧ wx.ownsRow (g5 + 1) 58 4 (.slice A Xs.length c) Xs.length (Xs.flatMap ItT.cells) ∧ (∀ x ∈ Xs, x.Ok w B) ∧
    ((ok = true ∧ readO b.l = (if p.l = [] then some ⟨true, Xs.map ItT.s, []⟩ else none)) ∨ (ok = false ∧ readO b.l = none))
/-- Where a round of it begins. -/
def RndI (b : PcT) (w : World) (N g1 g2 g3 g4 g5 B c2 k : Nat) (wx : World) : Prop :=
  ∃ (p : PcT) (ok : Bool) (A : Option Addr) (c : Nat) (Xs : List ItT), Xs.length = k ∧ DecS w wx N g1 g2 g3 g4 g5 B p ok true (.slice A k c) (.slice none 0 0) ∧ wx.ownsRow (g5 + 1) 58 4 (.slice A k c) k (Xs.flatMap ItT.cells) ∧ (∀ x ∈ Xs, x.Ok w B) ∧
    ((ok = true ∧ readO b.l = ((Nod.itemsO (c2 - k) p.l).bind fun r => if r.2 = [] then some ⟨true, Xs.map ItT.s ++ r.1, []⟩ else none)) ∨ (ok = false ∧ c2 = 0 ∧ readO b.l = none))
def CutK (b : PcT) (w : World) (N g1 g2 g3 g4 g5 B : Nat) (wx : World) : Prop :=
  ∃ (p : PcT) (ok : Bool) (A : Option Addr) (c : Nat) (Xs : List KiT), DecS w wx N g1 g2 g3 g4 g5 B p ok false (.slice none 0 0) (.slice A Xs.length c) ∧ wx.ownsRow (g5 + 1) 60 8 (.slice A Xs.length c) Xs.length (Xs.flatMap KiT.cells) ∧ (∀ x ∈ Xs, x.Ok w B) ∧
    ((ok = true ∧ readO b.l = (if p.l = [] then some ⟨false, [], Xs.map KiT.s⟩ else none)) ∨ (ok = false ∧ readO b.l = none))
def RndK (b : PcT) (w : World) (N g1 g2 g3 g4 g5 B c2 k : Nat) (wx : World) : Prop :=
  ∃ (p : PcT) (ok : Bool) (A : Option Addr) (c : Nat) (Xs : List KiT), Xs.length = k ∧ DecS w wx N g1 g2 g3 g4 g5 B p ok false (.slice none 0 0) (.slice A k c) ∧ wx.ownsRow (g5 + 1) 60 8 (.slice A k c) k (Xs.flatMap KiT.cells) ∧ (∀ x ∈ Xs, x.Ok w B) ∧
    ((ok = true ∧ readO b.l = ((Nod.kidsO (c2 - k) p.l).bind fun r => if r.2 = [] then some ⟨false, [], Xs.map KiT.s ++ r.1⟩ else none)) ∨ (ok = false ∧ c2 = 0 ∧ readO b.l = none))
theorem leaf_done {w W : World} {B D E c : Nat} {A : Option Addr} {Xs : List ItT} (hO : W.ownsRow D 58 4 (.slice A Xs.length c) Xs.length (Xs.flatMap ItT.cells)) (hX : ∀ x ∈ Xs, x.Ok w B) (hD : E ≤ D) : GivesN ⟨true, A, Xs.length, c, Xs, none, 0, 0, []⟩ B E w W :=
  ⟨own_base hO hD, World.ownsRow_nil W E _ 8, hX, fun x hx => (List.not_mem_nil hx).elim⟩
theorem inner_done {w W : World} {B D E c : Nat} {A : Option Addr} {Xs : List KiT} (hO : W.ownsRow D 60 8 (.slice A Xs.length c) Xs.length (Xs.flatMap KiT.cells)) (hX : ∀ x ∈ Xs, x.Ok w B) (hD : E ≤ D) : GivesN ⟨false, none, 0, 0, [], A, Xs.length, c, Xs⟩ B E w W :=
  ⟨World.ownsRow_nil W E _ 4, own_base hO hD, fun x hx => (List.not_mem_nil hx).elim, hX⟩
/-- Eight cells of a kid's box. -/
theorem box8 {W : World} {g : Nat} {a0 a1 a2 a3 a4 a5 a6 a7 : Value} {t : TypeId} (h : W.heap[g]? = some (.cells #[a0, a1, a2, a3, a4, a5, a6, a7] t (0, 0))) : (W.cell? ⟨g, 0, none⟩ = some a0 ∧ W.cell? ⟨g, 1, none⟩ = some a1 ∧ W.cell? ⟨g, 2, none⟩ = some a2 ∧ W.cell? ⟨g, 3, none⟩ = some a3 ∧ W.cell? ⟨g, 4, none⟩ = some a4 ∧ W.cell? ⟨g, 5, none⟩ = some a5 ∧ W.cell? ⟨g, 6, none⟩ = some a6 ∧ W.cell? ⟨g, 7, none⟩ = some a7) ∧
    W.frozen? ⟨g, 0, none⟩ = false ∧ W.frozen? ⟨g, 1, none⟩ = false ∧ W.frozen? ⟨g, 2, none⟩ = false ∧ W.frozen? ⟨g, 3, none⟩ = false ∧ W.frozen? ⟨g, 4, none⟩ = false ∧ W.frozen? ⟨g, 5, none⟩ = false ∧ W.frozen? ⟨g, 6, none⟩ = false ∧ W.frozen? ⟨g, 7, none⟩ = false := by
  refine ⟨⟨?_, ?_, ?_, ?_, ?_, ?_, ?_, ?_⟩, ?_, ?_, ?_, ?_, ?_, ?_, ?_, ?_⟩
  all_goals first | (rw [cell_of_row _ _ _ _ _ _ h]; rfl) | simp [World.frozen?, h]
theorem tk1 (W : World) (g k : Nat) (v : Value) : Tk g g W (W.setCell ⟨g, k, none⟩ v) :=
  ⟨by simp [World.setCell], by simp [World.setCell], by simp [World.setCell], by simp [World.setCell], fun i h1 _ => Below.heap_setCell W ⟨g, k, none⟩ v i h1⟩
theorem tk8 (W : World) (g : Nat) (v0 v1 v2 v3 v4 v5 v6 v7 : Value) : Tk g g W (((((((W.setCell ⟨g, 0, none⟩ v0).setCell ⟨g, 1, none⟩ v1).setCell ⟨g, 2, none⟩ v2).setCell ⟨g, 3, none⟩ v3).setCell ⟨g, 4, none⟩ v4).setCell ⟨g, 5, none⟩ v5).setCell ⟨g, 6, none⟩ v6 |>.setCell ⟨g, 7, none⟩ v7) :=
  (((((((tk1 W g 0 v0).trans (tk1 _ g 1 v1)).trans (tk1 _ g 2 v2)).trans (tk1 _ g 3 v3)).trans (tk1 _ g 4 v4)).trans (tk1 _ g 5 v5)).trans (tk1 _ g 6 v6)).trans (tk1 _ g 7 v7)
theorem tk6 (W : World) (g : Nat) (v2 v3 v4 v5 v6 v7 : Value) : Tk g g W ((((((W.setCell ⟨g, 2, none⟩ v2).setCell ⟨g, 3, none⟩ v3).setCell ⟨g, 4, none⟩ v4).setCell ⟨g, 5, none⟩ v5).setCell ⟨g, 6, none⟩ v6).setCell ⟨g, 7, none⟩ v7) :=
  (((((tk1 W g 2 v2).trans (tk1 _ g 3 v3)).trans (tk1 _ g 4 v4)).trans (tk1 _ g 5 v5)).trans (tk1 _ g 6 v6)).trans (tk1 _ g 7 v7)
theorem blk8 {W : World} {g : Nat} {a0 a1 a2 a3 a4 a5 a6 a7 : Value} {t : TypeId} (h : W.heap[g]? = some (.cells #[a0, a1, a2, a3, a4, a5, a6, a7] t (0, 0))) (v0 v1 v2 v3 v4 v5 v6 v7 : Value) : (((((((W.setCell ⟨g, 0, none⟩ v0).setCell ⟨g, 1, none⟩ v1).setCell ⟨g, 2, none⟩ v2).setCell ⟨g, 3, none⟩ v3).setCell ⟨g, 4, none⟩ v4).setCell ⟨g, 5, none⟩ v5).setCell ⟨g, 6, none⟩ v6 |>.setCell ⟨g, 7, none⟩ v7).heap[g]? = some (.cells #[v0, v1, v2, v3, v4, v5, v6, v7] t (0, 0)) := by
  have e0 : (W.setCell ⟨g, 0, none⟩ v0).heap[g]? = some (.cells #[v0, a1, a2, a3, a4, a5, a6, a7] t (0, 0)) := set_blkN h
  have e1 : ((W.setCell ⟨g, 0, none⟩ v0).setCell ⟨g, 1, none⟩ v1).heap[g]? = some (.cells #[v0, v1, a2, a3, a4, a5, a6, a7] t (0, 0)) := set_blkN e0
  have e2 : (((W.setCell ⟨g, 0, none⟩ v0).setCell ⟨g, 1, none⟩ v1).setCell ⟨g, 2, none⟩ v2).heap[g]? = some (.cells #[v0, v1, v2, a3, a4, a5, a6, a7] t (0, 0)) := set_blkN e1
  have e3 : ((((W.setCell ⟨g, 0, none⟩ v0).setCell ⟨g, 1, none⟩ v1).setCell ⟨g, 2, none⟩ v2).setCell ⟨g, 3, none⟩ v3).heap[g]? = some (.cells #[v0, v1, v2, v3, a4, a5, a6, a7] t (0, 0)) := set_blkN e2
  have e4 : (((((W.setCell ⟨g, 0, none⟩ v0).setCell ⟨g, 1, none⟩ v1).setCell ⟨g, 2, none⟩ v2).setCell ⟨g, 3, none⟩ v3).setCell ⟨g, 4, none⟩ v4).heap[g]? = some (.cells #[v0, v1, v2, v3, v4, a5, a6, a7] t (0, 0)) := set_blkN e3
  have e5 : ((((((W.setCell ⟨g, 0, none⟩ v0).setCell ⟨g, 1, none⟩ v1).setCell ⟨g, 2, none⟩ v2).setCell ⟨g, 3, none⟩ v3).setCell ⟨g, 4, none⟩ v4).setCell ⟨g, 5, none⟩ v5).heap[g]? = some (.cells #[v0, v1, v2, v3, v4, v5, a6, a7] t (0, 0)) := set_blkN e4
  have e6 : (((((((W.setCell ⟨g, 0, none⟩ v0).setCell ⟨g, 1, none⟩ v1).setCell ⟨g, 2, none⟩ v2).setCell ⟨g, 3, none⟩ v3).setCell ⟨g, 4, none⟩ v4).setCell ⟨g, 5, none⟩ v5).setCell ⟨g, 6, none⟩ v6).heap[g]? = some (.cells #[v0, v1, v2, v3, v4, v5, v6, a7] t (0, 0)) := set_blkN e5
  have e7 : ((((((((W.setCell ⟨g, 0, none⟩ v0).setCell ⟨g, 1, none⟩ v1).setCell ⟨g, 2, none⟩ v2).setCell ⟨g, 3, none⟩ v3).setCell ⟨g, 4, none⟩ v4).setCell ⟨g, 5, none⟩ v5).setCell ⟨g, 6, none⟩ v6).setCell ⟨g, 7, none⟩ v7).heap[g]? = some (.cells #[v0, v1, v2, v3, v4, v5, v6, v7] t (0, 0)) := set_blkN e6
  exact e7
theorem blk6 {W : World} {g : Nat} {a0 a1 a2 a3 a4 a5 a6 a7 : Value} {t : TypeId} (h : W.heap[g]? = some (.cells #[a0, a1, a2, a3, a4, a5, a6, a7] t (0, 0))) (v2 v3 v4 v5 v6 v7 : Value) : ((((((W.setCell ⟨g, 2, none⟩ v2).setCell ⟨g, 3, none⟩ v3).setCell ⟨g, 4, none⟩ v4).setCell ⟨g, 5, none⟩ v5).setCell ⟨g, 6, none⟩ v6).setCell ⟨g, 7, none⟩ v7).heap[g]? = some (.cells #[a0, a1, v2, v3, v4, v5, v6, v7] t (0, 0)) := by
  have e0 : (W.setCell ⟨g, 2, none⟩ v2).heap[g]? = some (.cells #[a0, a1, v2, a3, a4, a5, a6, a7] t (0, 0)) := set_blkN h
  have e1 : ((W.setCell ⟨g, 2, none⟩ v2).setCell ⟨g, 3, none⟩ v3).heap[g]? = some (.cells #[a0, a1, v2, v3, a4, a5, a6, a7] t (0, 0)) := set_blkN e0
  have e2 : (((W.setCell ⟨g, 2, none⟩ v2).setCell ⟨g, 3, none⟩ v3).setCell ⟨g, 4, none⟩ v4).heap[g]? = some (.cells #[a0, a1, v2, v3, v4, a5, a6, a7] t (0, 0)) := set_blkN e1
  have e3 : ((((W.setCell ⟨g, 2, none⟩ v2).setCell ⟨g, 3, none⟩ v3).setCell ⟨g, 4, none⟩ v4).setCell ⟨g, 5, none⟩ v5).heap[g]? = some (.cells #[a0, a1, v2, v3, v4, v5, a6, a7] t (0, 0)) := set_blkN e2
  have e4 : (((((W.setCell ⟨g, 2, none⟩ v2).setCell ⟨g, 3, none⟩ v3).setCell ⟨g, 4, none⟩ v4).setCell ⟨g, 5, none⟩ v5).setCell ⟨g, 6, none⟩ v6).heap[g]? = some (.cells #[a0, a1, v2, v3, v4, v5, v6, a7] t (0, 0)) := set_blkN e3
  have e5 : ((((((W.setCell ⟨g, 2, none⟩ v2).setCell ⟨g, 3, none⟩ v3).setCell ⟨g, 4, none⟩ v4).setCell ⟨g, 5, none⟩ v5).setCell ⟨g, 6, none⟩ v6).setCell ⟨g, 7, none⟩ v7).heap[g]? = some (.cells #[a0, a1, v2, v3, v4, v5, v6, v7] t (0, 0)) := set_blkN e4
  exact e5
theorem DecS.up {w0 W W' : World} {N g1 g2 g3 g4 g5 B g : Nat} {p : PcT} {ok leaf : Bool} {vi vk : Value} (h : DecS w0 W N g1 g2 g3 g4 g5 B p ok leaf vi vk) (hg : DecG N g1 g2 g3 g4 g5 B) (ht : Tk g g W W') (hgg : g5 < g) : DecS w0 W' N g1 g2 g3 g4 g5 B p ok leaf vi vk := by
  obtain ⟨a, b, c, d, e, f⟩ := hg
  have k : ∀ i, i ≤ g5 → W'.heap[i]? = W.heap[i]? := fun i hi => ht.block i (by omega) (by omega)
  exact ⟨⟨(k _ (by omega)).trans h.rs.b, (k _ (by omega)).trans h.rs.k, h.rs.p.later (ht.below (by omega) (by omega))⟩, (k _ (by omega)).trans h.ct, (k _ (by omega)).trans h.cn, (k _ (by omega)).trans h.res, (k _ (Nat.le_refl _)).trans h.out, h.bel.trans (ht.below (by omega) (by omega))⟩
theorem own_up {W W' : World} {base size n g : Nat} {e : TypeId} {v : Value} {xs : List Value} (ht : Tk g g W W') (h : W.ownsRow base e size v n xs) (hg : ∀ j, v.ownBlock = some j → j ≠ g) : W'.ownsRow base e size v n xs := by
  refine ⟨h.1, ?_⟩
  rcases h.2 with h2 | ⟨j, cap, cur, hv, hb, hh, r⟩
  · exact .inl h2
  · exact .inr ⟨j, cap, cur, hv, hb, (ht.block j (hg j (by rw [hv]; rfl)) (hg j (by rw [hv]; rfl))).trans hh, r⟩
theorem cell_on {W W' : World} {a : Addr} {v : Value} (h : W.cell? a = some v) (hb : Below W.heap.size W W') : W'.cell? a = some v := mkept_later hb h
/-- A kid's box under way. -/
def SK18 (w : World) (N g1 g2 g3 g4 g5 B : Nat) (p : PcT) (A : Option Addr) (k c : Nat) (Xs : List KiT) (g : Nat) (h : PcT) (x : Nat) (W : World) : Prop :=
  ∃ (p1 p2 : PcT) (ok1 ok2 : Bool), DecS w W N g1 g2 g3 g4 g5 B p2 ok2 false (.slice none 0 0) (.slice A k c) ∧ W.ownsRow (g5 + 1) 60 8 (.slice A k c) k (Xs.flatMap KiT.cells) ∧ W.heap[g]? = some (.cells #[.slice h.A h.n h.c, .int .i64 (x : Int), .int .i64 0, .int .i64 0, .int .i64 0, .int .u64 0, .int .i64 0, .int .i64 0] 60 (0, 0)) ∧ (∀ j, (Value.slice A k c).ownBlock = some j → j ≠ g) ∧ g5 < g ∧ h.Ok w B ∧ x < 256 ^ 4 ∧
    ((ok1 = true ∧ Nod.textO p.l = some (h.l, p1.l)) ∨ (ok1 = false ∧ Nod.textO p.l = none)) ∧ ((ok2 = ok1 ∧ Nod.numO 4 p1.l = some (x, p2.l)) ∨ (ok2 = false ∧ Nod.numO 4 p1.l = none ∧ x = 0))
theorem i64n_wrap (x : Nat) (h : x < 18446744073709551616) : IntKind.i64.wrap (x : Int) = Nod.i64n x := by
  rw [IntKind.wrap_i64]
  unfold Nod.i64n
  split <;> omega
set_option maxRecDepth 20000 in
set_option maxHeartbeats 8000000 in
theorem decode_any (b : PcT) (B : Nat) (w : World) (hb : b.Ok w B) (hB : B ≤ w.heap.size) :
    Calls Try.prog 45 #[.slice b.A b.n b.c] w (DecP b B w) := by
  obtain ⟨hs, hg⟩ := dec_start b B w hb hB
  unfold takeV numVa at hs
  clear hb hB
  go_enter Try.func45, Try.ntmps45
  go_upto_region 6 with fail
  go_step3
  go_upto_region 6 with fail
  obtain ⟨N, hN⟩ : ∃ N, w.heap.size = N := ⟨_, rfl⟩
  rw [hN] at hs hg ⊢
  obtain ⟨g1, h1⟩ : ∃ x, N + 1 = x := ⟨_, rfl⟩
  rw [h1] at hs hg ⊢
  obtain ⟨g2, h2⟩ : ∃ x, g1 + 1 = x := ⟨_, rfl⟩
  rw [h2] at hs hg ⊢
  obtain ⟨g3, h3⟩ : ∃ x, g2 + 1 = x := ⟨_, rfl⟩
  rw [h3] at hs hg ⊢
  obtain ⟨g4, h4⟩ : ∃ x, g3 + 1 = x := ⟨_, rfl⟩
  rw [h4] at hs hg ⊢
  obtain ⟨g5, h5⟩ : ∃ x, g4 + 1 = x := ⟨_, rfl⟩
  rw [h5] at hs hg ⊢
  have HNN := Lib.hid hN
  have HG := Lib.hid hg
  clear hN h1 h2 h3 h4 h5 hg
  obtain ⟨W1, hW1⟩ : ∃ W1, ((((((w.alloc (.cells #[.slice b.A b.n b.c] 32)).alloc (.cells #[.bool false, .slice none 0 0, .slice none 0 0] 25)).alloc (.cells #[.bool true] 4)).alloc (.cells #[.func (.func 60) #[] #[.pointer (some ⟨N, 0, none⟩), .pointer (some ⟨g2, 0, none⟩)]] 101)).alloc (.cells #[.func (.func 61) #[] #[.pointer (some ⟨g3, 0, none⟩)]] 102)).alloc (.cells #[.bool false, .slice none 0 0, .slice none 0 0] 25)) = W1 := ⟨_, rfl⟩
  rw [hW1] at hs ⊢
  clear hW1
  have hs0 := hs.drew
  have c40 := hs0.nums
  unfold numVa at c40
  refine wp_region_held_drew (S := fun W => W.cell? ⟨g4, 0, none⟩ = some (.func (.func 61) #[] #[.pointer (some ⟨g3, 0, none⟩)])) (by kernel_rfl) c40 (fun hHeld => ?_)
  refine rg_in 0 rfl (by kernel_rfl) (by kernel_rfl) (by kernel_rfl) (by rfl) (v := ?_) (fun _ _ _ h => h) hHeld (fun w hSw => ?_) ?_
  rotate_left
  · (try dsimp only at hSw); go_simp <;> (with_reducible rfl)
  (try simp only [Act.put, List.setIfInBounds_toArray, List.set_cons_zero, List.set_cons_succ])
  refine rg_in 2 rfl (by kernel_rfl) (by kernel_rfl) (by kernel_rfl) (by rfl) (v := ?_) (fun _ _ _ h => h) hHeld (fun w hSw => ?_) ?_
  rotate_left
  · (try dsimp only at hSw); go_simp <;> (with_reducible rfl)
  (try simp only [Act.put, List.setIfInBounds_toArray, List.set_cons_zero, List.set_cons_succ])
  refine rg_do 1 rfl (by kernel_rfl) (by rfl) (fun K hK => ?_)
  go_simp
  (go_at_call 61; (with_reducible refine (hs0.num1 HG.out).mono ?_); (rintro e w101 ⟨xa, qa, oa, rfl, hxa, hra, hta, hora⟩))
  have hsa := hs0.tk HG.out hta hra
  refine hK.out _ _ (hta.cell HG.out.ne.2.2.2.2.1 HG.out.ne.2.2.2.2.2 hHeld) (fun hHeld => ?_)
  clear hK K
  (try simp only [Act.put, List.setIfInBounds_toArray, List.set_cons_zero, List.set_cons_succ])
  refine rg_do 3 rfl (by kernel_rfl) (by rfl) (fun K hK => ?_)
  go_simp
  (go_at_call 61; (with_reducible refine (hsa.num1 HG.out).mono ?_); (rintro e w103 ⟨xb, qb, ob, rfl, hxb, hrb, htb, horb⟩))
  have hsb := hsa.tk HG.out htb hrb
  have hxb' : xb < 256 := hxb
  have hwb : IntKind.i64.wrap (xb : Int) = (xb : Int) := by rw [IntKind.wrap_i64]; omega
  refine hK.out _ _ (htb.cell HG.out.ne.2.2.2.2.1 HG.out.ne.2.2.2.2.2 hHeld) (fun hHeld => ?_)
  clear hK K
  (try simp only [Act.put, List.setIfInBounds_toArray, List.set_cons_zero, List.set_cons_succ])
  refine rg_in 4 rfl (by kernel_rfl) (by kernel_rfl) (by kernel_rfl) (by rfl) (v := ?_) (fun _ _ _ h => h) hHeld (fun w hSw => ?_) ?_
  rotate_left
  · (try dsimp only at hSw); go_simp <;> (with_reducible rfl)
  (try simp only [Act.put, List.setIfInBounds_toArray, List.set_cons_zero, List.set_cons_succ])
  refine rg_in 5 rfl (by kernel_rfl) (by kernel_rfl) (by kernel_rfl) (by rfl) (v := ?_) (fun _ _ _ h => h) hHeld (fun w hSw => ?_) ?_
  rotate_left
  · (try dsimp only at hSw); go_simp <;> (with_reducible rfl)
  (try simp only [Act.put, List.setIfInBounds_toArray, List.set_cons_zero, List.set_cons_succ])
  refine rg_in 6 rfl (by kernel_rfl) (by kernel_rfl) (by kernel_rfl) (by rfl) (v := ?_) (fun _ _ _ h => h) hHeld (fun w hSw => ?_) ?_
  rotate_left
  · (try dsimp only at hSw); go_simp <;> (with_reducible rfl)
  (try simp only [Act.put, List.setIfInBounds_toArray, List.set_cons_zero, List.set_cons_succ])
  refine wpAnyH_done (by kernel_rfl) ?_ _
  clear hHeld c40 hs0 hs hsa hra hta hrb htb
  have HSB := Lib.hid hsb
  obtain ⟨⟨o0, o1, o2⟩, z0, z1, z2⟩ := hsb.outs
  obtain ⟨⟨j0, j1, j2⟩, k0, k1, k2⟩ := hsb.ress
  have hne15 : ¬ g1 = g5 := by have h := HG.out; obtain ⟨a, b, c, d, e, f⟩ := h; omega
  have hne51 : ¬ g5 = g1 := fun e => hne15 e.symm
  clear hsb
  by_cases hm1 : xa = 1
  · subst hm1
    clear j0 j1 j2 k0 k1 k2 hne15 hne51
    obtain ⟨iI, hiI, hzI, hsI, hbI⟩ := item_info
    go_upto_region 8 with fail
    have hs9 := HSB.out.setOut (k := 0) (u := .bool true) (leaf' := true) (vi' := .slice none 0 0) (vk' := .slice none 0 0) HG.out rfl
    have hw9 : g5 < (w103.setCell ⟨g5, 0, none⟩ (.bool true)).heap.size := blk_lt hs9.out
    generalize w103.setCell ⟨g5, 0, none⟩ (.bool true) = W9 at *
    clear o0 o1 o2 z0 z1 z2
    have HR0 := Lib.hid (show RndI b w N g1 g2 g3 g4 g5 B xb 0 W9 from ⟨qb, ob, none, 0, [], rfl, hs9, World.ownsRow_nil _ _ _ _, fun x hx => (List.not_mem_nil hx).elim, by
      have hra : ∀ (h : Nod.numO 1 b.l = some (1, qa.l)) (h2 : Nod.numO 1 qa.l = some (xb, qb.l)), readO b.l = ((Nod.itemsO (xb - 0) qb.l).bind fun r => if r.2 = [] then some ⟨true, ([] : List ItT).map ItT.s ++ r.1, []⟩ else none) := fun h h2 => by
        rw [read_leaf h h2, Nat.sub_zero]
        rfl
      rcases hora with ⟨e1, h⟩ | ⟨e1, h, h0⟩
      · rcases horb with ⟨e2, h2⟩ | ⟨e2, h2, h3⟩
        · exact .inl ⟨e2.trans e1, hra h h2⟩
        · exact .inr ⟨e2, h3, read_no3 h h2⟩
      · omega⟩)
    clear hs9 hora horb
    go_wp2_with fail
    go_step3
    go_upto_block 0 with fail
    go_cut [] (fun wx => CutI b w N g1 g2 g3 g4 g5 B wx)
    case first =>
      go_wp2_with fail
      go_loopw [33] (fun y wr => ∃ k : Nat, k ≤ xb ∧ y = .int .i64 k ∧ Hid (RndI b w N g1 g2 g3 g4 g5 B xb k wr)) (fun y _ => xb - (intOf y).toNat)
      case atStart => exact ⟨0, Nat.zero_le _, rfl, HR0⟩
      case round =>
        clear HR0 hw9
        obtain ⟨k, hk, rfl, HR⟩ := hrel
        by_cases hlt : k < xb
        · obtain ⟨p, ok, A, c, Xs, hXl, hsr, hO, hXo, hor⟩ := HR.out
          obtain ⟨rfl, hre⟩ : ok = true ∧ readO b.l = ((Nod.itemsO (xb - k) p.l).bind fun r => if r.2 = [] then some ⟨true, Xs.map ItT.s ++ r.1, []⟩ else none) := by
            rcases hor with h | ⟨_, h, _⟩
            · exact h
            · omega
          have HRE := Lib.hid hre
          have HXO := Lib.hid hXo
          have HXL := Lib.hid hXl
          have hlt' : (k : Int) < (xb : Int) := by omega
          have hgt : g5 < wr.heap.size := blk_lt hsr.out
          obtain ⟨⟨o0, o1, o2⟩, z0, z1, z2⟩ := hsr.outs
          have hcx := hsr.text HG.out
          clear hor hre hXo hXl HR
          go_wp2_with fail
          refine hcx.mono ?_
          rintro e w1 ⟨h1, p1, ok1, rfl, hk1, hk255, hr1, ht1, hor1⟩
          have hs1 := hsr.tk HG.out ht1 hr1
          have hO1 := ht1.row (by have h := HG.out; obtain ⟨a, b, c, d, e, f⟩ := h; omega) (by have h := HG.out; obtain ⟨a, b, c, d, e, f⟩ := h; omega) hO
          have HK1 := Lib.hid (hk1.back hs1.bel HG.out.f)
          have H1 := Lib.hid hor1
          have hg1 : g5 < w1.heap.size := blk_lt hs1.out
          have hcx := hs1.text HG.out
          clear hk1 hr1 ht1 hor1 hO o0 o1 o2 z0 z1 z2
          go_wp2_with fail
          refine hcx.mono ?_
          rintro e w2 ⟨h2, p2, ok2, rfl, hk2, hk255b, hr2, ht2, hor2⟩
          have hs2 := hs1.tk HG.out ht2 hr2
          have hO2 := ht2.row (by have h := HG.out; obtain ⟨a, b, c, d, e, f⟩ := h; omega) (by have h := HG.out; obtain ⟨a, b, c, d, e, f⟩ := h; omega) hO1
          have HK2 := Lib.hid (hk2.back hs2.bel HG.out.f)
          have H2 := Lib.hid hor2
          have hg2 : g5 < w2.heap.size := blk_lt hs2.out
          have hbl := bel_alloc (Below.refl w2.heap.size w2) (.cells #[.slice h1.A h1.n h1.c, .slice h2.A h2.n h2.c, .bool false, .int .i64 0] 58)
          have hb11 := heap_alloc_new w2 (.cells #[.slice h1.A h1.n h1.c, .slice h2.A h2.n h2.c, .bool false, .int .i64 0] 58)
          have hs3 := hs2.later HG.out hbl
          have HO3 := Lib.hid (own_later hO2 hbl)
          have HFar := Lib.hid (fun j (hj : (Value.slice A k c).ownBlock = some j) => (hO2.lt j hj).2)
          have c43 := hs3.nums
          unfold numVa at c43
          clear hk2 hr2 ht2 hor2 hO1 hO2 hcx hbl
          go_upto_region 14 with fail
          obtain ⟨g11, hg11⟩ : ∃ g11, w2.heap.size = g11 := ⟨_, rfl⟩
          generalize w2.alloc (.cells #[.slice h1.A h1.n h1.c, .slice h2.A h2.n h2.c, .bool false, .int .i64 0] 58) = W3 at *
          rw [hg11] at hb11 HFar hg2 ⊢
          clear hg11
          have hcx := hs3.num1 HG.out
          go_wp2_with fail
          refine hcx.mono ?_
          rintro e w4 ⟨f, p3, ok3, rfl, hf, hr3, ht3, hor3⟩
          have hs4 := hs3.tk HG.out ht3 hr3
          have hne : g11 ≠ N ∧ g11 ≠ g2 := by have h := HG.out; obtain ⟨a, b, c, d, e, f⟩ := h; omega
          have hb11 := (ht3.block _ hne.1 hne.2).trans hb11
          have HO4 := Lib.hid (ht3.row (by have h := HG.out; obtain ⟨a, b, c, d, e, f⟩ := h; omega) (by have h := HG.out; obtain ⟨a, b, c, d, e, f⟩ := h; omega) HO3.out)
          have H3 := Lib.hid hor3
          have c44 := hs4.nums
          unfold numVa at c44
          have hcx := hs4.num8 HG.out
          clear c43 hr3 ht3 hor3 HO3
          have hf' : f < 256 := hf
          obtain ⟨fb, hfb⟩ : ∃ fb, decide (f = 1) = fb := ⟨_, rfl⟩
          have hfe : ((f : Int) == 1) = fb := by rw [← hfb]; by_cases h : f = 1 <;> simp [h]; omega
          obtain ⟨fl, hfl⟩ : ∃ fl, decide (f ≤ 1) = fl := ⟨_, rfl⟩
          have hfle : decide ((f : Int) ≤ 1) = fl := by rw [← hfl]; by_cases h : f ≤ 1 <;> simp [h] <;> omega
          have HFB := Lib.hid hfb
          have HFL := Lib.hid hfl
          clear hfb hfl hf
          go_wp2_with fail
          refine hcx.mono ?_
          rintro e w5 ⟨n8, p4, ok4, rfl, hn8, hr4, ht4, hor4⟩
          have hn8' : n8 < 18446744073709551616 := hn8
          have hwi := i64n_wrap n8 hn8'
          have HI8 := Lib.hid (Nod.i64n_r n8 hn8')
          obtain ⟨i8, hi8⟩ : ∃ i8, Nod.i64n n8 = i8 := ⟨_, rfl⟩
          rw [hi8] at hwi HI8
          have hs5 := hs4.tk HG.out ht4 hr4
          have hb11 := (ht4.block _ hne.1 hne.2).trans hb11
          have HO5 := Lib.hid (ht4.row (by have h := HG.out; obtain ⟨a, b, c, d, e, f⟩ := h; omega) (by have h := HG.out; obtain ⟨a, b, c, d, e, f⟩ := h; omega) HO4.out)
          have H4 := Lib.hid hor4
          have HI := Lib.hid hi8
          obtain ⟨⟨r0, r1, r2, r3⟩, y2, y3⟩ := box4 hb11
          clear c44 hr4 ht4 hor4 HO4 hcx hn8 hn8' hi8
          go_upto_region 16 with fail
          have hs6 := (hs5.setUp (k := 2) (u := .bool fb) HG.out hg2).setUp (k := 3) (u := .int .i64 i8) HG.out hg2
          have hb6 : (w5.setCell ⟨g11, 2, none⟩ (.bool fb)).heap[g11]? = some (.cells #[.slice h1.A h1.n h1.c, .slice h2.A h2.n h2.c, .bool fb, .int .i64 0] 58 (0, 0)) := set_blkN hb11
          have hb7 : ((w5.setCell ⟨g11, 2, none⟩ (.bool fb)).setCell ⟨g11, 3, none⟩ (.int .i64 i8)).heap[g11]? = some (.cells #[.slice h1.A h1.n h1.c, .slice h2.A h2.n h2.c, .bool fb, .int .i64 i8] 58 (0, 0)) := set_blkN hb6
          have HO6 := Lib.hid (own_far (k := 3) (u := .int .i64 i8) (own_far (k := 2) (u := .bool fb) HO5.out (fun j hj => Nat.ne_of_lt (HFar.out j hj))) (fun j hj => Nat.ne_of_lt (HFar.out j hj)))
          clear r0 r1 r2 r3 y2 y3 hb11 hb6 HO5
          generalize (w5.setCell ⟨g11, 2, none⟩ (.bool fb)).setCell ⟨g11, 3, none⟩ (.int .i64 i8) = W6 at *
          obtain ⟨_, e1, _, e3⟩ := hs6.rs.cells
          obtain ⟨z, hz⟩ : ∃ z, (ok4 && fl) = z := ⟨_, rfl⟩
          have HZ := Lib.hid hz
          have hs7 := hs6.setOk (z := z) HG.out
          have hb8 : (W6.setCell ⟨g2, 0, none⟩ (.bool z)).heap[g11]? = some (.cells #[.slice h1.A h1.n h1.c, .slice h2.A h2.n h2.c, .bool fb, .int .i64 i8] 58 (0, 0)) := (set_othN hne.2).trans hb7
          have HO7 := Lib.hid (own_far (g := g2) (k := 0) (u := .bool z) HO6.out (fun j hj => by have h1 := (HO6.out.lt j hj).1; have h := HG.out; obtain ⟨a, b, c, d, e, f⟩ := h; omega))
          obtain ⟨W7, hW7⟩ : ∃ W7, W6.setCell ⟨g2, 0, none⟩ (.bool z) = W7 := ⟨_, rfl⟩
          rw [hW7] at hs7 hb8 HO7
          have HW7 := Lib.hid hW7
          have HS7 := Lib.hid hs7
          have HB8 := Lib.hid hb8
          clear hs7 hb8 hW7 hs6 hb7 HO6
          have HSt := Lib.hid (it_step H1.out H2.out H3.out H4.out (z := z) (by rw [HFL.out]; exact hz.symm))
          have hXo8 := Lib.hid (show ∀ x ∈ Xs ++ [(⟨h1, h2, fb, i8⟩ : ItT)], x.Ok w B from fun x hx => by
            rcases List.mem_append.1 hx with h | h
            · exact HXO.out x h
            · obtain rfl := List.mem_singleton.1 h
              exact ⟨HK1.out, HK2.out, HI8.out⟩)
          have HTail := Lib.hid (show ∀ W8 A2 c2, DecS w W8 N g1 g2 g3 g4 g5 B p4 z true (.slice A2 (k + 1) c2) (.slice none 0 0) → W8.ownsRow (g5 + 1) 58 4 (.slice A2 (k + 1) c2) (k + 1) ((Xs ++ [(⟨h1, h2, fb, i8⟩ : ItT)]).flatMap ItT.cells) → (z = true → RndI b w N g1 g2 g3 g4 g5 B xb (k + 1) W8) ∧ (z = false → CutI b w N g1 g2 g3 g4 g5 B W8) from fun W8 A2 c2 hd ho => by
            have hl8 : (Xs ++ [(⟨h1, h2, fb, i8⟩ : ItT)]).length = k + 1 := by rw [List.length_append, HXL.out]; rfl
            rcases HSt.out with ⟨hz1, hit⟩ | ⟨hz1, hit⟩
            · refine ⟨fun _ => ⟨p4, z, A2, c2, Xs ++ [⟨h1, h2, fb, i8⟩], hl8, hd, ho, hXo8.out, .inl ⟨hz1, ?_⟩⟩, fun h => by rw [h] at hz1; cases hz1⟩
              rw [HRE.out, show xb - k = (xb - (k + 1)) + 1 by omega, items_yes hit, HFB.out, HI.out]
              cases Nod.itemsO (xb - (k + 1)) p4.l with
              | none => rfl
              | some r => simp [ItT.s]
            · refine ⟨fun h => by (rw [h] at hz1; cases hz1), fun _ => ?_⟩
              rw [← hl8] at hd ho
              refine ⟨p4, z, A2, c2, Xs ++ [⟨h1, h2, fb, i8⟩], hd, ho, hXo8.out, .inr ⟨hz1, ?_⟩⟩
              rw [HRE.out, show xb - k = (xb - (k + 1)) + 1 by omega, items_no hit]
              rfl)
          clear H1 H2 H3 H4 HFL HXO HRE HK1 HK2 hXo8 HSt
          have hgo : W6.setCell ⟨g2, 0, none⟩ (.bool z) = W7 := HW7.out
          rcases Bool.eq_false_or_eq_true ok4 with ho4 | ho4 <;> subst ho4
          · obtain rfl : fl = z := by rw [← HZ.out]; rfl
            go_upto_region 17 with fail
            clear hgo
            obtain ⟨⟨o0, o1, o2⟩, z0, z1, z2⟩ := HS7.out.outs
            obtain ⟨⟨r0, r1, r2, r3⟩, -⟩ := box4 HB8.out
            have hba := bel_alloc (Below.refl W7.heap.size W7) (.cells #[.slice h1.A h1.n h1.c, .slice h2.A h2.n h2.c, .bool fb, .int .i64 i8] 58)
            have hn6 := own_later HO7.out hba
            have hsA := HS7.out.later HG.out hba
            have hs6 := rows_new W7 #[.slice h1.A h1.n h1.c, .slice h2.A h2.n h2.c, .bool fb, .int .i64 i8] 58 4 ([(⟨h1, h2, fb, i8⟩ : ItT)].flatMap ItT.cells) rfl rfl
            have hz6 : g5 + 1 ≤ (W7.alloc (.cells #[.slice h1.A h1.n h1.c, .slice h2.A h2.n h2.c, .bool fb, .int .i64 i8] 58)).heap.size := blk_lt hsA.out
            have hx7 : k + 1 ≤ maxLen := by unfold maxLen; omega
            have hbt : (k + 1) * 64 ≤ 140737488355328 := by omega
            have hlt9 := fun j (hj : (Value.slice A k c).ownBlock = some j) => (hn6.lt j hj).1
            go_upto_region 21 with (at_builtin; refine wpList_append_shows _ rfl _ _ 22 rfl (g5 + 1) 58 iI (.agg #[.slice none 0 0, .slice none 0 0, .bool false, .int .i64 0]) 4 64 Try.underlying22 hiI hzI hsI hbI rfl (by decide) _ _ _ rfl hn6 _ _ 1 1 ([(⟨h1, h2, fb, i8⟩ : ItT)].flatMap ItT.cells) rfl hs6 (it_one _) hx7 hbt hz6 ?_; intro A7 c7 w7 hown7 hgr7 hb7; have hsB := hsA.grown HG.out hgr7 (fun j hj => hlt9 j hj); obtain ⟨⟨q0, q1, q2⟩, y0, y1, y2⟩ := hsB.outs)
            have hs9 := hsB.setOut (k := 1) (u := .slice A7 (k + 1) c7) (leaf' := true) (vi' := .slice A7 (k + 1) c7) (vk' := .slice none 0 0) HG.out rfl
            have ho9 := ownsRow_setCell_below hown7 (a := ⟨g5, 1, none⟩) (Nat.lt_succ_self g5) (.slice A7 (k + 1) c7)
            rw [← List.flatMap_append] at ho9
            have ht9 := Lib.hid (HTail.out _ A7 c7 hs9 ho9)
            clear o0 o1 o2 z0 z1 z2 r0 r1 r2 r3 q0 q1 q2 y0 y1 y2 hba hn6 hsA hs6 hz6 hown7 hgr7 hb7 hsB ho9
            generalize w7.setCell ⟨g5, 1, none⟩ (.slice A7 (k + 1) c7) = W9x at *
            obtain ⟨-, e9, -, -⟩ := hs9.rs.cells
            cases fl
            · go_wp2_with fail
              go_meet
              case rel => exact ht9.out.2 (by first | rfl | trivial)
            · go_wp2_with fail
              clear hwi hfe hfle hwb hx7 hbt
              go_roundw
              case rel => exact ⟨_, _, _, _, ⟨k + 1, by omega, by go_num, Lib.hid (ht9.out.1 (by first | rfl | trivial))⟩, rfl, rfl, rfl, rfl⟩
              case measure => simp [intOf]; omega
          · obtain rfl : z = false := by rw [← HZ.out]; rfl
            go_upto_region 17 with fail
            clear hgo
            obtain ⟨⟨o0, o1, o2⟩, z0, z1, z2⟩ := HS7.out.outs
            obtain ⟨⟨r0, r1, r2, r3⟩, -⟩ := box4 HB8.out
            have hba := bel_alloc (Below.refl W7.heap.size W7) (.cells #[.slice h1.A h1.n h1.c, .slice h2.A h2.n h2.c, .bool fb, .int .i64 i8] 58)
            have hn6 := own_later HO7.out hba
            have hsA := HS7.out.later HG.out hba
            have hs6 := rows_new W7 #[.slice h1.A h1.n h1.c, .slice h2.A h2.n h2.c, .bool fb, .int .i64 i8] 58 4 ([(⟨h1, h2, fb, i8⟩ : ItT)].flatMap ItT.cells) rfl rfl
            have hz6 : g5 + 1 ≤ (W7.alloc (.cells #[.slice h1.A h1.n h1.c, .slice h2.A h2.n h2.c, .bool fb, .int .i64 i8] 58)).heap.size := blk_lt hsA.out
            have hx7 : k + 1 ≤ maxLen := by unfold maxLen; omega
            have hbt : (k + 1) * 64 ≤ 140737488355328 := by omega
            have hlt9 := fun j (hj : (Value.slice A k c).ownBlock = some j) => (hn6.lt j hj).1
            go_upto_region 21 with (at_builtin; refine wpList_append_shows _ rfl _ _ 22 rfl (g5 + 1) 58 iI (.agg #[.slice none 0 0, .slice none 0 0, .bool false, .int .i64 0]) 4 64 Try.underlying22 hiI hzI hsI hbI rfl (by decide) _ _ _ rfl hn6 _ _ 1 1 ([(⟨h1, h2, fb, i8⟩ : ItT)].flatMap ItT.cells) rfl hs6 (it_one _) hx7 hbt hz6 ?_; intro A7 c7 w7 hown7 hgr7 hb7; have hsB := hsA.grown HG.out hgr7 (fun j hj => hlt9 j hj); obtain ⟨⟨q0, q1, q2⟩, y0, y1, y2⟩ := hsB.outs)
            have hs9 := hsB.setOut (k := 1) (u := .slice A7 (k + 1) c7) (leaf' := true) (vi' := .slice A7 (k + 1) c7) (vk' := .slice none 0 0) HG.out rfl
            have ho9 := ownsRow_setCell_below hown7 (a := ⟨g5, 1, none⟩) (Nat.lt_succ_self g5) (.slice A7 (k + 1) c7)
            rw [← List.flatMap_append] at ho9
            have ht9 := Lib.hid (HTail.out _ A7 c7 hs9 ho9)
            clear o0 o1 o2 z0 z1 z2 r0 r1 r2 r3 q0 q1 q2 y0 y1 y2 hba hn6 hsA hs6 hz6 hown7 hgr7 hb7 hsB ho9
            generalize w7.setCell ⟨g5, 1, none⟩ (.slice A7 (k + 1) c7) = W9x at *
            obtain ⟨-, e9, -, -⟩ := hs9.rs.cells
            go_wp2_with fail
            go_meet
            case rel => exact ht9.out.2 (by first | rfl | trivial)
        · obtain ⟨p, ok, A, c, Xs, rfl, hsr, hO, hXo, hor⟩ := HR.out
          have HX := Lib.hid (show CutI b w N g1 g2 g3 g4 g5 B wr from ⟨p, ok, A, c, Xs, hsr, hO, hXo, by
            rcases hor with ⟨h, h2⟩ | ⟨h, _, h2⟩
            · refine .inl ⟨h, ?_⟩
              rw [h2, show xb - Xs.length = 0 by omega, Nod.itemsO]
              simp
            · exact .inr ⟨h, h2⟩⟩)
          clear hsr hO hXo hor HR
          go_wp2_with fail
          go_meet
          case rel => exact HX.out
    case rest =>
      rename World => wc
      obtain ⟨p, ok, A, c, Xs, hsr, hO, hXo, hor⟩ := hcut
      clear HR0 hw9
      have HO := Lib.hid hO
      have HXo := Lib.hid hXo
      have HOR := Lib.hid hor
      have HS := Lib.hid hsr
      obtain ⟨⟨o0, o1, o2⟩, -⟩ := hsr.outs
      obtain ⟨⟨j0, j1, j2⟩, k0, k1, k2⟩ := hsr.ress
      obtain ⟨e0, e1, -, -⟩ := hsr.rs.cells
      have hpl := hsr.rs.p.len
      have HPL := Lib.hid hpl
      have hnN : ¬ N = g1 := by have h := HG.out; obtain ⟨a, b, c, d, e, f⟩ := h; omega
      have hnN' : ¬ g1 = N := fun e => hnN e.symm
      clear hO hXo hor hsr hpl
      cases ok
      · have HRN := Lib.hid (show readO b.l = none by
          rcases HOR.out with ⟨h, _⟩ | ⟨_, h⟩
          · cases h
          · exact h)
        have hbz := (((HS.out.bel.setCell (p := ⟨g1, 0, none⟩) (by show N ≤ g1; have h := HG.out; obtain ⟨a, b, c, d, e, f⟩ := h; omega) (.bool true)).setCell (p := ⟨g1, 1, none⟩) (by show N ≤ g1; have h := HG.out; obtain ⟨a, b, c, d, e, f⟩ := h; omega) (.slice A Xs.length c)).setCell (p := ⟨g1, 2, none⟩) (by show N ≤ g1; have h := HG.out; obtain ⟨a, b, c, d, e, f⟩ := h; omega) (.slice none 0 0))
        go_upto_region 23 with fail
        go_region
        go_wp2
        (first | rw [Exit.noGoto_ret] | skip)
        refine bodyPost_ret (v := .tuple #[.agg #[.bool true, (.slice A Xs.length c), (.slice none 0 0)], .bool false]) ?_ rfl ⟨by rw [HNN.out]; exact below_drewN hbz 1, .inl ⟨HRN.out, true, _, _, _, _, _, _, rfl⟩⟩
        simp [results, Try.results45, go_sem, *]
      · have hbz := (((HS.out.bel.setCell (p := ⟨g1, 0, none⟩) (by show N ≤ g1; have h := HG.out; obtain ⟨a, b, c, d, e, f⟩ := h; omega) (.bool true)).setCell (p := ⟨g1, 1, none⟩) (by show N ≤ g1; have h := HG.out; obtain ⟨a, b, c, d, e, f⟩ := h; omega) (.slice A Xs.length c)).setCell (p := ⟨g1, 2, none⟩) (by show N ≤ g1; have h := HG.out; obtain ⟨a, b, c, d, e, f⟩ := h; omega) (.slice none 0 0))
        have hgl : g1 < g5 + 1 := by have h := HG.out; obtain ⟨a, b, c, d, e, f⟩ := h; omega
        have hoz := (ownsRow_setCell_below (ownsRow_setCell_below (ownsRow_setCell_below HO.out (a := ⟨g1, 0, none⟩) hgl (.bool true)) (a := ⟨g1, 1, none⟩) hgl (.slice A Xs.length c)) (a := ⟨g1, 2, none⟩) hgl (.slice none 0 0)).drew
        have HOZ := Lib.hid hoz
        clear hoz
        by_cases hp : p.n = 0
        · have hp' : (p.n : Int) = 0 := by omega
          have HRN := Lib.hid (show readO b.l = some ⟨true, Xs.map ItT.s, []⟩ by
            rcases HOR.out with ⟨_, h⟩ | ⟨h, _⟩
            · rw [h, if_pos (List.eq_nil_of_length_eq_zero (by rw [HPL.out]; exact hp))]
            · cases h)
          have hp2 : (p.n : Int) == 0 := by simp; omega
          go_upto_region 23 with fail
          go_region
          go_wp2
          (first | rw [Exit.noGoto_ret] | skip)
          refine bodyPost_ret (v := .tuple #[.agg #[.bool true, (.slice A Xs.length c), (.slice none 0 0)], .bool true]) ?_ rfl ⟨by rw [HNN.out]; exact below_drewN hbz 1, .inr ⟨⟨true, A, Xs.length, c, Xs, none, 0, 0, []⟩, rfl, HRN.out, leaf_done HOZ.out HXo.out (by rw [HNN.out]; have h := HG.out; obtain ⟨a, b, c, d, e, f⟩ := h; omega)⟩⟩
          simp [results, Try.results45, go_sem, *]
        · have hp' : ¬ (p.n : Int) = 0 := by omega
          have hp3 : ((p.n : Int) == 0) = false := by simp; omega
          have HRN := Lib.hid (show readO b.l = none by
            rcases HOR.out with ⟨_, h⟩ | ⟨h, _⟩
            · rw [h, if_neg (fun e => hp (by rw [← HPL.out, e]; rfl))]
            · cases h)
          clear hp
          go_upto_region 23 with fail
          go_region
          go_wp2
          (first | rw [Exit.noGoto_ret] | skip)
          refine bodyPost_ret (v := .tuple #[.agg #[.bool true, (.slice A Xs.length c), (.slice none 0 0)], .bool false]) ?_ rfl ⟨by rw [HNN.out]; exact below_drewN hbz 1, .inl ⟨HRN.out, true, _, _, _, _, _, _, rfl⟩⟩
          simp [results, Try.results45, go_sem, *]
  · by_cases hm2 : xa = 2
    · subst hm2
      clear j0 j1 j2 k0 k1 k2 hne15 hne51
      obtain ⟨iK, hiK, hzK, hsK, hbK⟩ := kid_info
      go_upto_region 8 with fail
      have hs9 := HSB.out.setOut (k := 0) (u := .bool false) (leaf' := false) (vi' := .slice none 0 0) (vk' := .slice none 0 0) HG.out rfl
      have hw9 : g5 < (w103.setCell ⟨g5, 0, none⟩ (.bool false)).heap.size := blk_lt hs9.out
      generalize w103.setCell ⟨g5, 0, none⟩ (.bool false) = W9 at *
      clear o0 o1 o2 z0 z1 z2
      have HR0 := Lib.hid (show RndK b w N g1 g2 g3 g4 g5 B xb 0 W9 from ⟨qb, ob, none, 0, [], rfl, hs9, World.ownsRow_nil _ _ _ _, fun x hx => (List.not_mem_nil hx).elim, by
        have hra : ∀ (h : Nod.numO 1 b.l = some (2, qa.l)) (h2 : Nod.numO 1 qa.l = some (xb, qb.l)), readO b.l = ((Nod.kidsO (xb - 0) qb.l).bind fun r => if r.2 = [] then some ⟨false, [], ([] : List KiT).map KiT.s ++ r.1⟩ else none) := fun h h2 => by
          rw [read_inner h h2, Nat.sub_zero]
          rfl
        rcases hora with ⟨e1, h⟩ | ⟨e1, h, h0⟩
        · rcases horb with ⟨e2, h2⟩ | ⟨e2, h2, h3⟩
          · exact .inl ⟨e2.trans e1, hra h h2⟩
          · exact .inr ⟨e2, h3, read_no3 h h2⟩
        · omega⟩)
      clear hs9 hora horb
      go_wp2_with fail
      go_step3
      go_upto_block 0 with fail
      go_cut [] (fun wx => CutK b w N g1 g2 g3 g4 g5 B wx)
      case first =>
        go_wp2_with fail
        go_loopw [33] (fun y wr => ∃ k : Nat, k ≤ xb ∧ y = .int .i64 k ∧ Hid (RndK b w N g1 g2 g3 g4 g5 B xb k wr)) (fun y _ => xb - (intOf y).toNat)
        case atStart => exact ⟨0, Nat.zero_le _, rfl, HR0⟩
        case round =>
          clear HR0 hw9
          obtain ⟨k, hk, rfl, HR⟩ := hrel
          by_cases hlt : k < xb
          · obtain ⟨p, ok, A, c, Xs, hXl, hsr, hO, hXo, hor⟩ := HR.out
            obtain ⟨rfl, hre⟩ : ok = true ∧ readO b.l = ((Nod.kidsO (xb - k) p.l).bind fun r => if r.2 = [] then some ⟨false, [], Xs.map KiT.s ++ r.1⟩ else none) := by
              rcases hor with h | ⟨_, h, _⟩
              · exact h
              · omega
            have HRE := Lib.hid hre
            have HXO := Lib.hid hXo
            have HXL := Lib.hid hXl
            have hlt' : (k : Int) < (xb : Int) := by omega
            have hgt : g5 < wr.heap.size := blk_lt hsr.out
            obtain ⟨⟨o0, o1, o2⟩, z0, z1, z2⟩ := hsr.outs
            clear hor hre hXo hXl HR
            go_upto_region 18 with fail
            have hs0 := hsr.drew
            have hO0 := hO.drew
            have c40 := hs0.nums
            unfold numVa at c40
            clear o0 o1 o2 z0 z1 z2
            go_cut [13] (fun s wx => ∃ (g13 : Nat) (h1 : PcT) (x2 : Nat), s = .pointer (some ⟨g13, 0, none⟩) ∧ SK18 w N g1 g2 g3 g4 g5 B p A k c Xs g13 h1 x2 wx)
            case first =>
              refine wp_region_held_drew (S := fun W => W.cell? ⟨g4, 0, none⟩ = some (.func (.func 61) #[] #[.pointer (some ⟨g3, 0, none⟩)])) (by kernel_rfl) c40 (fun hHeld => ?_)
              refine rg_in 0 rfl (by kernel_rfl) (by kernel_rfl) (by kernel_rfl) (by rfl) (v := ?_) (fun _ _ _ h => h) hHeld (fun w hSw => ?_) ?_
              rotate_left
              · (try dsimp only at hSw); go_simp <;> (with_reducible rfl)
              (try simp only [Act.put, List.setIfInBounds_toArray, List.set_cons_zero, List.set_cons_succ])
              refine rg_in 2 rfl (by kernel_rfl) (by kernel_rfl) (by kernel_rfl) (by rfl) (v := ?_) (fun _ _ _ h => h) hHeld (fun w hSw => ?_) ?_
              rotate_left
              · (try dsimp only at hSw); go_simp <;> (with_reducible rfl)
              (try simp only [Act.put, List.setIfInBounds_toArray, List.set_cons_zero, List.set_cons_succ])
              refine wpAnyH_ready (rs := [1, 6]) (by kernel_rfl) (by simp) ?_
              refine rg_cons rfl (by rfl) (fun K hK => ?_) ?_
              · have hcx1 := hs0.text HG.out
                go_simp
                (go_at_call 62; (with_reducible refine hcx1.mono ?_); (rintro e w101 ⟨h1, p1, ok1, rfl, hk1, hk255, hr1, ht1, hor1⟩))
                have hs1 := hs0.tk HG.out ht1 hr1
                have hO1 := ht1.row (by have h := HG.out; obtain ⟨a, b, c, d, e, f⟩ := h; omega) (by have h := HG.out; obtain ⟨a, b, c, d, e, f⟩ := h; omega) hO0
                have HK1 := Lib.hid (hk1.back hs1.bel HG.out.f)
                clear hcx1
                refine hK.out _ _ (ht1.cell HG.out.ne.2.2.2.2.1 HG.out.ne.2.2.2.2.2 hHeld) (fun hHeld => ?_)
                clear hK K
                (try simp only [Act.put, List.setIfInBounds_toArray, List.set_cons_zero, List.set_cons_succ])
                refine wpAnyH_ready (rs := [3, 6]) (by kernel_rfl) (by simp) ?_
                refine rg_cons rfl (by rfl) (fun K hK => ?_) ?_
                · have hcx2 := hs1.num4 HG.out
                  go_simp
                  (go_at_call 61; (with_reducible refine hcx2.mono ?_); (rintro e w103 ⟨x2, p2, ok2, rfl, hx2, hr2, ht2, hor2⟩))
                  have hs2 := hs1.tk HG.out ht2 hr2
                  have hO2 := ht2.row (by have h := HG.out; obtain ⟨a, b, c, d, e, f⟩ := h; omega) (by have h := HG.out; obtain ⟨a, b, c, d, e, f⟩ := h; omega) hO1
                  have hw2 : IntKind.i64.wrap (x2 : Int) = (x2 : Int) := by have h9 : x2 < 4294967296 := hx2; rw [IntKind.wrap_i64]; omega
                  clear hcx2
                  refine hK.out _ _ (ht2.cell HG.out.ne.2.2.2.2.1 HG.out.ne.2.2.2.2.2 hHeld) (fun hHeld => ?_)
                  clear hK K
                  (try simp only [Act.put, List.setIfInBounds_toArray, List.set_cons_zero, List.set_cons_succ])
                  refine rg_in 4 rfl (by kernel_rfl) (by kernel_rfl) (by kernel_rfl) (by rfl) (v := ?_) (fun _ _ _ h => h) hHeld (fun w hSw => ?_) ?_
                  rotate_left
                  · (try dsimp only at hSw); go_simp <;> (with_reducible rfl)
                  (try simp only [Act.put, List.setIfInBounds_toArray, List.set_cons_zero, List.set_cons_succ])
                  refine rg_in 5 rfl (by kernel_rfl) (by kernel_rfl) (by kernel_rfl) (by rfl) (v := ?_) (fun _ _ _ h => h) hHeld (fun w hSw => ?_) ?_
                  rotate_left
                  · (try dsimp only at hSw); go_simp <;> (with_reducible rfl)
                  (try simp only [Act.put, List.setIfInBounds_toArray, List.set_cons_zero, List.set_cons_succ])
                  refine rg_do 6 rfl (by kernel_rfl) (by rfl) (fun K hK => ?_)
                  have hz106 : wr.heap.size ≤ w103.heap.size := (Nat.le_of_eq (ht1.trans ht2).size.symm)
                  refine step_alloc 60 rfl iK _ hiK hzK ?_
                  intro g106 w106 hge106 hbx6 hb106
                  have hs6 := hs2.later HG.out hb106
                  have hO6 := own_later hO2 hb106
                  refine hK.out _ _ (cell_on hHeld hb106) (fun hHeld => ?_)
                  clear hK K
                  (try simp only [Act.put, List.setIfInBounds_toArray, List.set_cons_zero, List.set_cons_succ])
                  refine rg_do 7 rfl (by kernel_rfl) (by rfl) (fun K hK => ?_)
                  have hG5 : g5 < g106 := by have h8 := blk_lt hs0.out; have h7 := hz106; have h9 := hge106; have h6 : wr.drew.heap.size = wr.heap.size := rfl; omega
                  have hB9 := box8 hbx6
                  obtain ⟨⟨q0, q1, q2, q3, q4, q5, q6, q7⟩, y0, y1, y2, y3, y4, y5, y6, y7⟩ := hB9
                  go_simp
                  clear q0 q1 q2 q3 q4 q5 q6 q7 y0 y1 y2 y3 y4 y5 y6 y7
                  refine hK.out _ _ ((tk8 _ _ _ _ _ _ _ _ _ _).cell (show g4 ≠ g106 by have h := HG.out; obtain ⟨a, b, c, d, e, f⟩ := h; omega) (show g4 ≠ g106 by have h := HG.out; obtain ⟨a, b, c, d, e, f⟩ := h; omega) hHeld) (fun hHeld => ?_)
                  clear hK K
                  (try simp only [Act.put, List.setIfInBounds_toArray, List.set_cons_zero, List.set_cons_succ])
                  refine wpAnyH_done (by kernel_rfl) ?_ _
                  have hFar := fun j (hj : (Value.slice A k c).ownBlock = some j) => (hO0.lt j hj).2
                  have hFar6 : ∀ j, (Value.slice A k c).ownBlock = some j → j ≠ g106 := fun j hj => by have h9 := hFar j hj; have h7 := hz106; have h8 := hge106; have h6 : wr.drew.heap.size = wr.heap.size := rfl; omega
                  have htk := tk8 w106 g106 (.slice h1.A h1.n h1.c) (.int .i64 (x2 : Int)) (.int .i64 0) (.int .i64 0) (.int .i64 0) (.int .u64 0) (.int .i64 0) (.int .i64 0)
                  have hbD := blk8 hbx6 (.slice h1.A h1.n h1.c) (.int .i64 (x2 : Int)) (.int .i64 0) (.int .i64 0) (.int .i64 0) (.int .u64 0) (.int .i64 0) (.int .i64 0)
                  have hsD := hs6.up HG.out htk hG5
                  have hOD := own_up htk hO6 hFar6
                  have HMeet := Lib.hid (show SK18 w N g1 g2 g3 g4 g5 B p A k c Xs g106 h1 x2 _ from ⟨p1, p2, ok1, ok2, hsD, hOD, hbD, hFar6, hG5, HK1.out, hx2, hor1, hor2⟩)
                  clear hHeld c40 htk hbD hsD hOD
                  go_wp2_with fail
                  go_meet
                  case rel => exact ⟨g106, h1, x2, rfl, HMeet.out⟩
                refine rg_cons rfl (by rfl) (fun K hK => ?_) ?_
                · have hz106 : wr.heap.size ≤ w101.heap.size := (Nat.le_of_eq ht1.size.symm)
                  refine step_alloc 60 rfl iK _ hiK hzK ?_
                  intro g106 w106 hge106 hbx6 hb106
                  have hs6 := hs1.later HG.out hb106
                  have hO6 := own_later hO1 hb106
                  refine hK.out _ _ (cell_on hHeld hb106) (fun hHeld => ?_)
                  clear hK K
                  (try simp only [Act.put, List.setIfInBounds_toArray, List.set_cons_zero, List.set_cons_succ])
                  refine rg_do 3 rfl (by kernel_rfl) (by rfl) (fun K hK => ?_)
                  have hcx2 := hs6.num4 HG.out
                  go_simp
                  (go_at_call 61; (with_reducible refine hcx2.mono ?_); (rintro e w103 ⟨x2, p2, ok2, rfl, hx2, hr2, ht2, hor2⟩))
                  have hs2 := hs6.tk HG.out ht2 hr2
                  have hO2 := ht2.row (by have h := HG.out; obtain ⟨a, b, c, d, e, f⟩ := h; omega) (by have h := HG.out; obtain ⟨a, b, c, d, e, f⟩ := h; omega) hO6
                  have hB2 := (ht2.block _ (by have h9 := hge106; have h8 := blk_lt hs0.out; have h := HG.out; obtain ⟨a, b, c, d, e, f⟩ := h; have h7 := hz106; omega) (by have h9 := hge106; have h8 := blk_lt hs0.out; have h := HG.out; obtain ⟨a, b, c, d, e, f⟩ := h; have h7 := hz106; omega)).trans hbx6
                  have hw2 : IntKind.i64.wrap (x2 : Int) = (x2 : Int) := by have h9 : x2 < 4294967296 := hx2; rw [IntKind.wrap_i64]; omega
                  clear hcx2
                  refine hK.out _ _ (ht2.cell HG.out.ne.2.2.2.2.1 HG.out.ne.2.2.2.2.2 hHeld) (fun hHeld => ?_)
                  clear hK K
                  (try simp only [Act.put, List.setIfInBounds_toArray, List.set_cons_zero, List.set_cons_succ])
                  refine rg_in 4 rfl (by kernel_rfl) (by kernel_rfl) (by kernel_rfl) (by rfl) (v := ?_) (fun _ _ _ h => h) hHeld (fun w hSw => ?_) ?_
                  rotate_left
                  · (try dsimp only at hSw); go_simp <;> (with_reducible rfl)
                  (try simp only [Act.put, List.setIfInBounds_toArray, List.set_cons_zero, List.set_cons_succ])
                  refine rg_in 5 rfl (by kernel_rfl) (by kernel_rfl) (by kernel_rfl) (by rfl) (v := ?_) (fun _ _ _ h => h) hHeld (fun w hSw => ?_) ?_
                  rotate_left
                  · (try dsimp only at hSw); go_simp <;> (with_reducible rfl)
                  (try simp only [Act.put, List.setIfInBounds_toArray, List.set_cons_zero, List.set_cons_succ])
                  refine rg_do 7 rfl (by kernel_rfl) (by rfl) (fun K hK => ?_)
                  have hG5 : g5 < g106 := by have h8 := blk_lt hs0.out; have h7 := hz106; have h9 := hge106; have h6 : wr.drew.heap.size = wr.heap.size := rfl; omega
                  have hB9 := box8 hB2
                  obtain ⟨⟨q0, q1, q2, q3, q4, q5, q6, q7⟩, y0, y1, y2, y3, y4, y5, y6, y7⟩ := hB9
                  go_simp
                  clear q0 q1 q2 q3 q4 q5 q6 q7 y0 y1 y2 y3 y4 y5 y6 y7
                  refine hK.out _ _ ((tk8 _ _ _ _ _ _ _ _ _ _).cell (show g4 ≠ g106 by have h := HG.out; obtain ⟨a, b, c, d, e, f⟩ := h; omega) (show g4 ≠ g106 by have h := HG.out; obtain ⟨a, b, c, d, e, f⟩ := h; omega) hHeld) (fun hHeld => ?_)
                  clear hK K
                  (try simp only [Act.put, List.setIfInBounds_toArray, List.set_cons_zero, List.set_cons_succ])
                  refine wpAnyH_done (by kernel_rfl) ?_ _
                  have hFar := fun j (hj : (Value.slice A k c).ownBlock = some j) => (hO0.lt j hj).2
                  have hFar6 : ∀ j, (Value.slice A k c).ownBlock = some j → j ≠ g106 := fun j hj => by have h9 := hFar j hj; have h7 := hz106; have h8 := hge106; have h6 : wr.drew.heap.size = wr.heap.size := rfl; omega
                  have htk := tk8 w103 g106 (.slice h1.A h1.n h1.c) (.int .i64 (x2 : Int)) (.int .i64 0) (.int .i64 0) (.int .i64 0) (.int .u64 0) (.int .i64 0) (.int .i64 0)
                  have hbD := blk8 hB2 (.slice h1.A h1.n h1.c) (.int .i64 (x2 : Int)) (.int .i64 0) (.int .i64 0) (.int .i64 0) (.int .u64 0) (.int .i64 0) (.int .i64 0)
                  have hsD := hs2.up HG.out htk hG5
                  have hOD := own_up htk hO2 hFar6
                  have HMeet := Lib.hid (show SK18 w N g1 g2 g3 g4 g5 B p A k c Xs g106 h1 x2 _ from ⟨p1, p2, ok1, ok2, hsD, hOD, hbD, hFar6, hG5, HK1.out, hx2, hor1, hor2⟩)
                  clear hHeld c40 htk hbD hsD hOD
                  go_wp2_with fail
                  go_meet
                  case rel => exact ⟨g106, h1, x2, rfl, HMeet.out⟩
                exact AllReadyH.nil
              refine rg_cons rfl (by rfl) (fun K hK => ?_) ?_
              · have hz106 : wr.heap.size ≤ wr.drew.heap.size := (Nat.le_refl wr.heap.size : wr.heap.size ≤ wr.drew.heap.size)
                refine step_alloc 60 rfl iK _ hiK hzK ?_
                intro g106 w106 hge106 hbx6 hb106
                have hs6 := hs0.later HG.out hb106
                have hO6 := own_later hO0 hb106
                refine hK.out _ _ (cell_on hHeld hb106) (fun hHeld => ?_)
                clear hK K
                (try simp only [Act.put, List.setIfInBounds_toArray, List.set_cons_zero, List.set_cons_succ])
                refine rg_do 1 rfl (by kernel_rfl) (by rfl) (fun K hK => ?_)
                have hcx1 := hs6.text HG.out
                go_simp
                (go_at_call 62; (with_reducible refine hcx1.mono ?_); (rintro e w101 ⟨h1, p1, ok1, rfl, hk1, hk255, hr1, ht1, hor1⟩))
                have hs1 := hs6.tk HG.out ht1 hr1
                have hO1 := ht1.row (by have h := HG.out; obtain ⟨a, b, c, d, e, f⟩ := h; omega) (by have h := HG.out; obtain ⟨a, b, c, d, e, f⟩ := h; omega) hO6
                have hB1 := (ht1.block _ (by have h9 := hge106; have h8 := blk_lt hs0.out; have h := HG.out; obtain ⟨a, b, c, d, e, f⟩ := h; have h7 := hz106; omega) (by have h9 := hge106; have h8 := blk_lt hs0.out; have h := HG.out; obtain ⟨a, b, c, d, e, f⟩ := h; have h7 := hz106; omega)).trans hbx6
                have HK1 := Lib.hid (hk1.back hs1.bel HG.out.f)
                clear hcx1
                refine hK.out _ _ (ht1.cell HG.out.ne.2.2.2.2.1 HG.out.ne.2.2.2.2.2 hHeld) (fun hHeld => ?_)
                clear hK K
                (try simp only [Act.put, List.setIfInBounds_toArray, List.set_cons_zero, List.set_cons_succ])
                refine rg_do 3 rfl (by kernel_rfl) (by rfl) (fun K hK => ?_)
                have hcx2 := hs1.num4 HG.out
                go_simp
                (go_at_call 61; (with_reducible refine hcx2.mono ?_); (rintro e w103 ⟨x2, p2, ok2, rfl, hx2, hr2, ht2, hor2⟩))
                have hs2 := hs1.tk HG.out ht2 hr2
                have hO2 := ht2.row (by have h := HG.out; obtain ⟨a, b, c, d, e, f⟩ := h; omega) (by have h := HG.out; obtain ⟨a, b, c, d, e, f⟩ := h; omega) hO1
                have hB2 := (ht2.block _ (by have h9 := hge106; have h8 := blk_lt hs0.out; have h := HG.out; obtain ⟨a, b, c, d, e, f⟩ := h; have h7 := hz106; omega) (by have h9 := hge106; have h8 := blk_lt hs0.out; have h := HG.out; obtain ⟨a, b, c, d, e, f⟩ := h; have h7 := hz106; omega)).trans hB1
                have hw2 : IntKind.i64.wrap (x2 : Int) = (x2 : Int) := by have h9 : x2 < 4294967296 := hx2; rw [IntKind.wrap_i64]; omega
                clear hcx2
                refine hK.out _ _ (ht2.cell HG.out.ne.2.2.2.2.1 HG.out.ne.2.2.2.2.2 hHeld) (fun hHeld => ?_)
                clear hK K
                (try simp only [Act.put, List.setIfInBounds_toArray, List.set_cons_zero, List.set_cons_succ])
                refine rg_in 4 rfl (by kernel_rfl) (by kernel_rfl) (by kernel_rfl) (by rfl) (v := ?_) (fun _ _ _ h => h) hHeld (fun w hSw => ?_) ?_
                rotate_left
                · (try dsimp only at hSw); go_simp <;> (with_reducible rfl)
                (try simp only [Act.put, List.setIfInBounds_toArray, List.set_cons_zero, List.set_cons_succ])
                refine rg_in 5 rfl (by kernel_rfl) (by kernel_rfl) (by kernel_rfl) (by rfl) (v := ?_) (fun _ _ _ h => h) hHeld (fun w hSw => ?_) ?_
                rotate_left
                · (try dsimp only at hSw); go_simp <;> (with_reducible rfl)
                (try simp only [Act.put, List.setIfInBounds_toArray, List.set_cons_zero, List.set_cons_succ])
                refine rg_do 7 rfl (by kernel_rfl) (by rfl) (fun K hK => ?_)
                have hG5 : g5 < g106 := by have h8 := blk_lt hs0.out; have h7 := hz106; have h9 := hge106; have h6 : wr.drew.heap.size = wr.heap.size := rfl; omega
                have hB9 := box8 hB2
                obtain ⟨⟨q0, q1, q2, q3, q4, q5, q6, q7⟩, y0, y1, y2, y3, y4, y5, y6, y7⟩ := hB9
                go_simp
                clear q0 q1 q2 q3 q4 q5 q6 q7 y0 y1 y2 y3 y4 y5 y6 y7
                refine hK.out _ _ ((tk8 _ _ _ _ _ _ _ _ _ _).cell (show g4 ≠ g106 by have h := HG.out; obtain ⟨a, b, c, d, e, f⟩ := h; omega) (show g4 ≠ g106 by have h := HG.out; obtain ⟨a, b, c, d, e, f⟩ := h; omega) hHeld) (fun hHeld => ?_)
                clear hK K
                (try simp only [Act.put, List.setIfInBounds_toArray, List.set_cons_zero, List.set_cons_succ])
                refine wpAnyH_done (by kernel_rfl) ?_ _
                have hFar := fun j (hj : (Value.slice A k c).ownBlock = some j) => (hO0.lt j hj).2
                have hFar6 : ∀ j, (Value.slice A k c).ownBlock = some j → j ≠ g106 := fun j hj => by have h9 := hFar j hj; have h7 := hz106; have h8 := hge106; have h6 : wr.drew.heap.size = wr.heap.size := rfl; omega
                have htk := tk8 w103 g106 (.slice h1.A h1.n h1.c) (.int .i64 (x2 : Int)) (.int .i64 0) (.int .i64 0) (.int .i64 0) (.int .u64 0) (.int .i64 0) (.int .i64 0)
                have hbD := blk8 hB2 (.slice h1.A h1.n h1.c) (.int .i64 (x2 : Int)) (.int .i64 0) (.int .i64 0) (.int .i64 0) (.int .u64 0) (.int .i64 0) (.int .i64 0)
                have hsD := hs2.up HG.out htk hG5
                have hOD := own_up htk hO2 hFar6
                have HMeet := Lib.hid (show SK18 w N g1 g2 g3 g4 g5 B p A k c Xs g106 h1 x2 _ from ⟨p1, p2, ok1, ok2, hsD, hOD, hbD, hFar6, hG5, HK1.out, hx2, hor1, hor2⟩)
                clear hHeld c40 htk hbD hsD hOD
                go_wp2_with fail
                go_meet
                case rel => exact ⟨g106, h1, x2, rfl, HMeet.out⟩
              exact AllReadyH.nil
            case rest =>
              obtain ⟨g13, h1, x2, rfl, p1, p2, ok1, ok2, hsE, hOE, hbE, hfar, hg13, hk1, hx2, hor1, hor2⟩ := hcut
              have H1 := Lib.hid hor1
              have H2 := Lib.hid hor2
              have HK1 := Lib.hid hk1
              have hne4 : g4 ≠ g13 := by have h := HG.out; obtain ⟨a, b, c, d, e, f⟩ := h; omega
              have hneg : g13 ≠ N ∧ g13 ≠ g2 := by have h := HG.out; obtain ⟨a, b, c, d, e, f⟩ := h; omega
              clear hor1 hor2 hk1 hs0 hO0 c40 hsr hO
              go_upto_region 19 with fail
              have hsD := hsE.drew
              have hOD := hOE.drew
              have hbD : wc.drew.heap[g13]? = some (.cells #[.slice h1.A h1.n h1.c, .int .i64 (x2 : Int), .int .i64 0, .int .i64 0, .int .i64 0, .int .u64 0, .int .i64 0, .int .i64 0] 60 (0, 0)) := hbE
              have c41 := hsD.nums
              unfold numVa at c41
              clear hsE hOE hbE
              refine wp_region_held_drew (S := fun W => W.cell? ⟨g4, 0, none⟩ = some (.func (.func 61) #[] #[.pointer (some ⟨g3, 0, none⟩)])) (by kernel_rfl) c41 (fun hHeld => ?_)
              refine rg_in 0 rfl (by kernel_rfl) (by kernel_rfl) (by kernel_rfl) (by rfl) (v := ?_) (fun _ _ _ h => h) hHeld (fun w hSw => ?_) ?_
              rotate_left
              · (try dsimp only at hSw); go_simp <;> (with_reducible rfl)
              (try simp only [Act.put, List.setIfInBounds_toArray, List.set_cons_zero, List.set_cons_succ])
              refine rg_in 3 rfl (by kernel_rfl) (by kernel_rfl) (by kernel_rfl) (by rfl) (v := ?_) (fun _ _ _ h => h) hHeld (fun w hSw => ?_) ?_
              rotate_left
              · (try dsimp only at hSw); go_simp <;> (with_reducible rfl)
              (try simp only [Act.put, List.setIfInBounds_toArray, List.set_cons_zero, List.set_cons_succ])
              refine rg_in 6 rfl (by kernel_rfl) (by kernel_rfl) (by kernel_rfl) (by rfl) (v := ?_) (fun _ _ _ h => h) hHeld (fun w hSw => ?_) ?_
              rotate_left
              · (try dsimp only at hSw); go_simp <;> (with_reducible rfl)
              (try simp only [Act.put, List.setIfInBounds_toArray, List.set_cons_zero, List.set_cons_succ])
              refine rg_in 9 rfl (by kernel_rfl) (by kernel_rfl) (by kernel_rfl) (by rfl) (v := ?_) (fun _ _ _ h => h) hHeld (fun w hSw => ?_) ?_
              rotate_left
              · (try dsimp only at hSw); go_simp <;> (with_reducible rfl)
              (try simp only [Act.put, List.setIfInBounds_toArray, List.set_cons_zero, List.set_cons_succ])
              refine rg_in 11 rfl (by kernel_rfl) (by kernel_rfl) (by kernel_rfl) (by rfl) (v := ?_) (fun _ _ _ h => h) hHeld (fun w hSw => ?_) ?_
              rotate_left
              · (try dsimp only at hSw); go_simp <;> (with_reducible rfl)
              (try simp only [Act.put, List.setIfInBounds_toArray, List.set_cons_zero, List.set_cons_succ])
              refine rg_in 14 rfl (by kernel_rfl) (by kernel_rfl) (by kernel_rfl) (by rfl) (v := ?_) (fun _ _ _ h => h) hHeld (fun w hSw => ?_) ?_
              rotate_left
              · (try dsimp only at hSw); go_simp <;> (with_reducible rfl)
              (try simp only [Act.put, List.setIfInBounds_toArray, List.set_cons_zero, List.set_cons_succ])
              refine rg_do 1 rfl (by kernel_rfl) (by rfl) (fun K hK => ?_)
              have hcx3 := hsD.num4 HG.out
              go_simp
              (go_at_call 61; (with_reducible refine hcx3.mono ?_); (rintro e w101 ⟨x3, p3, ok3, rfl, hx3, hr3, ht3, hor3⟩))
              have hs3 := hsD.tk HG.out ht3 hr3
              have hO3 := ht3.row (by have h := HG.out; obtain ⟨a, b, c, d, e, f⟩ := h; omega) (by have h := HG.out; obtain ⟨a, b, c, d, e, f⟩ := h; omega) hOD
              have hB3 := (ht3.block _ hneg.1 hneg.2).trans hbD
              clear hcx3
              have hw3 : IntKind.i64.wrap (x3 : Int) = (x3 : Int) := by have h9 : x3 < 4294967296 := hx3; rw [IntKind.wrap_i64]; omega
              refine hK.out _ _ (ht3.cell HG.out.ne.2.2.2.2.1 HG.out.ne.2.2.2.2.2 hHeld) (fun hHeld => ?_)
              clear hK K
              (try simp only [Act.put, List.setIfInBounds_toArray, List.set_cons_zero, List.set_cons_succ])
              refine rg_in 2 rfl (by kernel_rfl) (by kernel_rfl) (by kernel_rfl) (by rfl) (v := ?_) (fun _ _ _ h => h) hHeld (fun w hSw => ?_) ?_
              rotate_left
              · (try dsimp only at hSw); go_simp <;> (with_reducible rfl)
              (try simp only [Act.put, List.setIfInBounds_toArray, List.set_cons_zero, List.set_cons_succ])
              refine rg_do 4 rfl (by kernel_rfl) (by rfl) (fun K hK => ?_)
              have hcx4 := hs3.num4 HG.out
              go_simp
              (go_at_call 61; (with_reducible refine hcx4.mono ?_); (rintro e w104 ⟨x4, p4, ok4, rfl, hx4, hr4, ht4, hor4⟩))
              have hs4 := hs3.tk HG.out ht4 hr4
              have hO4 := ht4.row (by have h := HG.out; obtain ⟨a, b, c, d, e, f⟩ := h; omega) (by have h := HG.out; obtain ⟨a, b, c, d, e, f⟩ := h; omega) hO3
              have hB4 := (ht4.block _ hneg.1 hneg.2).trans hB3
              clear hcx4
              have hw4 : IntKind.i64.wrap (x4 : Int) = (x4 : Int) := by have h9 : x4 < 4294967296 := hx4; rw [IntKind.wrap_i64]; omega
              refine hK.out _ _ (ht4.cell HG.out.ne.2.2.2.2.1 HG.out.ne.2.2.2.2.2 hHeld) (fun hHeld => ?_)
              clear hK K
              (try simp only [Act.put, List.setIfInBounds_toArray, List.set_cons_zero, List.set_cons_succ])
              refine rg_in 5 rfl (by kernel_rfl) (by kernel_rfl) (by kernel_rfl) (by rfl) (v := ?_) (fun _ _ _ h => h) hHeld (fun w hSw => ?_) ?_
              rotate_left
              · (try dsimp only at hSw); go_simp <;> (with_reducible rfl)
              (try simp only [Act.put, List.setIfInBounds_toArray, List.set_cons_zero, List.set_cons_succ])
              refine rg_do 7 rfl (by kernel_rfl) (by rfl) (fun K hK => ?_)
              have hcx5 := hs4.num8 HG.out
              go_simp
              (go_at_call 61; (with_reducible refine hcx5.mono ?_); (rintro e w107 ⟨x5, p5, ok5, rfl, hx5, hr5, ht5, hor5⟩))
              have hs5 := hs4.tk HG.out ht5 hr5
              have hO5 := ht5.row (by have h := HG.out; obtain ⟨a, b, c, d, e, f⟩ := h; omega) (by have h := HG.out; obtain ⟨a, b, c, d, e, f⟩ := h; omega) hO4
              have hB5 := (ht5.block _ hneg.1 hneg.2).trans hB4
              clear hcx5
              obtain ⟨i5, hi5⟩ : ∃ z, Nod.i64n x5 = z := ⟨_, rfl⟩
              have hw5 : IntKind.i64.wrap (x5 : Int) = i5 := by rw [i64n_wrap x5 hx5, hi5]
              refine hK.out _ _ (ht5.cell HG.out.ne.2.2.2.2.1 HG.out.ne.2.2.2.2.2 hHeld) (fun hHeld => ?_)
              clear hK K
              (try simp only [Act.put, List.setIfInBounds_toArray, List.set_cons_zero, List.set_cons_succ])
              refine rg_in 8 rfl (by kernel_rfl) (by kernel_rfl) (by kernel_rfl) (by rfl) (v := ?_) (fun _ _ _ h => h) hHeld (fun w hSw => ?_) ?_
              rotate_left
              · (try dsimp only at hSw); go_simp <;> (with_reducible rfl)
              (try simp only [Act.put, List.setIfInBounds_toArray, List.set_cons_zero, List.set_cons_succ])
              refine rg_do 10 rfl (by kernel_rfl) (by rfl) (fun K hK => ?_)
              have hcx6 := hs5.num8 HG.out
              go_simp
              (go_at_call 61; (with_reducible refine hcx6.mono ?_); (rintro e w110 ⟨x6, p6, ok6, rfl, hx6, hr6, ht6, hor6⟩))
              have hs6 := hs5.tk HG.out ht6 hr6
              have hO6 := ht6.row (by have h := HG.out; obtain ⟨a, b, c, d, e, f⟩ := h; omega) (by have h := HG.out; obtain ⟨a, b, c, d, e, f⟩ := h; omega) hO5
              have hB6 := (ht6.block _ hneg.1 hneg.2).trans hB5
              clear hcx6
              refine hK.out _ _ (ht6.cell HG.out.ne.2.2.2.2.1 HG.out.ne.2.2.2.2.2 hHeld) (fun hHeld => ?_)
              clear hK K
              (try simp only [Act.put, List.setIfInBounds_toArray, List.set_cons_zero, List.set_cons_succ])
              refine rg_do 12 rfl (by kernel_rfl) (by rfl) (fun K hK => ?_)
              have hcx7 := hs6.num8 HG.out
              go_simp
              (go_at_call 61; (with_reducible refine hcx7.mono ?_); (rintro e w112 ⟨x7, p7, ok7, rfl, hx7, hr7, ht7, hor7⟩))
              have hs7 := hs6.tk HG.out ht7 hr7
              have hO7 := ht7.row (by have h := HG.out; obtain ⟨a, b, c, d, e, f⟩ := h; omega) (by have h := HG.out; obtain ⟨a, b, c, d, e, f⟩ := h; omega) hO6
              have hB7 := (ht7.block _ hneg.1 hneg.2).trans hB6
              clear hcx7
              obtain ⟨i7, hi7⟩ : ∃ z, Nod.i64n x7 = z := ⟨_, rfl⟩
              have hw7 : IntKind.i64.wrap (x7 : Int) = i7 := by rw [i64n_wrap x7 hx7, hi7]
              refine hK.out _ _ (ht7.cell HG.out.ne.2.2.2.2.1 HG.out.ne.2.2.2.2.2 hHeld) (fun hHeld => ?_)
              clear hK K
              (try simp only [Act.put, List.setIfInBounds_toArray, List.set_cons_zero, List.set_cons_succ])
              refine rg_in 13 rfl (by kernel_rfl) (by kernel_rfl) (by kernel_rfl) (by rfl) (v := ?_) (fun _ _ _ h => h) hHeld (fun w hSw => ?_) ?_
              rotate_left
              · (try dsimp only at hSw); go_simp <;> (with_reducible rfl)
              (try simp only [Act.put, List.setIfInBounds_toArray, List.set_cons_zero, List.set_cons_succ])
              refine rg_do 15 rfl (by kernel_rfl) (by rfl) (fun K hK => ?_)
              have hcx8 := hs7.num8 HG.out
              go_simp
              (go_at_call 61; (with_reducible refine hcx8.mono ?_); (rintro e w115 ⟨x8, p8, ok8, rfl, hx8, hr8, ht8, hor8⟩))
              have hs8 := hs7.tk HG.out ht8 hr8
              have hO8 := ht8.row (by have h := HG.out; obtain ⟨a, b, c, d, e, f⟩ := h; omega) (by have h := HG.out; obtain ⟨a, b, c, d, e, f⟩ := h; omega) hO7
              have hB8 := (ht8.block _ hneg.1 hneg.2).trans hB7
              clear hcx8
              obtain ⟨i8, hi8⟩ : ∃ z, Nod.i64n x8 = z := ⟨_, rfl⟩
              have hw8 : IntKind.i64.wrap (x8 : Int) = i8 := by rw [i64n_wrap x8 hx8, hi8]
              refine hK.out _ _ (ht8.cell HG.out.ne.2.2.2.2.1 HG.out.ne.2.2.2.2.2 hHeld) (fun hHeld => ?_)
              clear hK K
              (try simp only [Act.put, List.setIfInBounds_toArray, List.set_cons_zero, List.set_cons_succ])
              refine rg_in 16 rfl (by kernel_rfl) (by kernel_rfl) (by kernel_rfl) (by rfl) (v := ?_) (fun _ _ _ h => h) hHeld (fun w hSw => ?_) ?_
              rotate_left
              · (try dsimp only at hSw); go_simp <;> (with_reducible rfl)
              (try simp only [Act.put, List.setIfInBounds_toArray, List.set_cons_zero, List.set_cons_succ])
              refine rg_in 17 rfl (by kernel_rfl) (by kernel_rfl) (by kernel_rfl) (by rfl) (v := ?_) (fun _ _ _ h => h) hHeld (fun w hSw => ?_) ?_
              rotate_left
              · (try dsimp only at hSw); go_simp <;> (with_reducible rfl)
              (try simp only [Act.put, List.setIfInBounds_toArray, List.set_cons_zero, List.set_cons_succ])
              refine rg_in 18 rfl (by kernel_rfl) (by kernel_rfl) (by kernel_rfl) (by rfl) (v := ?_) (fun _ _ _ h => h) hHeld (fun w hSw => ?_) ?_
              rotate_left
              · (try dsimp only at hSw); go_simp <;> (with_reducible rfl)
              (try simp only [Act.put, List.setIfInBounds_toArray, List.set_cons_zero, List.set_cons_succ])
              refine rg_do 19 rfl (by kernel_rfl) (by rfl) (fun K hK => ?_)
              obtain ⟨⟨q0, q1, q2, q3, q4, q5, q6, q7⟩, y0, y1, y2, y3, y4, y5, y6, y7⟩ := box8 hB8
              go_simp
              clear q0 q1 q2 q3 q4 q5 q6 q7 y0 y1 y2 y3 y4 y5 y6 y7
              refine hK.out _ _ ((tk6 _ _ _ _ _ _ _ _).cell hne4 hne4 hHeld) (fun hHeld => ?_)
              clear hK K
              (try simp only [Act.put, List.setIfInBounds_toArray, List.set_cons_zero, List.set_cons_succ])
              refine wpAnyH_done (by kernel_rfl) ?_ _
              have htk := tk6 w115 g13 (.int .i64 (x3 : Int)) (.int .i64 (x4 : Int)) (.int .i64 i5) (.int .u64 (x6 : Int)) (.int .i64 i7) (.int .i64 i8)
              have hbF := blk6 hB8 (.int .i64 (x3 : Int)) (.int .i64 (x4 : Int)) (.int .i64 i5) (.int .u64 (x6 : Int)) (.int .i64 i7) (.int .i64 i8)
              have hsF := hs8.up HG.out htk hg13
              have hOF := own_up htk hO8 hfar
              clear hHeld c41 htk hB8 hO8 hB7 hO7 hB6 hO6 hB5 hO5 hB4 hO4 hB3 hO3 hbD hOD hsD hs3 hs4 hs5 hs6 hs7 hs8 ht3 ht4 ht5 ht6 ht7 ht8 hr3 hr4 hr5 hr6 hr7 hr8
              generalize (((((w115.setCell ⟨g13, 2, none⟩ (.int .i64 (x3 : Int))).setCell ⟨g13, 3, none⟩ (.int .i64 (x4 : Int))).setCell ⟨g13, 4, none⟩ (.int .i64 i5)).setCell ⟨g13, 5, none⟩ (.int .u64 (x6 : Int))).setCell ⟨g13, 6, none⟩ (.int .i64 i7)).setCell ⟨g13, 7, none⟩ (.int .i64 i8) = W7 at *
              have hx3' : x3 < 4294967296 := hx3
              have hx4' : x4 < 4294967296 := hx4
              have hx6' : x6 < 18446744073709551616 := hx6
              have hr5 := Nod.i64n_r x5 hx5
              have hr7 := Nod.i64n_r x7 hx7
              have hr8 := Nod.i64n_r x8 hx8
              rw [hi5] at hr5
              rw [hi7] at hr7
              rw [hi8] at hr8
              obtain ⟨v1, v2, v3⟩ := hl_mk i5 (x6 : Int) hr5 ⟨by omega, by omega⟩
              have hx2' : x2 < 4294967296 := hx2
              obtain ⟨KX, hKX⟩ : ∃ KX : KiT, (⟨h1, (x2 : Int), ⟨(x3 : Int), (x4 : Int), i5 * 18446744073709551616 + (x6 : Int), i7, i8⟩⟩ : KiT) = KX := ⟨_, rfl⟩
              have hcel : (#[.slice h1.A h1.n h1.c, .int .i64 (x2 : Int), .int .i64 (x3 : Int), .int .i64 (x4 : Int), .int .i64 i5, .int .u64 (x6 : Int), .int .i64 i7, .int .i64 i8] : Array Value).toList = [KX].flatMap KiT.cells := by
                rw [← hKX]
                simp only [List.flatMap_cons, List.flatMap_nil, List.append_nil, KiT.cells]
                rw [v2, v3]
              have hKok : KX.Ok w B := by
                rw [← hKX]
                exact ⟨HK1.out, by unfold R64; simp only; omega, by unfold R64; simp only; omega, by unfold R64; simp only; omega, v1, hr7, hr8⟩
              have hKs : KX.s = ⟨h1.l, (x2 : Int), ⟨(x3 : Int), (x4 : Int), i5 * 18446744073709551616 + (x6 : Int), i7, i8⟩⟩ := by rw [← hKX]; rfl
              have HSt := Lib.hid (ki_step H1.out H2.out hor3 hor4 hor5 hor6 hor7 hor8)
              rw [hi5, hi7, hi8, ← hKs] at HSt
              have hXo8 := Lib.hid (show ∀ x ∈ Xs ++ [KX], x.Ok w B from fun x hx => by
                rcases List.mem_append.1 hx with h | h
                · exact HXO.out x h
                · obtain rfl := List.mem_singleton.1 h
                  exact hKok)
              have HTail := Lib.hid (show ∀ W8 A2 c2, DecS w W8 N g1 g2 g3 g4 g5 B p8 ok8 false (.slice none 0 0) (.slice A2 (k + 1) c2) → W8.ownsRow (g5 + 1) 60 8 (.slice A2 (k + 1) c2) (k + 1) ((Xs ++ [KX]).flatMap KiT.cells) → (ok8 = true → RndK b w N g1 g2 g3 g4 g5 B xb (k + 1) W8) ∧ (ok8 = false → CutK b w N g1 g2 g3 g4 g5 B W8) from fun W8 A2 c2 hd ho => by
                have hl8 : (Xs ++ [KX]).length = k + 1 := by rw [List.length_append, HXL.out]; rfl
                rcases HSt.out with ⟨hz1, hit⟩ | ⟨hz1, hit⟩
                · refine ⟨fun _ => ⟨p8, ok8, A2, c2, Xs ++ [KX], hl8, hd, ho, hXo8.out, .inl ⟨hz1, ?_⟩⟩, fun h => by rw [h] at hz1; cases hz1⟩
                  rw [HRE.out, show xb - k = (xb - (k + 1)) + 1 by omega, kids_yes hit]
                  cases Nod.kidsO (xb - (k + 1)) p8.l with
                  | none => rfl
                  | some r => simp
                · refine ⟨fun h => by (rw [h] at hz1; cases hz1), fun _ => ?_⟩
                  rw [← hl8] at hd ho
                  refine ⟨p8, ok8, A2, c2, Xs ++ [KX], hd, ho, hXo8.out, .inr ⟨hz1, ?_⟩⟩
                  rw [HRE.out, show xb - k = (xb - (k + 1)) + 1 by omega, kids_no hit]
                  rfl)
              clear hKok hKs HSt hXo8 hor3 hor4 hor5 hor6 hor7 hor8 hi5 hi7 hi8 hr5 hr7 hr8 v1 v2 v3 hKX hw3 hw4 hw5 hw7 hw8 hx2' hx3' hx4' hx6' hx3 hx4 hx5 hx6 hx7 hx8
              go_upto_region 20 with fail
              obtain ⟨⟨o0, o1, o2⟩, z0, z1, z2⟩ := hsF.outs
              obtain ⟨⟨q0, q1, q2, q3, q4, q5, q6, q7⟩, -⟩ := box8 hbF
              have hba := bel_alloc (Below.refl W7.heap.size W7) (.cells #[.slice h1.A h1.n h1.c, .int .i64 (x2 : Int), .int .i64 (x3 : Int), .int .i64 (x4 : Int), .int .i64 i5, .int .u64 (x6 : Int), .int .i64 i7, .int .i64 i8] 60)
              have hn6 := own_later hOF hba
              have hsA := hsF.later HG.out hba
              have hs6n := rows_new W7 #[.slice h1.A h1.n h1.c, .int .i64 (x2 : Int), .int .i64 (x3 : Int), .int .i64 (x4 : Int), .int .i64 i5, .int .u64 (x6 : Int), .int .i64 i7, .int .i64 i8] 60 8 ([KX].flatMap KiT.cells) hcel rfl
              have hz6 : g5 + 1 ≤ (W7.alloc (.cells #[.slice h1.A h1.n h1.c, .int .i64 (x2 : Int), .int .i64 (x3 : Int), .int .i64 (x4 : Int), .int .i64 i5, .int .u64 (x6 : Int), .int .i64 i7, .int .i64 i8] 60)).heap.size := blk_lt hsA.out
              have hx7 : k + 1 ≤ maxLen := by unfold maxLen; omega
              have hbt : (k + 1) * 80 ≤ 140737488355328 := by omega
              have hlt9 := fun j (hj : (Value.slice A k c).ownBlock = some j) => (hn6.lt j hj).1
              clear hcel hbF hOF
              go_upto_region 21 with (at_builtin; refine wpList_append_shows _ rfl _ _ 23 rfl (g5 + 1) 60 iK (.agg #[.slice none 0 0, .int .i64 0, .int .i64 0, .int .i64 0, .int .i64 0, .int .u64 0, .int .i64 0, .int .i64 0]) 8 80 Try.underlying23 hiK hzK hsK hbK rfl (by decide) _ _ _ rfl hn6 _ _ 1 1 ([KX].flatMap KiT.cells) rfl hs6n (ki_one _) hx7 hbt hz6 ?_; intro A7 c7 w7 hown7 hgr7 hb7; have hsB := hsA.grown HG.out hgr7 (fun j hj => hlt9 j hj); obtain ⟨⟨m0, m1, m2⟩, y0, y1, y2⟩ := hsB.outs)
              have hs9 := hsB.setOut (k := 2) (u := .slice A7 (k + 1) c7) (leaf' := false) (vi' := .slice none 0 0) (vk' := .slice A7 (k + 1) c7) HG.out rfl
              have ho9 := ownsRow_setCell_below hown7 (a := ⟨g5, 2, none⟩) (Nat.lt_succ_self g5) (.slice A7 (k + 1) c7)
              rw [← List.flatMap_append] at ho9
              have ht9 := Lib.hid (HTail.out _ A7 c7 hs9 ho9)
              clear o0 o1 o2 z0 z1 z2 q0 q1 q2 q3 q4 q5 q6 q7 m0 m1 m2 y0 y1 y2 hba hn6 hsA hs6n hz6 hown7 hgr7 hb7 hsB ho9
              generalize w7.setCell ⟨g5, 2, none⟩ (.slice A7 (k + 1) c7) = W9x at *
              obtain ⟨-, e9, -, -⟩ := hs9.rs.cells
              clear hx7 hbt hwb
              cases ok8
              · go_wp2_with fail
                go_meet
                case rel => exact ht9.out.2 (by first | rfl | trivial)
              · go_wp2_with fail
                go_roundw
                case rel => exact ⟨_, _, _, _, ⟨k + 1, by omega, by go_num, Lib.hid (ht9.out.1 (by first | rfl | trivial))⟩, rfl, rfl, rfl, rfl⟩
                case measure => simp [intOf]; omega
          · obtain ⟨p, ok, A, c, Xs, rfl, hsr, hO, hXo, hor⟩ := HR.out
            have HX := Lib.hid (show CutK b w N g1 g2 g3 g4 g5 B wr from ⟨p, ok, A, c, Xs, hsr, hO, hXo, by
              rcases hor with ⟨h, h2⟩ | ⟨h, _, h2⟩
              · refine .inl ⟨h, ?_⟩
                rw [h2, show xb - Xs.length = 0 by omega, Nod.kidsO]
                simp
              · exact .inr ⟨h, h2⟩⟩)
            clear hsr hO hXo hor HR
            go_wp2_with fail
            go_meet
            case rel => exact HX.out
      case rest =>
        rename World => wc
        obtain ⟨p, ok, A, c, Xs, hsr, hO, hXo, hor⟩ := hcut
        clear HR0 hw9
        have HO := Lib.hid hO
        have HXo := Lib.hid hXo
        have HOR := Lib.hid hor
        have HS := Lib.hid hsr
        obtain ⟨⟨o0, o1, o2⟩, -⟩ := hsr.outs
        obtain ⟨⟨j0, j1, j2⟩, k0, k1, k2⟩ := hsr.ress
        obtain ⟨e0, e1, -, -⟩ := hsr.rs.cells
        have hpl := hsr.rs.p.len
        have HPL := Lib.hid hpl
        have hnN : ¬ N = g1 := by have h := HG.out; obtain ⟨a, b, c, d, e, f⟩ := h; omega
        have hnN' : ¬ g1 = N := fun e => hnN e.symm
        clear hO hXo hor hsr hpl
        cases ok
        · have HRN := Lib.hid (show readO b.l = none by
            rcases HOR.out with ⟨h, _⟩ | ⟨_, h⟩
            · cases h
            · exact h)
          have hbz := (((HS.out.bel.setCell (p := ⟨g1, 0, none⟩) (by show N ≤ g1; have h := HG.out; obtain ⟨a, b, c, d, e, f⟩ := h; omega) (.bool false)).setCell (p := ⟨g1, 1, none⟩) (by show N ≤ g1; have h := HG.out; obtain ⟨a, b, c, d, e, f⟩ := h; omega) (.slice none 0 0)).setCell (p := ⟨g1, 2, none⟩) (by show N ≤ g1; have h := HG.out; obtain ⟨a, b, c, d, e, f⟩ := h; omega) (.slice A Xs.length c))
          go_upto_region 23 with fail
          go_region
          go_wp2
          (first | rw [Exit.noGoto_ret] | skip)
          refine bodyPost_ret (v := .tuple #[.agg #[.bool false, (.slice none 0 0), (.slice A Xs.length c)], .bool false]) ?_ rfl ⟨by rw [HNN.out]; exact below_drewN hbz 1, .inl ⟨HRN.out, false, _, _, _, _, _, _, rfl⟩⟩
          simp [results, Try.results45, go_sem, *]
        · have hbz := (((HS.out.bel.setCell (p := ⟨g1, 0, none⟩) (by show N ≤ g1; have h := HG.out; obtain ⟨a, b, c, d, e, f⟩ := h; omega) (.bool false)).setCell (p := ⟨g1, 1, none⟩) (by show N ≤ g1; have h := HG.out; obtain ⟨a, b, c, d, e, f⟩ := h; omega) (.slice none 0 0)).setCell (p := ⟨g1, 2, none⟩) (by show N ≤ g1; have h := HG.out; obtain ⟨a, b, c, d, e, f⟩ := h; omega) (.slice A Xs.length c))
          have hgl : g1 < g5 + 1 := by have h := HG.out; obtain ⟨a, b, c, d, e, f⟩ := h; omega
          have hoz := (ownsRow_setCell_below (ownsRow_setCell_below (ownsRow_setCell_below HO.out (a := ⟨g1, 0, none⟩) hgl (.bool false)) (a := ⟨g1, 1, none⟩) hgl (.slice none 0 0)) (a := ⟨g1, 2, none⟩) hgl (.slice A Xs.length c)).drew
          have HOZ := Lib.hid hoz
          clear hoz
          by_cases hp : p.n = 0
          · have hp' : (p.n : Int) = 0 := by omega
            have HRN := Lib.hid (show readO b.l = some ⟨false, [], Xs.map KiT.s⟩ by
              rcases HOR.out with ⟨_, h⟩ | ⟨h, _⟩
              · rw [h, if_pos (List.eq_nil_of_length_eq_zero (by rw [HPL.out]; exact hp))]
              · cases h)
            have hp2 : (p.n : Int) == 0 := by simp; omega
            go_upto_region 23 with fail
            go_region
            go_wp2
            (first | rw [Exit.noGoto_ret] | skip)
            refine bodyPost_ret (v := .tuple #[.agg #[.bool false, (.slice none 0 0), (.slice A Xs.length c)], .bool true]) ?_ rfl ⟨by rw [HNN.out]; exact below_drewN hbz 1, .inr ⟨⟨false, none, 0, 0, [], A, Xs.length, c, Xs⟩, rfl, HRN.out, inner_done HOZ.out HXo.out (by rw [HNN.out]; have h := HG.out; obtain ⟨a, b, c, d, e, f⟩ := h; omega)⟩⟩
            simp [results, Try.results45, go_sem, *]
          · have hp' : ¬ (p.n : Int) = 0 := by omega
            have hp3 : ((p.n : Int) == 0) = false := by simp; omega
            have HRN := Lib.hid (show readO b.l = none by
              rcases HOR.out with ⟨_, h⟩ | ⟨h, _⟩
              · rw [h, if_neg (fun e => hp (by rw [← HPL.out, e]; rfl))]
              · cases h)
            clear hp
            go_upto_region 23 with fail
            go_region
            go_wp2
            (first | rw [Exit.noGoto_ret] | skip)
            refine bodyPost_ret (v := .tuple #[.agg #[.bool false, (.slice none 0 0), (.slice A Xs.length c)], .bool false]) ?_ rfl ⟨by rw [HNN.out]; exact below_drewN hbz 1, .inl ⟨HRN.out, false, _, _, _, _, _, _, rfl⟩⟩
            simp [results, Try.results45, go_sem, *]
    · have hm1' : ((xa : Int) = 1) = False := by simp; omega
      have hm2' : ((xa : Int) = 2) = False := by simp; omega
      have HR := Lib.hid (show readO b.l = none by
        rcases hora with ⟨_, h⟩ | ⟨_, h, _⟩
        · exact read_no2 h hm1 hm2
        · exact read_no1 h)
      have hs8 := HSB.out.setOut (k := 0) (u := .bool ((xa : Int) == 1)) (leaf' := ((xa : Int) == 1)) (vi' := .slice none 0 0) (vk' := .slice none 0 0) HG.out rfl
      clear hora horb o1 o2 z1 z2 j0 j1 j2 k0 k1 k2
      go_upto_region 8 with fail
      generalize w103.setCell ⟨g5, 0, none⟩ (.bool ((xa : Int) == 1)) = W8x at *
      clear o0 z0
      go_cut [30] (fun s wx => s = .bool true ∧ W8x = wx)
      case first =>
        go_wp2_with fail
        go_meet
        case rel => exact ⟨by simp; omega, rfl⟩
      case rest =>
        obtain ⟨rfl, rfl⟩ := hcut
        obtain ⟨⟨j0, j1, j2⟩, k0, k1, k2⟩ := hs8.ress
        have hbz := ((hs8.bel.setCell (p := ⟨g1, 0, none⟩) (by show N ≤ g1; have h := HG.out; obtain ⟨a, b, c, d, e, f⟩ := h; omega) (.bool false)).setCell (p := ⟨g1, 1, none⟩) (by show N ≤ g1; have h := HG.out; obtain ⟨a, b, c, d, e, f⟩ := h; omega) (.slice none 0 0)).setCell (p := ⟨g1, 2, none⟩) (by show N ≤ g1; have h := HG.out; obtain ⟨a, b, c, d, e, f⟩ := h; omega) (.slice none 0 0)
        clear hs8 hm1 hm2 hm1' hm2'
        go_wp2
        (first | rw [Exit.noGoto_ret] | skip)
        refine bodyPost_ret (v := .tuple #[.agg #[.bool false, .slice none 0 0, .slice none 0 0], .bool false]) ?_ rfl ⟨by rw [HNN.out]; exact hbz, .inl ⟨HR.out, false, none, 0, 0, none, 0, 0, rfl⟩⟩
        simp [results, Try.results45, go_sem, *]
end Go.Proofs.Ytnfohlabmidliaa
