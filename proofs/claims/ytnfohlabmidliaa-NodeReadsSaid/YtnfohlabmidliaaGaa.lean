import Derived.WalkKit
import Derived.WalkSpells
import Derived.WalkLawsBesides
import Derived.Laws.CopyOwn
import Derived.Maps.AppendAt
import Derived.Deep.AppendLies
import Derived.Deep.Draws
import Derived.Test.YtnfohlabmidliaaChecked
import Derived.Deep.RegionHeld3
import Derived.Deep.QuietTactic
import Derived.BigQuiet
import Derived.Lib.Hide
import Derived.Laws.Externs
import Derived.Outline
import Derived.BigRegion
import Derived.Deep.DrawnRows
import Derived.Lib.Mul64
import Derived.Shelf.Bits.Mul64
import Derived.Deep.DeepCutAuto
/-
  Words for memory used by all contracts of this seat: what a slice shows, kept over draws, new blocks, stores elsewhere; byte slices; small facts on worlds. No program in sight.
-/
namespace Go.Proofs.Ytnfohlabmidliaa
open Go.RowKit

theorem addr_add (b off j : Nat) : (⟨b, off, none⟩ : Addr).add j = ⟨b, off + j, none⟩ := by
  unfold Addr.add; split <;> simp_all

theorem cell_set {w : World} {p : Addr} {v : Value} (h : w.cell? p = some v) (u : Value) : (w.setCell p u).cell? p = some u := World.cell?_setCell_same w p u h
theorem frozen_set (w : World) (p q : Addr) (u : Value) : (w.setCell p u).frozen? q = w.frozen? q := by simp
theorem size_set (w : World) (p : Addr) (u : Value) : (w.setCell p u).heap.size = w.heap.size := by simp [World.setCell]

theorem cell_keep {w : World} {a : Addr} {v : Value} (h : w.cell? a = some v) (o : Obj) : (w.alloc o).cell? a = some v := by
  rw [World.cell?_alloc_lt _ _ _ (World.block_lt_of_cell? w _ h)]
  exact h
theorem frozen_keep {w : World} {a : Addr} {v : Value} (h : w.cell? a = some v) (o : Obj) : (w.alloc o).frozen? a = w.frozen? a :=
  World.frozen?_alloc_old w o a (Nat.ne_of_lt (World.block_lt_of_cell? w _ h))
theorem below_undrew {B : Nat} {w w' : World} (h : Below B w.drew w') : Below B w w' := ⟨h.os, h.tape, h.output, h.size, h.block⟩
theorem below_drewN {B : Nat} {w w' : World} (h : Below B w w') (k : Nat) : Below B w (w'.drewN k) := ⟨h.os, h.tape, h.output, h.size, h.block⟩
theorem below_undrewN {B k : Nat} {w w' : World} (h : Below B (w.drewN k) w') : Below B w w' := ⟨h.os, h.tape, h.output, h.size, h.block⟩

/-- The slice value with address A and n elements of 'size' cells each shows the cells xs, in a block below B. -/
def Shows (w : World) (B size : Nat) (A : Option Addr) (n : Nat) (xs : List Value) : Prop :=
  xs.length = n * size ∧ (0 < n → ∃ b off, A = some ⟨b, off, none⟩ ∧ b < B ∧ ∀ j u, xs[j]? = some u → w.cell? ⟨b, off + j, none⟩ = some u)

section
variable {w w' : World} {B B' size n : Nat} {A : Option Addr} {xs : List Value}
theorem Shows.zero (A : Option Addr) : Shows w B size A 0 [] := ⟨by simp, fun h => absurd h (by omega)⟩
theorem Shows.keep (h : Shows w B size A n xs) (hk : ∀ p : Addr, p.block < B → w'.cell? p = w.cell? p) : Shows w' B size A n xs :=
  ⟨h.1, fun hn => by
    obtain ⟨b, off, e, hb, hc⟩ := h.2 hn
    exact ⟨b, off, e, hb, fun j u hu => (hk _ hb).trans (hc j u hu)⟩⟩
theorem Shows.more (h : Shows w B size A n xs) (hB : B ≤ B') : Shows w B' size A n xs :=
  ⟨h.1, fun hn => by
    obtain ⟨b, off, e, hb, hc⟩ := h.2 hn
    exact ⟨b, off, e, by omega, hc⟩⟩
theorem Shows.below (h : Shows w B size A n xs) (hb : Below B w w') : Shows w' B size A n xs := h.keep fun _ hp => hb.cell hp
theorem Shows.drew (h : Shows w B size A n xs) : Shows w.drew B size A n xs := h
theorem Shows.drewN (h : Shows w B size A n xs) (k : Nat) : Shows (w.drewN k) B size A n xs := h
theorem Shows.alloc (h : Shows w B size A n xs) (hB : B ≤ w.heap.size) (o : Obj) : Shows (w.alloc o) B size A n xs := h.keep fun p hp => World.cell?_alloc_lt w o p (by omega)
theorem Shows.setCell (h : Shows w B size A n xs) {p : Addr} (hB : B ≤ p.block) (u : Value) : Shows (w.setCell p u) B size A n xs :=
  h.keep fun q hq => World.cell?_setCell_other w p q u (fun e => by subst e; omega)
theorem Shows.cut (h : Shows w B size A n xs) {k cap : Nat} (hk : k ≤ n) (hc : n ≤ cap) :
    Shows w B size (if cap = k then A else A.map (·.add (k * size))) (n - k) (xs.drop (k * size)) := by
  refine ⟨by rw [List.length_drop, h.1, Nat.sub_mul], fun hn => ?_⟩
  obtain ⟨b, off, rfl, hb, hcell⟩ := h.2 (by omega)
  rw [if_neg (by omega)]
  refine ⟨b, off + k * size, by rw [Option.map_some, addr_add], hb, fun j u hu => ?_⟩
  rw [Nat.add_assoc]
  exact hcell _ u (by rw [← hu, List.getElem?_drop])
theorem Shows.first (h : Shows w B size A n xs) {k : Nat} (hk : k ≤ n) : Shows w B size A k (xs.take (k * size)) := by
  refine ⟨by rw [List.length_take, h.1]; exact Nat.min_eq_left (Nat.mul_le_mul_right _ hk), fun hn => ?_⟩
  obtain ⟨b, off, rfl, hb, hcell⟩ := h.2 (by omega)
  refine ⟨b, off, rfl, hb, fun j u hu => hcell j u ?_⟩
  rw [List.getElem?_take] at hu
  split at hu
  · exact hu
  · cases hu
theorem Shows.own {base : Nat} {e : TypeId} {c : Nat} (h : w.ownsRow base e size (.slice A n c) n xs) : Shows w w.heap.size size A n xs := by
  refine ⟨h.1, fun hn => ?_⟩
  obtain ⟨g, cap, hv, _, hlt⟩ := h.form hn
  have hA : A = some ⟨g, 0, none⟩ := by injection hv
  subst hA
  refine ⟨g, 0, rfl, hlt, fun j u hu => ?_⟩
  have := h.cells (g := g) rfl j u hu
  rwa [addr_add] at this
end

/-- A byte as a cell holds it. -/
def bv (x : UInt8) : Value := .int .u8 (x.toNat : Int)
/-- The byte at a place, as a number. -/
def at8 (l : List UInt8) (k : Nat) : Int := ((l.getD k 0).toNat : Int)
theorem at8_lo (l : List UInt8) (k : Nat) : 0 ≤ at8 l k := by unfold at8; omega
theorem at8_hi (l : List UInt8) (k : Nat) : at8 l k ≤ 255 := by unfold at8; have := (l.getD k 0).toNat_lt; omega
theorem at8_bv {l : List UInt8} {k : Nat} (h : k < l.length) : (l.map bv)[k]? = some (.int .u8 (at8 l k)) := by
  rw [List.getElem?_map, List.getElem?_eq_getElem h]
  unfold at8
  rw [List.getD_eq_getElem?_getD, List.getElem?_eq_getElem h]
  rfl
theorem at8_inj {l m : List UInt8} {k j : Nat} (h : at8 l k = at8 m j) : l.getD k 0 = m.getD j 0 := UInt8.toNat_inj.1 (Int.ofNat_inj.1 h)
theorem take_snoc (l : List UInt8) (k : Nat) (h : k < l.length) : l.take (k + 1) = l.take k ++ [l.getD k 0] := by
  rw [List.take_succ_eq_append_getElem h, List.getD_eq_getElem?_getD, List.getElem?_eq_getElem h]
  rfl
/-- A slice of bytes. -/
def Bytes (w : World) (B : Nat) (A : Option Addr) (n : Nat) (l : List UInt8) : Prop := Shows w B 1 A n (l.map bv)

section
variable {w w' : World} {B B' n : Nat} {A : Option Addr} {l : List UInt8}
theorem Bytes.len (h : Bytes w B A n l) : l.length = n := by have := h.1; simpa using this
theorem Bytes.zero (A : Option Addr) : Bytes w B A 0 [] := Shows.zero A
theorem Bytes.keep (h : Bytes w B A n l) (hk : ∀ p : Addr, p.block < B → w'.cell? p = w.cell? p) : Bytes w' B A n l := Shows.keep h hk
theorem Bytes.more (h : Bytes w B A n l) (hB : B ≤ B') : Bytes w B' A n l := Shows.more h hB
theorem Bytes.below (h : Bytes w B A n l) (hb : Below B w w') : Bytes w' B A n l := Shows.below h hb
theorem Bytes.drew (h : Bytes w B A n l) : Bytes w.drew B A n l := h
theorem Bytes.drewN (h : Bytes w B A n l) (k : Nat) : Bytes (w.drewN k) B A n l := h
theorem Bytes.alloc (h : Bytes w B A n l) (hB : B ≤ w.heap.size) (o : Obj) : Bytes (w.alloc o) B A n l := Shows.alloc h hB o
theorem Bytes.setCell (h : Bytes w B A n l) {p : Addr} (hB : B ≤ p.block) (u : Value) : Bytes (w.setCell p u) B A n l := Shows.setCell h hB u
theorem Bytes.cut (h : Bytes w B A n l) {k cap : Nat} (hk : k ≤ n) (hc : n ≤ cap) : Bytes w B (if cap = k then A else A.map (·.add k)) (n - k) (l.drop k) := by
  have := Shows.cut h hk hc
  unfold Bytes
  simpa [List.map_drop] using this
theorem Bytes.first (h : Bytes w B A n l) {k : Nat} (hk : k ≤ n) : Bytes w B A k (l.take k) := by
  have := Shows.first h hk
  unfold Bytes
  simpa [List.map_take] using this
theorem Bytes.cell (h : Bytes w B A n l) {k : Nat} (hk : k < n) : ∃ b off, A = some ⟨b, off, none⟩ ∧ b < B ∧ w.cell? ⟨b, off + k, none⟩ = some (.int .u8 (at8 l k)) := by
  obtain ⟨b, off, e, hb, hc⟩ := h.2 (by omega)
  exact ⟨b, off, e, hb, hc k _ (at8_bv (by have := h.len; omega))⟩
theorem Bytes.own {base : Nat} {e : TypeId} {c : Nat} (h : w.ownsRow base e 1 (.slice A n c) n (l.map bv)) : Bytes w w.heap.size A n l := Shows.own h
end

theorem bytes_new (w : World) (l : List UInt8) (C : Array Value) (t : TypeId) (fr : Nat × Nat) (hC : C.toList = l.map bv) : Bytes (w.alloc (.cells C t fr)) (w.heap.size + 1) (some ⟨w.heap.size, 0, none⟩) l.length l :=
  ⟨by simp, fun _ => ⟨w.heap.size, 0, rfl, by omega, fun j u hu => by
    rw [cell_of_row _ _ _ _ _ _ (heap_alloc_new w _), Nat.zero_add]
    rw [← hC] at hu
    simpa using hu⟩⟩

/-- What a call that gives a slice of bytes of its own hands back. -/
def GivesBytes (e8 : TypeId) (l : List UInt8) (W : World) (e : Ending) (w' : World) : Prop :=
  ∃ A n c, e = .returned (.slice A n c) ∧ w'.ownsRow W.heap.size e8 1 (.slice A n c) n (l.map bv) ∧ Below W.heap.size W w'
theorem own_form {w : World} {base : Nat} {e : TypeId} {v : Value} {n : Nat} {xs : List Value} {size : Nat} (h : w.ownsRow base e size v n xs) : ∃ A c, v = .slice A n c ∧ n ≤ c ∧ c ≤ maxLen := by
  rcases h.2 with ⟨rfl, rfl⟩ | ⟨g, cap, cur, rfl, _, _, h1, h2, _⟩
  · exact ⟨none, 0, rfl, Nat.le_refl _, by unfold maxLen; omega⟩
  · exact ⟨_, cap, rfl, h1, h2⟩
theorem own_below {w w' : World} {base : Nat} {e : TypeId} {v : Value} {n : Nat} {xs : List Value} {size : Nat} (h : w.ownsRow base e size v n xs) (hb : Below w.heap.size w w') : w'.ownsRow base e size v n xs :=
  h.kept (row := none) ⟨hb.os, hb.tape, hb.output, hb.size, fun k hk _ => hb.block k hk⟩ (by cases hv : v.ownBlock <;> simp)
theorem own_base {w : World} {base base' : Nat} {e : TypeId} {v : Value} {n : Nat} {xs : List Value} {size : Nat} (h : w.ownsRow base e size v n xs) (hb : base' ≤ base) : w.ownsRow base' e size v n xs := by
  refine ⟨h.1, ?_⟩
  rcases h.2 with h2 | ⟨g, cap, cur, hv, hg, r⟩
  · exact .inl h2
  · exact .inr ⟨g, cap, cur, hv, Nat.le_trans hb hg, r⟩
theorem bv_one (l : List UInt8) : ∀ u ∈ l.map bv, u.oneCell' = true := by
  intro u hu
  obtain ⟨x, _, rfl⟩ := List.mem_map.1 hu
  rfl
end Go.Proofs.Ytnfohlabmidliaa
/-
  Cells of new blocks in later worlds; the steps of 'nothing below has turned'. No program in sight.
-/
namespace Go.Proofs.Ytnfohlabmidliaa
open Go.RowKit
theorem new_later {w w1 : World} {C : Array Value} {t : TypeId} (hb : Below (w.alloc (.cells C t)).heap.size (w.alloc (.cells C t)) w1) (k : Nat) {v : Value} (hk : C[k]? = some v) : w1.cell? ⟨w.heap.size, k, none⟩ = some v :=
  (hb.cell (p := ⟨w.heap.size, k, none⟩) (by simp)).trans ((World.cell?_alloc_new w C t k).trans hk)
theorem kept_later {w w1 : World} (hb : Below w.heap.size w w1) {p : Addr} {v : Value} (h : w.cell? p = some v) : w1.cell? p = some v :=
  (hb.cell (p := p) (World.block_lt_of_cell? w _ h)).trans h
theorem froz_later {w w1 : World} (hb : Below w.heap.size w w1) {p : Addr} {v : Value} (h : w.cell? p = some v) {b : Bool} (hf : w.frozen? p = b) : w1.frozen? p = b :=
  (hb.frozen (World.block_lt_of_cell? w _ h)).trans hf
theorem S_call {W0 w1 w2 : World} {B : Nat} (hb : Below B w1 w2) (h : Below W0.heap.size W0 w1) (hB : B = w1.heap.size) : Below W0.heap.size W0 w2 := h.trans (hb.mono (by rw [hB]; exact h.size))
theorem S_alloc {W0 w1 : World} {o : Obj} (h : Below W0.heap.size W0 w1) : Below W0.heap.size W0 (w1.alloc o) := h.alloc h.size _
theorem bel_next {a b c : World} (h : Below a.heap.size a b) (k : Below b.heap.size b c) : Below a.heap.size a c := h.trans (k.mono h.size)
theorem bel_alloc {a b : World} (h : Below a.heap.size a b) (o : Obj) : Below a.heap.size a (b.alloc o) := h.alloc h.size o

/-- Block b holds these cells, and they may be written. -/
def Box (W : World) (b : Nat) (C : List Value) : Prop := ∀ k v, C[k]? = some v → W.cell? ⟨b, k, none⟩ = some v ∧ W.frozen? ⟨b, k, none⟩ = false
theorem Box.new (w : World) (C : Array Value) (t : TypeId) : Box (w.alloc (.cells C t)) w.heap.size C.toList := fun k v h => by
  refine ⟨(World.cell?_alloc_new w C t k).trans (by simpa using h), ?_⟩
  go_simp
theorem Box.new' (w : World) (C : Array Value) (t : TypeId) {b : Nat} (hb : b = w.heap.size) : Box (w.alloc (.cells C t)) b C.toList := by subst hb; exact Box.new w C t
theorem Box.later {W W' : World} {b : Nat} {C : List Value} (h : Box W b C) (hb : Below W.heap.size W W') : Box W' b C := fun k v hk =>
  ⟨kept_later hb (h k v hk).1, froz_later hb (h k v hk).1 (h k v hk).2⟩
theorem Box.alloc {W : World} {b : Nat} {C : List Value} (h : Box W b C) (o : Obj) : Box (W.alloc o) b C := h.later ((Below.refl _ _).alloc (Nat.le_refl _) o)
theorem Box.drewN {W : World} {b : Nat} {C : List Value} (h : Box W b C) (n : Nat) : Box (W.drewN n) b C := h
theorem Box.lt {W : World} {b : Nat} {C : List Value} (h : Box W b C) (hC : 0 < C.length) : b < W.heap.size :=
  World.block_lt_of_cell? W _ (h 0 (C[0]) (List.getElem?_eq_getElem hC)).1
/-- A store into another block. -/
theorem Box.setCell {W : World} {b : Nat} {C : List Value} (h : Box W b C) {p : Addr} (hp : p.block ≠ b) (u : Value) : Box (W.setCell p u) b C := fun k v hk =>
  ⟨(World.cell?_setCell_other W p ⟨b, k, none⟩ u (fun e => hp (by rw [e]))).trans (h k v hk).1, by rw [World.frozen?_setCell]; exact (h k v hk).2⟩
/-- Four stores, cell by cell. -/
def set4 (W : World) (b : Nat) (x0 x1 x2 x3 : Value) : World := (((W.setCell ⟨b, 0, none⟩ x0).setCell ⟨b, 1, none⟩ x1).setCell ⟨b, 2, none⟩ x2).setCell ⟨b, 3, none⟩ x3
theorem Box.set4 {W : World} {b : Nat} {y0 y1 y2 y3 : Value} (h : Box W b [y0, y1, y2, y3]) (x0 x1 x2 x3 : Value) : Box (set4 W b x0 x1 x2 x3) b [x0, x1, x2, x3] := by
  have h0 := h 0 _ rfl
  have h1 := h 1 _ rfl
  have h2 := h 2 _ rfl
  have h3 := h 3 _ rfl
  have ne : ∀ i j : Nat, i ≠ j → (⟨b, i, none⟩ : Addr) ≠ ⟨b, j, none⟩ := fun i j e h => e (by injection h)
  intro k v hk
  unfold Proofs.Ytnfohlabmidliaa.set4
  simp only [World.frozen?_setCell]
  match k, hk with
  | 0, hk =>
    cases hk
    refine ⟨?_, h0.2⟩
    rw [World.cell?_setCell_other _ _ _ _ (ne _ _ (by omega)), World.cell?_setCell_other _ _ _ _ (ne _ _ (by omega)), World.cell?_setCell_other _ _ _ _ (ne _ _ (by omega))]
    exact cell_set h0.1 _
  | 1, hk =>
    cases hk
    refine ⟨?_, h1.2⟩
    rw [World.cell?_setCell_other _ _ _ _ (ne _ _ (by omega)), World.cell?_setCell_other _ _ _ _ (ne _ _ (by omega))]
    exact cell_set ((World.cell?_setCell_other _ _ _ _ (ne _ _ (by omega))).trans h1.1) _
  | 2, hk =>
    cases hk
    refine ⟨?_, h2.2⟩
    rw [World.cell?_setCell_other _ _ _ _ (ne _ _ (by omega))]
    exact cell_set ((World.cell?_setCell_other _ _ _ _ (ne _ _ (by omega))).trans ((World.cell?_setCell_other _ _ _ _ (ne _ _ (by omega))).trans h2.1)) _
  | 3, hk =>
    cases hk
    refine ⟨?_, h3.2⟩
    exact cell_set ((World.cell?_setCell_other _ _ _ _ (ne _ _ (by omega))).trans ((World.cell?_setCell_other _ _ _ _ (ne _ _ (by omega))).trans ((World.cell?_setCell_other _ _ _ _ (ne _ _ (by omega))).trans h3.1))) _
theorem Box.far4 {W : World} {b g : Nat} {C : List Value} (h : Box W b C) (x0 x1 x2 x3 : Value) (hg : g ≠ b) : Box (Proofs.Ytnfohlabmidliaa.set4 W g x0 x1 x2 x3) b C :=
  (((h.setCell (p := ⟨g, 0, none⟩) hg x0).setCell (p := ⟨g, 1, none⟩) hg x1).setCell (p := ⟨g, 2, none⟩) hg x2).setCell (p := ⟨g, 3, none⟩) hg x3
theorem below_set4 {a W : World} {B b : Nat} (h : Below B a W) (hb : B ≤ b) (x0 x1 x2 x3 : Value) : Below B a (set4 W b x0 x1 x2 x3) :=
  (((h.setCell (p := ⟨b, 0, none⟩) hb x0).setCell (p := ⟨b, 1, none⟩) hb x1).setCell (p := ⟨b, 2, none⟩) hb x2).setCell (p := ⟨b, 3, none⟩) hb x3
end Go.Proofs.Ytnfohlabmidliaa
/-
  Layer 10, plain: files, where they lie, how long they are, which may be. No program in sight.
-/
namespace Go.Proofs.Ytnfohlabmidliaa
open Go.RowKit
set_option linter.unusedVariables false

/-- A row of bytes, with its head. -/
structure PcT where
  A : Option Addr
  n : Nat
  c : Nat
  l : List UInt8
def PcT.val (p : PcT) : Value := .slice p.A p.n p.c
structure PcT.Ok (w : World) (B : Nat) (p : PcT) : Prop where
  here : Bytes w B p.A p.n p.l
  nil : p.A = none → p.c = 0
  fits : p.n ≤ p.c
  most : p.c ≤ maxLen
theorem PcT.Ok.later {w w' : World} {B : Nat} {p : PcT} (h : p.Ok w B) (hb : Below B w w') : p.Ok w' B := ⟨h.here.below hb, h.nil, h.fits, h.most⟩
theorem PcT.Ok.more {w : World} {B B' : Nat} {p : PcT} (h : p.Ok w B) (hB : B ≤ B') : p.Ok w B' := ⟨h.here.more hB, h.nil, h.fits, h.most⟩
theorem PcT.Ok.len {w : World} {B : Nat} {p : PcT} (h : p.Ok w B) : p.l.length = p.n := h.here.len
def joinP (L : List PcT) : List UInt8 := L.flatMap (·.l)
theorem joinP_nil : joinP [] = [] := rfl
theorem joinP_cons (p : PcT) (L : List PcT) : joinP (p :: L) = p.l ++ joinP L := by unfold joinP; rw [List.flatMap_cons]
theorem joinP_append (L M : List PcT) : joinP (L ++ M) = joinP L ++ joinP M := by unfold joinP; rw [List.flatMap_append]
theorem joinP_snoc (L : List PcT) (p : PcT) : joinP (L ++ [p]) = joinP L ++ p.l := by rw [joinP_append, joinP_cons, joinP_nil, List.append_nil]
theorem joinP_take {L : List PcT} {k : Nat} {p : PcT} (h : L[k]? = some p) : joinP (L.take (k + 1)) = joinP (L.take k) ++ p.l := by
  rw [List.take_add_one, h]
  exact joinP_snoc _ _

/-- A file, with the heads of its rows. -/
structure FileT where
  F : PcT
  lA : Option Addr
  ln : Nat
  lc : Nat
  L : List PcT
  fuse : Int
  fault : Int
  off : Bool
def FileT.agg (X : FileT) : Value := .agg #[X.F.val, .slice X.lA X.ln X.lc, .int .i64 X.fuse, .int .i64 X.fault, .bool X.off]
def FileT.all (X : FileT) : List UInt8 := X.F.l ++ joinP X.L
structure LieF (w : World) (B : Nat) (X : FileT) : Prop where
  firm : X.F.Ok w B
  row : Shows w B 1 X.lA X.ln (X.L.map PcT.val)
  loose : ∀ p ∈ X.L, p.Ok w B
  nil : X.lA = none → X.lc = 0
  fits : X.ln ≤ X.lc
  most : X.lc ≤ maxLen
  fuse : (Lit.int .i64 X.fuse).wf = true
  fault : (Lit.int .i64 X.fault).wf = true
theorem LieF.later {w w' : World} {B : Nat} {X : FileT} (h : LieF w B X) (hb : Below B w w') : LieF w' B X :=
  ⟨h.firm.later hb, h.row.below hb, fun p hp => (h.loose p hp).later hb, h.nil, h.fits, h.most, h.fuse, h.fault⟩
theorem LieF.more {w : World} {B B' : Nat} {X : FileT} (h : LieF w B X) (hB : B ≤ B') : LieF w B' X :=
  ⟨h.firm.more hB, h.row.more hB, fun p hp => (h.loose p hp).more hB, h.nil, h.fits, h.most, h.fuse, h.fault⟩
theorem LieF.len {w : World} {B : Nat} {X : FileT} (h : LieF w B X) : X.L.length = X.ln := by have := h.row.1; simpa using this
/-- A piece's cell. -/
theorem pc_at {w : World} {B : Nat} {A : Option Addr} {n : Nat} {L : List PcT} (h : Shows w B 1 A n (L.map PcT.val)) {k : Nat} (hk : k < n) : ∃ b off p, A = some ⟨b, off, none⟩ ∧ b < B ∧ L[k]? = some p ∧ w.cell? ⟨b, off + k, none⟩ = some (.slice p.A p.n p.c) := by
  obtain ⟨b, off, rfl, hb, hc⟩ := h.2 (by omega)
  have hl : L.length = n := by have := h.1; simpa using this
  have hp : L[k]? = some (L[k]'(by omega)) := List.getElem?_eq_getElem (by omega)
  exact ⟨b, off, _, rfl, hb, hp, hc k _ (by rw [List.getElem?_map, hp]; rfl)⟩

/-- How long: up to where it is too long. -/
def lenGo : List PcT → Nat → Nat
  | [], n => n
  | p :: L, n => if 524288 < n then n else lenGo L (n + p.n)
def FileT.long (X : FileT) : Nat := lenGo X.L X.F.n
def sumN (L : List PcT) : Nat := (L.map (·.n)).sum
theorem lenGo_over : ∀ (L : List PcT) (n : Nat), 524288 < n → lenGo L n = n
  | [], n, h => rfl
  | p :: L, n, h => by unfold lenGo; rw [if_pos h]
theorem lenGo_is : ∀ (L : List PcT) (n : Nat), (n + sumN L ≤ 524288 → lenGo L n = n + sumN L) ∧ (524288 < n + sumN L → 524288 < lenGo L n)
  | [], n => by simp [lenGo, sumN]
  | p :: L, n => by
    have e : sumN (p :: L) = p.n + sumN L := by simp [sumN]
    obtain ⟨h1, h2⟩ := lenGo_is L (n + p.n)
    rw [e]
    by_cases h : 524288 < n
    · unfold lenGo
      rw [if_pos h]
      exact ⟨fun h' => by omega, fun _ => h⟩
    · unfold lenGo
      rw [if_neg h]
      exact ⟨fun h' => by rw [h1 (by omega)]; omega, fun h' => h2 (by omega)⟩
theorem lenGo_take {L : List PcT} {k : Nat} {p : PcT} {n : Nat} (h : L[k]? = some p) (hn : n + sumN (L.take k) ≤ 524288) : n + sumN (L.take (k + 1)) = n + sumN (L.take k) + p.n := by
  have : sumN (L.take (k + 1)) = sumN (L.take k) + p.n := by
    unfold sumN
    rw [List.take_add_one, h]
    simp
  omega
theorem sumN_len {w : World} {B : Nat} {L : List PcT} (h : ∀ p ∈ L, p.Ok w B) : (joinP L).length = sumN L := by
  induction L with
  | nil => rfl
  | cons p L ih =>
    rw [joinP_cons, List.length_append, ih fun q hq => h q (List.mem_cons_of_mem _ hq), (h p (List.mem_cons_self ..)).len]
    simp [sumN]
/-- May a file be? -/
def FileT.right (X : FileT) : Bool := X.L.all (fun p => !(p.n == 0)) && (decide (-1 ≤ X.fuse) && (decide (-1 ≤ X.fault) && ((!X.off || X.fuse == -1) && decide (X.long ≤ 524288))))
/-- A file by what it is, without the heads. -/
structure FileS where
  firm : List UInt8
  loose : List (List UInt8)
  fuse : Int
  fault : Int
  off : Bool
def FileT.s (X : FileT) : FileS := ⟨X.F.l, X.L.map (·.l), X.fuse, X.fault, X.off⟩
theorem right_all {w : World} {B : Nat} {X : FileT} (h : LieF w B X) (hr : X.right = true) : X.long = X.all.length ∧ X.all.length ≤ 524288 := by
  unfold FileT.right at hr
  simp only [Bool.and_eq_true, decide_eq_true_eq] at hr
  have hl := hr.2.2.2.2
  obtain ⟨h1, h2⟩ := lenGo_is X.L X.F.n
  have e : X.all.length = X.F.n + sumN X.L := by unfold FileT.all; rw [List.length_append, h.firm.len, sumN_len h.loose]
  unfold FileT.long at hl ⊢
  by_cases hs : X.F.n + sumN X.L ≤ 524288
  · rw [h1 hs, e]; exact ⟨rfl, hs⟩
  · have := h2 (by omega); omega
/-- An operation is asked for that brings so many bytes: the file behind that, and what it comes to. -/
def FileS.asked (X : FileS) (long more : Nat) : FileS × Int :=
  if X.off then (X, 10)
  else if 524288 < long + more then (X, 8)
  else if X.fault = 0 then ({ X with fault := -1 }, 9)
  else
    let f1 := if 0 < X.fault then X.fault - 1 else X.fault
    if X.fuse = 0 then ({ X with fault := f1, fuse := -1, off := true }, 10)
    else ({ X with fault := f1, fuse := if 0 < X.fuse then X.fuse - 1 else X.fuse }, 0)
end Go.Proofs.Ytnfohlabmidliaa
/-
  Numbers of 128 bits as two halves. No program in sight.
-/
namespace Go.Proofs.Ytnfohlabmidliaa
open Go.RowKit

/-- The halves of a number. -/
def hiI (v : Int) : Int := wrap64 (v / 18446744073709551616)
def loI (v : Int) : Int := v % 18446744073709551616
def R128 (v : Int) : Prop := -170141183460469231731687303715884105728 ≤ v ∧ v < 170141183460469231731687303715884105728
def R64 (n : Int) : Prop := -9223372036854775808 ≤ n ∧ n < 9223372036854775808
theorem lo_bound (v : Int) : 0 ≤ loI v ∧ loI v < 18446744073709551616 := by unfold loI; omega
theorem hi_bound (v : Int) : R64 (hiI v) := by unfold R64 hiI wrap64; omega
theorem hi_in (v : Int) (h : R128 v) : hiI v = v / 18446744073709551616 := by unfold R128 at h; unfold hiI wrap64; omega
theorem hl_inj (a b : Int) (ha : R128 a) (hb : R128 b) : (hiI a = hiI b ∧ loI a = loI b) ↔ a = b := by
  rw [hi_in a ha, hi_in b hb]
  unfold loI
  omega
theorem hl_less (a b : Int) (ha : R128 a) (hb : R128 b) : (hiI a < hiI b ∨ (hiI a = hiI b ∧ loI a < loI b)) ↔ a < b := by
  rw [hi_in a ha, hi_in b hb]
  unfold loI
  omega
theorem hl_of (n : Int) (h : R64 n) : hiI n = n / 9223372036854775808 ∧ loI n = n % 18446744073709551616 := by
  unfold R64 at h
  unfold hiI loI wrap64
  omega
/-- Halves that came in. -/
theorem hl_mk (h l : Int) (hh : R64 h) (hl : 0 ≤ l ∧ l < 18446744073709551616) : R128 (h * 18446744073709551616 + l) ∧ hiI (h * 18446744073709551616 + l) = h ∧ loI (h * 18446744073709551616 + l) = l := by
  unfold R64 at hh
  unfold R128 hiI loI wrap64
  omega
theorem hl_zero : hiI 0 = 0 ∧ loI 0 = 0 := by unfold hiI loI wrap64; decide
theorem lo_add (a b : Int) : (loI a + loI b) % 18446744073709551616 = loI (a + b) := by unfold loI; omega
theorem hi_add (a b : Int) : wrap64 (wrap64 (hiI a + hiI b) + (loI a + loI b) / 18446744073709551616) = hiI (a + b) := by
  unfold hiI loI wrap64
  omega
/-- The carry, asked of the lower halves. -/
theorem carry_ask (a b : Int) : (loI a + loI b) / 18446744073709551616 = if 18446744073709551615 - loI a < loI b then 1 else 0 := by
  have h1 := lo_bound a
  have h2 := lo_bound b
  split <;> omega
/-- The product of the unsigned readings; a negative number was read as one greater by 2^64. -/
theorem mul_lo (n t : Int) : (n % 18446744073709551616 * t) % 18446744073709551616 = loI (n * t) := by
  unfold loI
  rw [Int.mul_emod, Int.emod_emod_of_dvd _ (Int.dvd_refl _), ← Int.mul_emod]
theorem mul_hi (n t : Int) (hn : R64 n) : wrap64 (wrap64 ((n % 18446744073709551616 * t) / 18446744073709551616) - (if n < 0 then t else 0)) = hiI (n * t) := by
  unfold R64 at hn
  by_cases h : n < 0
  · rw [if_pos h, show n % 18446744073709551616 = n + 18446744073709551616 by omega, Int.add_mul]
    unfold hiI wrap64
    generalize n * t = p
    omega
  · rw [if_neg h, show n % 18446744073709551616 = n by omega]
    unfold hiI wrap64
    generalize n * t = p
    omega

/-- A reduction that may be: count, numbers, sum, least, greatest. -/
def validB (c i v le mo : Int) : Bool :=
  decide (0 ≤ c ∧ c ≤ 1073741824 ∧ 0 ≤ i ∧ i ≤ c) &&
    (if i = 0 then decide (v = 0 ∧ le = 0 ∧ mo = 0) else if i = 1 then decide (le = mo ∧ v = le) else decide (le ≤ mo) && (decide (le + mo + le * (i - 2) ≤ v) && decide (v ≤ le + mo + mo * (i - 2))))
theorem valid_cases (c i v le mo : Int) : (c < 0 ∧ validB c i v le mo = false) ∨ ((0 ≤ c ∧ 1073741824 < c) ∧ validB c i v le mo = false) ∨ (((0 ≤ c ∧ c ≤ 1073741824) ∧ i < 0) ∧ validB c i v le mo = false) ∨
    (((0 ≤ c ∧ c ≤ 1073741824) ∧ 0 ≤ i ∧ c < i) ∧ validB c i v le mo = false) ∨
    (((0 ≤ c ∧ c ≤ 1073741824) ∧ i = 0) ∧ validB c i v le mo = decide (v = 0 ∧ le = 0 ∧ mo = 0)) ∨
    (((0 ≤ c ∧ c ≤ 1073741824) ∧ 1 ≤ c ∧ i = 1) ∧ validB c i v le mo = decide (le = mo ∧ v = le)) ∨
    (((0 ≤ c ∧ c ≤ 1073741824) ∧ (2 ≤ i ∧ i ≤ c)) ∧ validB c i v le mo = (decide (le ≤ mo) && (decide (le + mo + le * (i - 2) ≤ v) && decide (v ≤ le + mo + mo * (i - 2))))) := by
  unfold validB
  by_cases h1 : c < 0
  · exact .inl ⟨h1, by rw [decide_eq_false (by omega)]; rfl⟩
  · refine .inr ?_
    by_cases h2 : 1073741824 < c
    · exact .inl ⟨⟨by omega, h2⟩, by rw [decide_eq_false (by omega)]; rfl⟩
    · refine .inr ?_
      by_cases h3 : i < 0
      · exact .inl ⟨⟨⟨by omega, by omega⟩, h3⟩, by rw [decide_eq_false (by omega)]; rfl⟩
      · refine .inr ?_
        by_cases h4 : c < i
        · exact .inl ⟨⟨⟨by omega, by omega⟩, by omega, h4⟩, by rw [decide_eq_false (by omega)]; rfl⟩
        · refine .inr ?_
          rw [decide_eq_true (by omega), Bool.true_and]
          by_cases h5 : i = 0
          · exact .inl ⟨⟨⟨by omega, by omega⟩, h5⟩, by rw [if_pos h5]⟩
          · refine .inr ?_
            rw [if_neg h5]
            by_cases h6 : i = 1
            · exact .inl ⟨⟨⟨by omega, by omega⟩, by omega, h6⟩, by rw [if_pos h6]⟩
            · exact .inr ⟨⟨⟨by omega, by omega⟩, by omega, by omega⟩, by rw [if_neg h6]⟩
/-- Products of a number of 64 bits and a count stay far from the limits. -/
theorem mul_bound (n t : Int) (hn : R64 n) (h0 : 0 ≤ t) (ht : t ≤ 1073741824) : -9903520314283042199192993792 ≤ n * t ∧ n * t ≤ 9903520314283042199192993792 := by
  unfold R64 at hn
  have h1 : n * t ≤ 9223372036854775808 * t := Int.mul_le_mul_of_nonneg_right (by omega) h0
  have h2 : -9223372036854775808 * t ≤ n * t := Int.mul_le_mul_of_nonneg_right (by omega) h0
  omega
end Go.Proofs.Ytnfohlabmidliaa
/-
  Package monoid: sums.
-/
namespace Go.Proofs.Ytnfohlabmidliaa
open Go.RowKit
attribute [local go_sem ↓] Go.wp_at_zero Go.wp_at_succ

def sumV (a : Int) : Value := .agg #[.int .i64 (hiI a), .int .u64 (loI a)]

set_option maxHeartbeats 1000000 in
theorem sumOf_any (n : Int) (w : World) (h : R64 n) :
    Calls Try.prog 67 #[.int .i64 n] w fun e w' => e = .returned (sumV n) ∧ Below w.heap.size w w' := by
  have Hr := Lib.hid (hl_of n h)
  unfold R64 at h
  obtain ⟨h0, h1⟩ := h
  go_enter Try.func67, Try.ntmps67
  go_wp2
  refine bodyPost_ret (v := sumV n) ?_ rfl ⟨rfl, (Below.refl _ _).alloc (Nat.le_refl _) _⟩
  unfold sumV
  rw [Hr.out.1, Hr.out.2, ← IntKind.wrap_u64]
  simp [results, Try.results67, go_sem]

theorem run_add (x y : Int) (hx : 0 ≤ x) (hy : 0 ≤ y) (w : World) :
    (callFunc 79 #[.int .u64 x, .int .u64 y, .int .u64 0]).run Try.prog w =
      .ok (.value (.tuple #[.int .u64 ((x + y) % 18446744073709551616), .int .u64 ((x + y) / 18446744073709551616)])) w := by
  rw [run_callFunc_extern Try.func79 (by kernel_rfl) (by kernel_rfl) (by kernel_rfl) (e := add64Entry) (by kernel_rfl), run_add64 x y 0 hx hy (by omega) (by omega)]
  simp only [Result.andThen, Int.add_zero]

set_option maxHeartbeats 1000000 in
theorem plus_any (a b : Int) (w : World) :
    Calls Try.prog 69 #[sumV a, sumV b] w fun e w' => e = .returned (sumV (a + b)) ∧ Below w.heap.size w w' := by
  have Hl := Lib.hid (lo_add a b)
  have Hh := Lib.hid (hi_add a b)
  obtain ⟨la0, la1⟩ := lo_bound a
  obtain ⟨lb0, lb1⟩ := lo_bound b
  obtain ⟨ha0, ha1⟩ := hi_bound a
  obtain ⟨hb0, hb1⟩ := hi_bound b
  have hadd := run_add (loI a) (loI b) la0 lb0
  have hc0 : 0 ≤ (loI a + loI b) / 18446744073709551616 := by omega
  have hc1 : (loI a + loI b) / 18446744073709551616 ≤ 1 := by omega
  unfold sumV
  go_enter Try.func69, Try.ntmps69
  go_wp2
  refine bodyPost_ret (v := .agg #[.int .i64 (hiI (a + b)), .int .u64 (loI (a + b))]) ?_ rfl ⟨rfl, (((Below.refl _ _).alloc (Nat.le_refl _) _).alloc (by simp) _).alloc (by simp; omega) _⟩
  rw [Hh.out, Hl.out]
  simp [results, Try.results69, go_sem]

set_option maxHeartbeats 1000000 in
theorem mul64_nat (x y : Nat) (hx : x < 18446744073709551616) (hy : y < 18446744073709551616) (w : World) :
    Calls Try.prog 80 #[.int .u64 (x : Int), .int .u64 (y : Int)] w fun e w' => e = .returned (.tuple #[.int .u64 ((x * y / 18446744073709551616 : Nat) : Int), .int .u64 ((x * y % 18446744073709551616 : Nat) : Int)]) ∧ w = w' := by
  obtain ⟨bd, bt, bw, hhi⟩ := Lib.mul64_hi x y hx hy
  have ba := Lib.half_mul_le (a := x / 4294967296) (b := y / 4294967296) (by omega) (by omega)
  have bb := Lib.half_mul_le (a := x / 4294967296) (b := y % 4294967296) (by omega) (by omega)
  have bc := Lib.half_mul_le (a := x % 4294967296) (b := y / 4294967296) (by omega) (by omega)
  have ba' : x / 4294967296 * (y / 4294967296) < 18446744073709551616 := by omega
  have bb' : x / 4294967296 * (y % 4294967296) < 18446744073709551616 := by omega
  have bc' : x % 4294967296 * (y / 4294967296) < 18446744073709551616 := by omega
  have bh1 : x / 4294967296 * (y / 4294967296) + (x / 4294967296 * (y % 4294967296) + x % 4294967296 * (y % 4294967296) / 4294967296) / 4294967296 < 18446744073709551616 := by omega
  have bh : x / 4294967296 * (y / 4294967296) + (x / 4294967296 * (y % 4294967296) + x % 4294967296 * (y % 4294967296) / 4294967296) / 4294967296 + ((x / 4294967296 * (y % 4294967296) + x % 4294967296 * (y % 4294967296) / 4294967296) % 4294967296 + x % 4294967296 * (y / 4294967296)) / 4294967296 < 18446744073709551616 := by omega
  go_enter Try.func80, Try.ntmps80
  go_wp2
  simp only [Go.Proofs.Mul64.maskN x hx, Go.Proofs.Mul64.maskN y hy, Go.Proofs.Mul64.divN, Go.Proofs.Mul64.mulN, Go.Proofs.Mul64.addN, Go.Proofs.Mul64.wrapN _ bd, Go.Proofs.Mul64.wrapN _ bb', Go.Proofs.Mul64.wrapN _ bt, Go.Proofs.Mul64.maskN _ bt, Go.Proofs.Mul64.wrapN _ bc', Go.Proofs.Mul64.wrapN _ bw, Go.Proofs.Mul64.wrapN _ ba', Go.Proofs.Mul64.wrapN _ bh1, Go.Proofs.Mul64.wrapN _ bh, Go.Proofs.Mul64.wrapM (x * y)]
  rw [hhi]
  go_ret2
  exact ⟨rfl, rfl⟩
theorem mul64_any (x y : Int) (hx : 0 ≤ x ∧ x < 18446744073709551616) (hy : 0 ≤ y ∧ y < 18446744073709551616) (w : World) :
    Calls Try.prog 80 #[.int .u64 x, .int .u64 y] w fun e w' => e = .returned (.tuple #[.int .u64 (x * y / 18446744073709551616), .int .u64 (x * y % 18446744073709551616)]) ∧ w = w' := by
  obtain ⟨a, rfl⟩ := Int.eq_ofNat_of_zero_le hx.1
  obtain ⟨b, rfl⟩ := Int.eq_ofNat_of_zero_le hy.1
  refine (mul64_nat a b (by omega) (by omega) w).mono fun e w' h => ⟨h.1.trans ?_, h.2⟩
  rw [← Int.natCast_mul]
  rfl

set_option maxHeartbeats 1000000 in
theorem product_any (n t : Int) (w : World) (h : R64 n) (t0 : 0 ≤ t) (t1 : t ≤ 1073741824) :
    Calls Try.prog 77 #[.int .i64 n, .int .i64 t] w fun e w' => e = .returned (sumV (n * t)) ∧ Below w.heap.size w w' := by
  have Hl := Lib.hid (mul_lo n t)
  have Hh := Lib.hid (mul_hi n t h)
  have hw : IntKind.u64.wrap n = n % 18446744073709551616 := IntKind.wrap_u64 n
  unfold R64 at h
  obtain ⟨h0, h1⟩ := h
  obtain ⟨u, hu⟩ : ∃ u, n % 18446744073709551616 = u := ⟨_, rfl⟩
  have u0 : 0 ≤ u := by omega
  have u1 : u < 18446744073709551616 := by omega
  rw [hu] at hw Hl Hh
  clear hu
  have hp0 : 0 ≤ u * t := Int.mul_nonneg u0 t0
  have hp1 : u * t ≤ 18446744073709551615 * t := Int.mul_le_mul_of_nonneg_right (by omega) t0
  obtain ⟨q, hq⟩ : ∃ q, u * t / 18446744073709551616 = q := ⟨_, rfl⟩
  obtain ⟨r, hr⟩ : ∃ r, u * t % 18446744073709551616 = r := ⟨_, rfl⟩
  have q0 : 0 ≤ q := by omega
  have q1 : q ≤ 1073741824 := by omega
  have Hq := Lib.hid hq
  have Hr := Lib.hid hr
  rw [hr] at Hl
  rw [hq] at Hh
  clear hq hr hp0 hp1
  by_cases hn : n < 0
  · rw [if_pos hn] at Hh
    go_enter Try.func77, Try.ntmps77
    go_wp2_with fail
    refine (mul64_any u t ⟨u0, u1⟩ ⟨t0, by omega⟩ _).mono ?_
    rintro e w1 ⟨rfl, rfl⟩
    rw [Hq.out, Hr.out]
    go_wp2
    refine bodyPost_ret (v := .agg #[.int .i64 (q - t), .int .u64 r]) (by simp [results, Try.results77, go_sem]) rfl ⟨?_, ((Below.refl _ _).alloc (Nat.le_refl _) _).alloc (by simp) _⟩
    unfold sumV
    rw [← Hh.out, ← Hl.out, IntWalk.wrap64_in q ⟨by omega, by omega⟩, IntWalk.wrap64_in (q - t) ⟨by omega, by omega⟩]
  · rw [if_neg hn] at Hh
    go_enter Try.func77, Try.ntmps77
    go_wp2_with fail
    refine (mul64_any u t ⟨u0, u1⟩ ⟨t0, by omega⟩ _).mono ?_
    rintro e w1 ⟨rfl, rfl⟩
    rw [Hq.out, Hr.out]
    go_wp2
    refine bodyPost_ret (v := .agg #[.int .i64 q, .int .u64 r]) (by simp [results, Try.results77, go_sem]) rfl ⟨?_, ((Below.refl _ _).alloc (Nat.le_refl _) _).alloc (by simp) _⟩
    unfold sumV
    rw [← Hh.out, ← Hl.out, Int.sub_zero, IntWalk.wrap64_in q ⟨by omega, by omega⟩, IntWalk.wrap64_in q ⟨by omega, by omega⟩]

set_option maxHeartbeats 1000000 in
theorem less_any (a b : Int) (w : World) (ha : R128 a) (hb : R128 b) :
    Calls Try.prog 78 #[sumV a, sumV b] w fun e w' => e = .returned (.bool (decide (a < b))) ∧ Below w.heap.size w w' := by
  have hl := hl_less a b ha hb
  have hbl := ((Below.refl w.heap.size w).alloc (Nat.le_refl _) (.cells #[.int .i64 (hiI a), .int .u64 (loI a)] 108)).alloc (by simp) (.cells #[.int .i64 (hiI b), .int .u64 (loI b)] 108)
  unfold sumV
  generalize hiI a = h1 at *
  generalize hiI b = h2 at *
  generalize loI a = l1 at *
  generalize loI b = l2 at *
  by_cases c1 : h1 < h2
  · have Hr := Lib.hid (show decide (a < b) = true from decide_eq_true (hl.1 (.inl c1)))
    have d1 : decide (h1 < h2) = true := decide_eq_true c1
    clear hl
    go_enter Try.func78, Try.ntmps78
    go_wp2
    go_ret
    exact ⟨by rw [Hr.out]; rfl, hbl⟩
  · have d1 : decide (h1 < h2) = false := decide_eq_false c1
    by_cases c2 : h1 = h2
    · subst c2
      have d2 : decide (h1 < h1) = false := decide_eq_false (by omega)
      by_cases c3 : l1 < l2
      · have Hr := Lib.hid (show decide (a < b) = true from decide_eq_true (hl.1 (.inr ⟨rfl, c3⟩)))
        have d3 : decide (l1 < l2) = true := decide_eq_true c3
        clear hl c1 d1
        go_enter Try.func78, Try.ntmps78
        go_wp2
        go_ret
        exact ⟨by rw [Hr.out]; rfl, hbl⟩
      · have Hr := Lib.hid (show decide (a < b) = false from decide_eq_false (fun h => by rcases hl.2 h with h | ⟨_, h⟩ <;> omega))
        have d3 : decide (l1 < l2) = false := decide_eq_false c3
        clear hl c1 d1
        go_enter Try.func78, Try.ntmps78
        go_wp2
        go_ret
        exact ⟨by rw [Hr.out]; rfl, hbl⟩
    · have Hr := Lib.hid (show decide (a < b) = false from decide_eq_false (fun h => by rcases hl.2 h with h | ⟨h, _⟩ <;> omega))
      have d2 : (h1 == h2) = false := beq_eq_false_iff_ne.2 c2
      clear hl
      go_enter Try.func78, Try.ntmps78
      go_wp2
      go_ret
      exact ⟨by rw [Hr.out]; rfl, hbl⟩

/-- A reduction. -/
def redV (c i v le mo : Int) : Value := .agg #[.int .i64 c, .int .i64 i, .int .i64 (hiI v), .int .u64 (loI v), .int .i64 le, .int .i64 mo]

set_option maxHeartbeats 1000000 in
theorem total_any (c i v le mo : Int) (w : World) :
    Calls Try.prog 66 #[redV c i v le mo] w fun e w' => e = .returned (sumV v) ∧ Below w.heap.size w w' := by
  unfold redV
  go_enter Try.func66, Try.ntmps66
  go_wp2
  exact bodyPost_ret (v := .agg #[.int .i64 (hiI v), .int .u64 (loI v)]) (by simp [results, Try.results66, go_sem]) rfl ⟨rfl, ((Below.refl _ _).alloc (Nat.le_refl _) _).alloc (by simp) _⟩

end Go.Proofs.Ytnfohlabmidliaa
/-
  Package monoid: which reductions may be.
-/
namespace Go.Proofs.Ytnfohlabmidliaa
open Go.RowKit
attribute [local go_sem ↓] Go.wp_at_zero Go.wp_at_succ

theorem mnew_later {w w1 : World} {C : Array Value} {t : TypeId} (hb : Below (w.alloc (.cells C t)).heap.size (w.alloc (.cells C t)) w1) (k : Nat) {v : Value} (hk : C[k]? = some v) : w1.cell? ⟨w.heap.size, k, none⟩ = some v :=
  (hb.cell (p := ⟨w.heap.size, k, none⟩) (by simp)).trans ((World.cell?_alloc_new w C t k).trans hk)
theorem mkept_later {w w1 : World} (hb : Below w.heap.size w w1) {p : Addr} {v : Value} (h : w.cell? p = some v) : w1.cell? p = some v :=
  (hb.cell (p := p) (World.block_lt_of_cell? w _ h)).trans h
theorem mS_call {W0 w1 w2 : World} {B : Nat} (hb : Below B w1 w2) (h : Below W0.heap.size W0 w1) (hB : B = w1.heap.size) : Below W0.heap.size W0 w2 := h.trans (hb.mono (by rw [hB]; exact h.size))
theorem new_two {w w1 : World} {a b : Value} {t : TypeId} {B : Nat} (hb : Below B (w.alloc (.cells #[a, b] t)) w1) (hB : B = (w.alloc (.cells #[a, b] t)).heap.size) :
    w1.cell? ⟨w.heap.size, 0, none⟩ = some a ∧ w1.cell? ⟨w.heap.size, 1, none⟩ = some b ∧ w1.frozen? ⟨w.heap.size, 0, none⟩ = false ∧ w1.frozen? ⟨w.heap.size, 1, none⟩ = false := by
  subst hB
  refine ⟨mnew_later hb 0 rfl, mnew_later hb 1 rfl, ?_, ?_⟩
  · rw [hb.frozen (p := ⟨w.heap.size, 0, none⟩) (by simp)]; go_simp
  · rw [hb.frozen (p := ⟨w.heap.size, 1, none⟩) (by simp)]; go_simp
theorem keep_two {w w1 : World} {p q : Addr} {a b : Value} {B : Nat} (hb : Below B w w1) (hB : B = w.heap.size) (h : w.cell? p = some a ∧ w.cell? q = some b ∧ w.frozen? p = false ∧ w.frozen? q = false) :
    w1.cell? p = some a ∧ w1.cell? q = some b ∧ w1.frozen? p = false ∧ w1.frozen? q = false := by
  subst hB
  exact ⟨mkept_later hb h.1, mkept_later hb h.2.1, (hb.frozen (World.block_lt_of_cell? w _ h.1)).trans h.2.2.1, (hb.frozen (World.block_lt_of_cell? w _ h.2.1)).trans h.2.2.2⟩
theorem S_set2 {W0 w1 : World} {g : Nat} {a b : Nat} {x y : Value} (h : Below W0.heap.size W0 w1) (hg : W0.heap.size ≤ g) : Below W0.heap.size W0 ((w1.setCell ⟨g, a, none⟩ x).setCell ⟨g, b, none⟩ y) := (h.setCell hg x).setCell hg y
theorem mS_alloc {W0 w1 : World} {o : Obj} (h : Below W0.heap.size W0 w1) : Below W0.heap.size W0 (w1.alloc o) := h.alloc h.size _

theorem plus_agg (a b : Int) (w : World) : Calls Try.prog 69 #[.agg #[.int .i64 (hiI a), .int .u64 (loI a)], sumV b] w fun e w' => e = .returned (.agg #[.int .i64 (hiI (a + b)), .int .u64 (loI (a + b))]) ∧ Below w.heap.size w w' := plus_any a b w
theorem less_agg (a b : Int) (w : World) (ha : R128 a) (hb : R128 b) : Calls Try.prog 78 #[.agg #[.int .i64 (hiI a), .int .u64 (loI a)], .agg #[.int .i64 (hiI b), .int .u64 (loI b)]] w fun e w' => e = .returned (.bool (decide (a < b))) ∧ Below w.heap.size w w' := less_any a b w ha hb
theorem total_agg (c i v le mo : Int) (w : World) : Calls Try.prog 66 #[.agg #[.int .i64 c, .int .i64 i, .int .i64 (hiI v), .int .u64 (loI v), .int .i64 le, .int .i64 mo]] w fun e w' => e = .returned (.agg #[.int .i64 (hiI v), .int .u64 (loI v)]) ∧ Below w.heap.size w w' := total_any c i v le mo w
theorem sumOf_agg (n : Int) (w : World) (h : R64 n) : Calls Try.prog 67 #[.int .i64 n] w fun e w' => e = .returned (.agg #[.int .i64 (hiI n), .int .u64 (loI n)]) ∧ Below w.heap.size w w' := sumOf_any n w h

set_option maxRecDepth 20000 in
set_option maxHeartbeats 2000000 in
theorem between_any (c i v le mo : Int) (w : World) (hv : R128 v) (hle : R64 le) (hmo : R64 mo) (i0 : 2 ≤ i) (i1 : i ≤ 1073741824) :
    Calls Try.prog 68 #[redV c i v le mo] w fun e w' => e = .returned (.bool (decide (le + mo + le * (i - 2) ≤ v) && decide (v ≤ le + mo + mo * (i - 2)))) ∧ Below w.heap.size w w' := by
  obtain ⟨W1, hW1⟩ : ∃ W1, w.alloc (.cells #[.int .i64 c, .int .i64 i, .int .i64 (hiI v), .int .u64 (loI v), .int .i64 le, .int .i64 mo] 37) = W1 := ⟨_, rfl⟩
  have hb1 : Below w.heap.size w W1 := by rw [← hW1]; exact (Below.refl _ _).alloc (Nat.le_refl _) _
  have c0 : ∀ W, Below W1.heap.size W1 W → W.cell? ⟨w.heap.size, 0, none⟩ = some (.int .i64 c) := fun W h => mnew_later (by rw [hW1]; exact h) 0 rfl
  have c1 : ∀ W, Below W1.heap.size W1 W → W.cell? ⟨w.heap.size, 1, none⟩ = some (.int .i64 i) := fun W h => mnew_later (by rw [hW1]; exact h) 1 rfl
  have c2 : ∀ W, Below W1.heap.size W1 W → W.cell? ⟨w.heap.size, 2, none⟩ = some (.int .i64 (hiI v)) := fun W h => mnew_later (by rw [hW1]; exact h) 2 rfl
  have c3 : ∀ W, Below W1.heap.size W1 W → W.cell? ⟨w.heap.size, 3, none⟩ = some (.int .u64 (loI v)) := fun W h => mnew_later (by rw [hW1]; exact h) 3 rfl
  have c4 : ∀ W, Below W1.heap.size W1 W → W.cell? ⟨w.heap.size, 4, none⟩ = some (.int .i64 le) := fun W h => mnew_later (by rw [hW1]; exact h) 4 rfl
  have c5 : ∀ W, Below W1.heap.size W1 W → W.cell? ⟨w.heap.size, 5, none⟩ = some (.int .i64 mo) := fun W h => mnew_later (by rw [hW1]; exact h) 5 rfl
  unfold redV
  go_enter Try.func68, Try.ntmps68
  go_wp2_with fail
  clear hW1
  go_upto_region 1 with fail
  go_cut [3] (fun s3 wx => ∃ g : Nat, s3 = .pointer (some ⟨g, 0, none⟩) ∧ Below W1.heap.size W1 wx ∧ wx.cell? ⟨g, 0, none⟩ = some (.int .i64 (hiI (le + mo))) ∧ wx.cell? ⟨g, 1, none⟩ = some (.int .u64 (loI (le + mo))))
  case first =>
    go_region_held3 (fun w' => Below W1.heap.size W1 w') (first | assumption | exact (Below.refl _ _).drew | exact ((Below.refl _ _).alloc (Nat.le_refl _) _).drew | (refine mS_alloc ?_; assumption) | (refine mS_call ?_ ?_ ?_; assumption; assumption; rfl) | (refine S_set2 ?_ ?_; assumption; first | exact Nat.le_refl _ | exact Below.size (by assumption))) (first
      | (go_at_call 67; with_reducible refine (sumOf_any le _ hle).mono ?_; rintro e wA ⟨rfl, hbA⟩; have hSA := mS_call hbA (by assumption) rfl; (first | (have kk := keep_two hbA rfl kk; obtain ⟨k0, k1, f0, f1⟩ := id kk) | (have kk := new_two hbA rfl; obtain ⟨k0, k1, f0, f1⟩ := id kk) | (have kk := new_two (below_undrew hbA) rfl; obtain ⟨k0, k1, f0, f1⟩ := id kk) | skip))
      | (go_at_call 67; with_reducible refine (sumOf_any mo _ hmo).mono ?_; rintro e wB ⟨rfl, hbB⟩; have hSB := mS_call hbB (by assumption) rfl; (first | (have kk := keep_two hbB rfl kk; obtain ⟨k0, k1, f0, f1⟩ := id kk) | (have kk := new_two hbB rfl; obtain ⟨k0, k1, f0, f1⟩ := id kk) | (have kk := new_two (below_undrew hbB) rfl; obtain ⟨k0, k1, f0, f1⟩ := id kk) | skip))
      | (go_at_call 69; with_reducible refine (plus_any le mo _).mono ?_; rintro e wC ⟨rfl, hbC⟩; have hSC := mS_call hbC (by assumption) rfl; (first | (have kk := keep_two hbC rfl kk; obtain ⟨k0, k1, f0, f1⟩ := id kk) | (have kk := new_two hbC rfl; obtain ⟨k0, k1, f0, f1⟩ := id kk) | (have kk := new_two (below_undrew hbC) rfl; obtain ⟨k0, k1, f0, f1⟩ := id kk) | skip); unfold sumV))
    all_goals
      go_wp2_with fail
      go_meet
      case rel => exact ⟨_, rfl, by assumption, by go_simp, by go_simp⟩
  case rest =>
    obtain ⟨g3, rfl, hb2, d0, d1⟩ := hcut
    have d0 : ∀ W, Below wc.heap.size wc W → W.cell? ⟨g3, 0, none⟩ = some (.int .i64 (hiI (le + mo))) := fun W h => mkept_later h d0
    have d1 : ∀ W, Below wc.heap.size wc W → W.cell? ⟨g3, 1, none⟩ = some (.int .u64 (loI (le + mo))) := fun W h => mkept_later h d1
    have c0 : ∀ W, Below wc.heap.size wc W → W.cell? ⟨w.heap.size, 0, none⟩ = some (.int .i64 c) := fun W h => c0 W (hb2.trans (h.mono hb2.size))
    have c1 : ∀ W, Below wc.heap.size wc W → W.cell? ⟨w.heap.size, 1, none⟩ = some (.int .i64 i) := fun W h => c1 W (hb2.trans (h.mono hb2.size))
    have c2 : ∀ W, Below wc.heap.size wc W → W.cell? ⟨w.heap.size, 2, none⟩ = some (.int .i64 (hiI v)) := fun W h => c2 W (hb2.trans (h.mono hb2.size))
    have c3 : ∀ W, Below wc.heap.size wc W → W.cell? ⟨w.heap.size, 3, none⟩ = some (.int .u64 (loI v)) := fun W h => c3 W (hb2.trans (h.mono hb2.size))
    have c4 : ∀ W, Below wc.heap.size wc W → W.cell? ⟨w.heap.size, 4, none⟩ = some (.int .i64 le) := fun W h => c4 W (hb2.trans (h.mono hb2.size))
    have c5 : ∀ W, Below wc.heap.size wc W → W.cell? ⟨w.heap.size, 5, none⟩ = some (.int .i64 mo) := fun W h => c5 W (hb2.trans (h.mono hb2.size))
    have hb1 := hb1.trans (hb2.mono hb1.size)
    clear hb2
    obtain ⟨W2, hW2⟩ : ∃ W2, W2 = wc := ⟨_, rfl⟩
    subst hW2
    have ht0 : 0 ≤ i - 2 := by omega
    have ht1 : i - 2 ≤ 1073741824 := by omega
    have hw2 : IntKind.i64.wrap (i - 2) = i - 2 := by rw [IntKind.wrap_i64]; omega
    go_upto_region 2 with fail
    go_cut [4] (fun s3 wx => ∃ g : Nat, s3 = .pointer (some ⟨g, 0, none⟩) ∧ Below W2.heap.size W2 wx ∧ wx.cell? ⟨g, 0, none⟩ = some (.int .i64 (hiI (le + mo + le * (i - 2)))) ∧ wx.cell? ⟨g, 1, none⟩ = some (.int .u64 (loI (le + mo + le * (i - 2)))))
    case first =>
      go_region_held3 (fun w' => Below W2.heap.size W2 w') (first | assumption | exact (Below.refl _ _).drew | exact ((Below.refl _ _).alloc (Nat.le_refl _) _).drew | (refine mS_alloc ?_; assumption) | (refine mS_call ?_ ?_ ?_; assumption; assumption; rfl) | (refine S_set2 ?_ ?_; assumption; first | exact Nat.le_refl _ | exact Below.size (by assumption))) (first
        | (go_at_call 77; with_reducible refine (product_any le (i - 2) _ hle ht0 ht1).mono ?_; rintro e wA ⟨rfl, hbA⟩; have hSA := mS_call hbA (by assumption) rfl; (first | (have kk := keep_two hbA rfl kk; obtain ⟨k0, k1, f0, f1⟩ := id kk) | (have kk := new_two hbA rfl; obtain ⟨k0, k1, f0, f1⟩ := id kk) | (have kk := new_two (below_undrew hbA) rfl; obtain ⟨k0, k1, f0, f1⟩ := id kk) | skip))
        | (go_at_call 69; with_reducible refine (plus_agg (le + mo) (le * (i - 2)) _).mono ?_; rintro e wC ⟨rfl, hbC⟩; have hSC := mS_call hbC (by assumption) rfl; (first | (have kk := keep_two hbC rfl kk; obtain ⟨k0, k1, f0, f1⟩ := id kk) | (have kk := new_two hbC rfl; obtain ⟨k0, k1, f0, f1⟩ := id kk) | (have kk := new_two (below_undrew hbC) rfl; obtain ⟨k0, k1, f0, f1⟩ := id kk) | skip)))
      all_goals
        go_wp2_with fail
        go_meet
        case rel => exact ⟨_, rfl, by assumption, by go_simp, by go_simp⟩
    case rest =>
      obtain ⟨g4, rfl, hb3, e0, e1⟩ := hcut
      have e0 : ∀ W, Below wc.heap.size wc W → W.cell? ⟨g4, 0, none⟩ = some (.int .i64 (hiI (le + mo + le * (i - 2)))) := fun W h => mkept_later h e0
      have e1 : ∀ W, Below wc.heap.size wc W → W.cell? ⟨g4, 1, none⟩ = some (.int .u64 (loI (le + mo + le * (i - 2)))) := fun W h => mkept_later h e1
      have d0 : ∀ W, Below wc.heap.size wc W → W.cell? ⟨g3, 0, none⟩ = some (.int .i64 (hiI (le + mo))) := fun W h => d0 W (hb3.trans (h.mono hb3.size))
      have d1 : ∀ W, Below wc.heap.size wc W → W.cell? ⟨g3, 1, none⟩ = some (.int .u64 (loI (le + mo))) := fun W h => d1 W (hb3.trans (h.mono hb3.size))
      have c0 : ∀ W, Below wc.heap.size wc W → W.cell? ⟨w.heap.size, 0, none⟩ = some (.int .i64 c) := fun W h => c0 W (hb3.trans (h.mono hb3.size))
      have c1 : ∀ W, Below wc.heap.size wc W → W.cell? ⟨w.heap.size, 1, none⟩ = some (.int .i64 i) := fun W h => c1 W (hb3.trans (h.mono hb3.size))
      have c2 : ∀ W, Below wc.heap.size wc W → W.cell? ⟨w.heap.size, 2, none⟩ = some (.int .i64 (hiI v)) := fun W h => c2 W (hb3.trans (h.mono hb3.size))
      have c3 : ∀ W, Below wc.heap.size wc W → W.cell? ⟨w.heap.size, 3, none⟩ = some (.int .u64 (loI v)) := fun W h => c3 W (hb3.trans (h.mono hb3.size))
      have c4 : ∀ W, Below wc.heap.size wc W → W.cell? ⟨w.heap.size, 4, none⟩ = some (.int .i64 le) := fun W h => c4 W (hb3.trans (h.mono hb3.size))
      have c5 : ∀ W, Below wc.heap.size wc W → W.cell? ⟨w.heap.size, 5, none⟩ = some (.int .i64 mo) := fun W h => c5 W (hb3.trans (h.mono hb3.size))
      have hb1 := hb1.trans (hb3.mono hb1.size)
      clear hb3
      obtain ⟨W3, hW3⟩ : ∃ W3, W3 = wc := ⟨_, rfl⟩
      subst hW3
      go_upto_region 3 with fail
      go_cut [5] (fun s3 wx => ∃ g : Nat, s3 = .pointer (some ⟨g, 0, none⟩) ∧ Below W3.heap.size W3 wx ∧ wx.cell? ⟨g, 0, none⟩ = some (.int .i64 (hiI (le + mo + mo * (i - 2)))) ∧ wx.cell? ⟨g, 1, none⟩ = some (.int .u64 (loI (le + mo + mo * (i - 2)))))
      case first =>
        go_region_held3 (fun w' => Below W3.heap.size W3 w') (first | assumption | exact (Below.refl _ _).drew | exact ((Below.refl _ _).alloc (Nat.le_refl _) _).drew | (refine mS_alloc ?_; assumption) | (refine mS_call ?_ ?_ ?_; assumption; assumption; rfl) | (refine S_set2 ?_ ?_; assumption; first | exact Nat.le_refl _ | exact Below.size (by assumption))) (first
          | (go_at_call 77; with_reducible refine (product_any mo (i - 2) _ hmo ht0 ht1).mono ?_; rintro e wA ⟨rfl, hbA⟩; have hSA := mS_call hbA (by assumption) rfl; (first | (have kk := keep_two hbA rfl kk; obtain ⟨k0, k1, f0, f1⟩ := id kk) | (have kk := new_two hbA rfl; obtain ⟨k0, k1, f0, f1⟩ := id kk) | (have kk := new_two (below_undrew hbA) rfl; obtain ⟨k0, k1, f0, f1⟩ := id kk) | skip))
          | (go_at_call 69; with_reducible refine (plus_agg (le + mo) (mo * (i - 2)) _).mono ?_; rintro e wC ⟨rfl, hbC⟩; have hSC := mS_call hbC (by assumption) rfl; (first | (have kk := keep_two hbC rfl kk; obtain ⟨k0, k1, f0, f1⟩ := id kk) | (have kk := new_two hbC rfl; obtain ⟨k0, k1, f0, f1⟩ := id kk) | (have kk := new_two (below_undrew hbC) rfl; obtain ⟨k0, k1, f0, f1⟩ := id kk) | skip)))
        all_goals
          go_wp2_with fail
          go_meet
          case rel => exact ⟨_, rfl, by assumption, by go_simp, by go_simp⟩
      case rest =>
        obtain ⟨g5, rfl, hb4, f0, f1⟩ := hcut
        have e0 := e0 wc hb4
        have e1 := e1 wc hb4
        have c0 := c0 wc hb4
        have c1 := c1 wc hb4
        have c2 := c2 wc hb4
        have c3 := c3 wc hb4
        have c4 := c4 wc hb4
        have c5 := c5 wc hb4
        have hb1 := hb1.trans (hb4.mono hb1.size)
        have s1 := hb1.size
        clear hb4 d0 d1
        have l1 := mul_bound le (i - 2) hle ht0 ht1
        have l2 := mul_bound mo (i - 2) hmo ht0 ht1
        have r1 : R128 (le + mo + le * (i - 2)) := by unfold R64 at hle hmo; unfold R128; omega
        have r2 : R128 (le + mo + mo * (i - 2)) := by unfold R64 at hle hmo; unfold R128; omega
        clear l1 l2
        obtain ⟨low, hlow⟩ : ∃ low, low = le + mo + le * (i - 2) := ⟨_, rfl⟩
        obtain ⟨high, hhigh⟩ : ∃ high, high = le + mo + mo * (i - 2) := ⟨_, rfl⟩
        rw [← hlow] at e0 e1 r1
        rw [← hhigh] at f0 f1 r2
        have Hlow := Lib.hid hlow
        have Hhigh := Lib.hid hhigh
        clear hlow hhigh hw2
        go_wp2_with fail
        refine (total_agg c i v le mo _).mono ?_
        rintro e w1 ⟨rfl, hb5⟩
        have e0 := cell_keep (mkept_later hb5 e0) (.cells #[.int .i64 (hiI v), .int .u64 (loI v)] 110)
        have e1 := cell_keep (mkept_later hb5 e1) (.cells #[.int .i64 (hiI v), .int .u64 (loI v)] 110)
        have f0 := cell_keep (mkept_later hb5 f0) (.cells #[.int .i64 (hiI v), .int .u64 (loI v)] 110)
        have f1 := cell_keep (mkept_later hb5 f1) (.cells #[.int .i64 (hiI v), .int .u64 (loI v)] 110)
        have hb6 := (hb1.trans (hb5.mono s1)).alloc (by have := hb5.size; omega) (.cells #[.int .i64 (hiI v), .int .u64 (loI v)] 110)
        have s6 := hb6.size
        clear hb5 c0 c1 c2 c3 c4 c5 hb1
        by_cases h1 : v < low
        · have Hr := Lib.hid (show (decide (le + mo + le * (i - 2) ≤ v) && decide (v ≤ le + mo + mo * (i - 2))) = false by rw [← Hlow.out, decide_eq_false (by omega)]; rfl)
          have Hd := Lib.hid (show decide (v < low) = true from decide_eq_true h1)
          clear h1
          go_wp2_with fail
          refine (less_agg v low _ hv r1).mono ?_
          rintro e w2 ⟨rfl, hb7⟩
          rw [Hd.out]
          go_wp2
          go_ret
          exact ⟨by rw [Hr.out]; rfl, hb6.trans (hb7.mono s6)⟩
        · have Hd := Lib.hid (show decide (v < low) = false from decide_eq_false h1)
          obtain ⟨z, Hz⟩ : ∃ z, Hid (decide (high < v) = z) := ⟨_, Lib.hid rfl⟩
          have Hr := Lib.hid (show (decide (le + mo + le * (i - 2) ≤ v) && decide (v ≤ le + mo + mo * (i - 2))) = !z by
            rw [← Hlow.out, ← Hhigh.out, ← Hz.out, decide_eq_true (by omega), Bool.true_and]
            by_cases h2 : high < v
            · rw [decide_eq_true h2, decide_eq_false (by omega)]; rfl
            · rw [decide_eq_false h2, decide_eq_true (by omega)]; rfl)
          clear h1
          go_wp2_with fail
          refine (less_agg v low _ hv r1).mono ?_
          rintro e w2 ⟨rfl, hb7⟩
          rw [Hd.out]
          have n0 := mkept_later hb7 (World.cell?_alloc_new w1 #[.int .i64 (hiI v), .int .u64 (loI v)] 110 0)
          have n1 := mkept_later hb7 (World.cell?_alloc_new w1 #[.int .i64 (hiI v), .int .u64 (loI v)] 110 1)
          have f0 := mkept_later hb7 f0
          have f1 := mkept_later hb7 f1
          have hb8 := hb6.trans (hb7.mono s6)
          have s8 := hb8.size
          clear hb7
          go_wp2_with fail
          refine (less_agg high v _ r2 hv).mono ?_
          rintro e w3 ⟨rfl, hb9⟩
          rw [Hz.out]
          go_wp2
          go_ret
          exact ⟨by rw [Hr.out]; rfl, hb8.trans (hb9.mono s8)⟩
end Go.Proofs.Ytnfohlabmidliaa
