import Derived.WalkKit
import Derived.WalkSpells
import Derived.WalkLawsBesides
import Derived.Laws.CopyOwn
import Derived.Maps.AppendAt
import Derived.Deep.AppendLies
import Derived.Deep.Draws
import Derived.Test.YtkbcgcokokddlaaRows
import Derived.ProofKit
import Derived.OpenShut
import Derived.ShutString
import Derived.ChangeOld
import Derived.Below
import Derived.Laws.IdiomArrays
/-
  Words for memory used by all contracts of this seat: what a slice shows, kept over draws, new blocks, stores elsewhere; byte slices; small facts on worlds. No program in sight.
-/
namespace Go.Proofs.Ytkbcgcokokddlaa
open Go.RowKit

theorem addr_add (b off j : Nat) : (⟨b, off, none⟩ : Addr).add j = ⟨b, off + j, none⟩ := by
  unfold Addr.add; split <;> simp_all

theorem cell_set {w : World} {p : Addr} {v : Value} (h : w.cell? p = some v) (u : Value) : (w.setCell p u).cell? p = some u := World.cell?_setCell_same w p u h
theorem frozen_set (w : World) (p q : Addr) (u : Value) : (w.setCell p u).frozen? q = w.frozen? q := by simp
theorem size_set (w : World) (p : Addr) (u : Value) : (w.setCell p u).heap.size = w.heap.size := by simp [World.setCell]

theorem cell_keep {w : World} {a : Addr} {v : Value} (h : w.cell? a = some v) (o : Obj) : (w.alloc o).cell? a = some v := by
  rw [World.cell?_alloc_lt _ _ _ (World.block_lt_of_cell? w _ h)]
  exact h
theorem frozen_keep {w : World} {a : Addr} {v : Value} (h : w.cell? a = some v) (o : Obj) : (w.alloc o).frozen? a = w.frozen? a :=
  World.frozen?_alloc_old w o a (Nat.ne_of_lt (World.block_lt_of_cell? w _ h))
theorem below_undrew {B : Nat} {w w' : World} (h : Below B w.drew w') : Below B w w' := ⟨h.os, h.tape, h.output, h.size, h.block⟩
theorem below_drewN {B : Nat} {w w' : World} (h : Below B w w') (k : Nat) : Below B w (w'.drewN k) := ⟨h.os, h.tape, h.output, h.size, h.block⟩
theorem below_undrewN {B k : Nat} {w w' : World} (h : Below B (w.drewN k) w') : Below B w w' := ⟨h.os, h.tape, h.output, h.size, h.block⟩

/-- The slice value with address A and n elements of 'size' cells each shows the cells xs, in a block below B. -/
def Shows (w : World) (B size : Nat) (A : Option Addr) (n : Nat) (xs : List Value) : Prop :=
  xs.length = n * size ∧ (0 < n → ∃ b off, A = some ⟨b, off, none⟩ ∧ b < B ∧ ∀ j u, xs[j]? = some u → w.cell? ⟨b, off + j, none⟩ = some u)

section
variable {w w' : World} {B B' size n : Nat} {A : Option Addr} {xs : List Value}
theorem Shows.zero (A : Option Addr) : Shows w B size A 0 [] := ⟨by simp, fun h => absurd h (by omega)⟩
theorem Shows.keep (h : Shows w B size A n xs) (hk : ∀ p : Addr, p.block < B → w'.cell? p = w.cell? p) : Shows w' B size A n xs :=
  ⟨h.1, fun hn => by
    obtain ⟨b, off, e, hb, hc⟩ := h.2 hn
    exact ⟨b, off, e, hb, fun j u hu => (hk _ hb).trans (hc j u hu)⟩⟩
theorem Shows.more (h : Shows w B size A n xs) (hB : B ≤ B') : Shows w B' size A n xs :=
  ⟨h.1, fun hn => by
    obtain ⟨b, off, e, hb, hc⟩ := h.2 hn
    exact ⟨b, off, e, by omega, hc⟩⟩
theorem Shows.below (h : Shows w B size A n xs) (hb : Below B w w') : Shows w' B size A n xs := h.keep fun _ hp => hb.cell hp
theorem Shows.drew (h : Shows w B size A n xs) : Shows w.drew B size A n xs := h
theorem Shows.drewN (h : Shows w B size A n xs) (k : Nat) : Shows (w.drewN k) B size A n xs := h
theorem Shows.alloc (h : Shows w B size A n xs) (hB : B ≤ w.heap.size) (o : Obj) : Shows (w.alloc o) B size A n xs := h.keep fun p hp => World.cell?_alloc_lt w o p (by omega)
theorem Shows.setCell (h : Shows w B size A n xs) {p : Addr} (hB : B ≤ p.block) (u : Value) : Shows (w.setCell p u) B size A n xs :=
  h.keep fun q hq => World.cell?_setCell_other w p q u (fun e => by subst e; omega)
theorem Shows.cut (h : Shows w B size A n xs) {k cap : Nat} (hk : k ≤ n) (hc : n ≤ cap) :
    Shows w B size (if cap = k then A else A.map (·.add (k * size))) (n - k) (xs.drop (k * size)) := by
  refine ⟨by rw [List.length_drop, h.1, Nat.sub_mul], fun hn => ?_⟩
  obtain ⟨b, off, rfl, hb, hcell⟩ := h.2 (by omega)
  rw [if_neg (by omega)]
  refine ⟨b, off + k * size, by rw [Option.map_some, addr_add], hb, fun j u hu => ?_⟩
  rw [Nat.add_assoc]
  exact hcell _ u (by rw [← hu, List.getElem?_drop])
theorem Shows.first (h : Shows w B size A n xs) {k : Nat} (hk : k ≤ n) : Shows w B size A k (xs.take (k * size)) := by
  refine ⟨by rw [List.length_take, h.1]; exact Nat.min_eq_left (Nat.mul_le_mul_right _ hk), fun hn => ?_⟩
  obtain ⟨b, off, rfl, hb, hcell⟩ := h.2 (by omega)
  refine ⟨b, off, rfl, hb, fun j u hu => hcell j u ?_⟩
  rw [List.getElem?_take] at hu
  split at hu
  · exact hu
  · cases hu
theorem Shows.own {base : Nat} {e : TypeId} {c : Nat} (h : w.ownsRow base e size (.slice A n c) n xs) : Shows w w.heap.size size A n xs := by
  refine ⟨h.1, fun hn => ?_⟩
  obtain ⟨g, cap, hv, _, hlt⟩ := h.form hn
  have hA : A = some ⟨g, 0, none⟩ := by injection hv
  subst hA
  refine ⟨g, 0, rfl, hlt, fun j u hu => ?_⟩
  have := h.cells (g := g) rfl j u hu
  rwa [addr_add] at this
end

/-- A byte as a cell holds it. -/
def bv (x : UInt8) : Value := .int .u8 (x.toNat : Int)
/-- The byte at a place, as a number. -/
def at8 (l : List UInt8) (k : Nat) : Int := ((l.getD k 0).toNat : Int)
theorem at8_lo (l : List UInt8) (k : Nat) : 0 ≤ at8 l k := by unfold at8; omega
theorem at8_hi (l : List UInt8) (k : Nat) : at8 l k ≤ 255 := by unfold at8; have := (l.getD k 0).toNat_lt; omega
theorem at8_bv {l : List UInt8} {k : Nat} (h : k < l.length) : (l.map bv)[k]? = some (.int .u8 (at8 l k)) := by
  rw [List.getElem?_map, List.getElem?_eq_getElem h]
  unfold at8
  rw [List.getD_eq_getElem?_getD, List.getElem?_eq_getElem h]
  rfl
theorem at8_inj {l m : List UInt8} {k j : Nat} (h : at8 l k = at8 m j) : l.getD k 0 = m.getD j 0 := UInt8.toNat_inj.1 (Int.ofNat_inj.1 h)
theorem take_snoc (l : List UInt8) (k : Nat) (h : k < l.length) : l.take (k + 1) = l.take k ++ [l.getD k 0] := by
  rw [List.take_succ_eq_append_getElem h, List.getD_eq_getElem?_getD, List.getElem?_eq_getElem h]
  rfl
/-- A slice of bytes. -/
def Bytes (w : World) (B : Nat) (A : Option Addr) (n : Nat) (l : List UInt8) : Prop := Shows w B 1 A n (l.map bv)

section
variable {w w' : World} {B B' n : Nat} {A : Option Addr} {l : List UInt8}
theorem Bytes.len (h : Bytes w B A n l) : l.length = n := by have := h.1; simpa using this
theorem Bytes.zero (A : Option Addr) : Bytes w B A 0 [] := Shows.zero A
theorem Bytes.keep (h : Bytes w B A n l) (hk : ∀ p : Addr, p.block < B → w'.cell? p = w.cell? p) : Bytes w' B A n l := Shows.keep h hk
theorem Bytes.more (h : Bytes w B A n l) (hB : B ≤ B') : Bytes w B' A n l := Shows.more h hB
theorem Bytes.below (h : Bytes w B A n l) (hb : Below B w w') : Bytes w' B A n l := Shows.below h hb
theorem Bytes.drew (h : Bytes w B A n l) : Bytes w.drew B A n l := h
theorem Bytes.drewN (h : Bytes w B A n l) (k : Nat) : Bytes (w.drewN k) B A n l := h
theorem Bytes.alloc (h : Bytes w B A n l) (hB : B ≤ w.heap.size) (o : Obj) : Bytes (w.alloc o) B A n l := Shows.alloc h hB o
theorem Bytes.setCell (h : Bytes w B A n l) {p : Addr} (hB : B ≤ p.block) (u : Value) : Bytes (w.setCell p u) B A n l := Shows.setCell h hB u
theorem Bytes.cut (h : Bytes w B A n l) {k cap : Nat} (hk : k ≤ n) (hc : n ≤ cap) : Bytes w B (if cap = k then A else A.map (·.add k)) (n - k) (l.drop k) := by
  have := Shows.cut h hk hc
  unfold Bytes
  simpa [List.map_drop] using this
theorem Bytes.first (h : Bytes w B A n l) {k : Nat} (hk : k ≤ n) : Bytes w B A k (l.take k) := by
  have := Shows.first h hk
  unfold Bytes
  simpa [List.map_take] using this
theorem Bytes.cell (h : Bytes w B A n l) {k : Nat} (hk : k < n) : ∃ b off, A = some ⟨b, off, none⟩ ∧ b < B ∧ w.cell? ⟨b, off + k, none⟩ = some (.int .u8 (at8 l k)) := by
  obtain ⟨b, off, e, hb, hc⟩ := h.2 (by omega)
  exact ⟨b, off, e, hb, hc k _ (at8_bv (by have := h.len; omega))⟩
theorem Bytes.own {base : Nat} {e : TypeId} {c : Nat} (h : w.ownsRow base e 1 (.slice A n c) n (l.map bv)) : Bytes w w.heap.size A n l := Shows.own h
end

theorem bytes_new (w : World) (l : List UInt8) (C : Array Value) (t : TypeId) (fr : Nat × Nat) (hC : C.toList = l.map bv) : Bytes (w.alloc (.cells C t fr)) (w.heap.size + 1) (some ⟨w.heap.size, 0, none⟩) l.length l :=
  ⟨by simp, fun _ => ⟨w.heap.size, 0, rfl, by omega, fun j u hu => by
    rw [cell_of_row _ _ _ _ _ _ (heap_alloc_new w _), Nat.zero_add]
    rw [← hC] at hu
    simpa using hu⟩⟩

/-- What a call that gives a slice of bytes of its own hands back. -/
def GivesBytes (e8 : TypeId) (l : List UInt8) (W : World) (e : Ending) (w' : World) : Prop :=
  ∃ A n c, e = .returned (.slice A n c) ∧ w'.ownsRow W.heap.size e8 1 (.slice A n c) n (l.map bv) ∧ Below W.heap.size W w'
theorem own_form {w : World} {base : Nat} {e : TypeId} {v : Value} {n : Nat} {xs : List Value} {size : Nat} (h : w.ownsRow base e size v n xs) : ∃ A c, v = .slice A n c ∧ n ≤ c ∧ c ≤ maxLen := by
  rcases h.2 with ⟨rfl, rfl⟩ | ⟨g, cap, cur, rfl, _, _, h1, h2, _⟩
  · exact ⟨none, 0, rfl, Nat.le_refl _, by unfold maxLen; omega⟩
  · exact ⟨_, cap, rfl, h1, h2⟩
theorem own_below {w w' : World} {base : Nat} {e : TypeId} {v : Value} {n : Nat} {xs : List Value} {size : Nat} (h : w.ownsRow base e size v n xs) (hb : Below w.heap.size w w') : w'.ownsRow base e size v n xs :=
  h.kept (row := none) ⟨hb.os, hb.tape, hb.output, hb.size, fun k hk _ => hb.block k hk⟩ (by cases hv : v.ownBlock <;> simp)
theorem own_base {w : World} {base base' : Nat} {e : TypeId} {v : Value} {n : Nat} {xs : List Value} {size : Nat} (h : w.ownsRow base e size v n xs) (hb : base' ≤ base) : w.ownsRow base' e size v n xs := by
  refine ⟨h.1, ?_⟩
  rcases h.2 with h2 | ⟨g, cap, cur, hv, hg, r⟩
  · exact .inl h2
  · exact .inr ⟨g, cap, cur, hv, Nat.le_trans hb hg, r⟩
theorem bv_one (l : List UInt8) : ∀ u ∈ l.map bv, u.oneCell' = true := by
  intro u hu
  obtain ⟨x, _, rfl⟩ := List.mem_map.1 hu
  rfl
end Go.Proofs.Ytkbcgcokokddlaa
/-
  Cells of new blocks in later worlds; the steps of 'nothing below has turned'. No program in sight.
-/
namespace Go.Proofs.Ytkbcgcokokddlaa
open Go.RowKit
theorem new_later {w w1 : World} {C : Array Value} {t : TypeId} (hb : Below (w.alloc (.cells C t)).heap.size (w.alloc (.cells C t)) w1) (k : Nat) {v : Value} (hk : C[k]? = some v) : w1.cell? ⟨w.heap.size, k, none⟩ = some v :=
  (hb.cell (p := ⟨w.heap.size, k, none⟩) (by simp)).trans ((World.cell?_alloc_new w C t k).trans hk)
theorem kept_later {w w1 : World} (hb : Below w.heap.size w w1) {p : Addr} {v : Value} (h : w.cell? p = some v) : w1.cell? p = some v :=
  (hb.cell (p := p) (World.block_lt_of_cell? w _ h)).trans h
theorem froz_later {w w1 : World} (hb : Below w.heap.size w w1) {p : Addr} {v : Value} (h : w.cell? p = some v) {b : Bool} (hf : w.frozen? p = b) : w1.frozen? p = b :=
  (hb.frozen (World.block_lt_of_cell? w _ h)).trans hf
theorem S_call {W0 w1 w2 : World} {B : Nat} (hb : Below B w1 w2) (h : Below W0.heap.size W0 w1) (hB : B = w1.heap.size) : Below W0.heap.size W0 w2 := h.trans (hb.mono (by rw [hB]; exact h.size))
theorem S_alloc {W0 w1 : World} {o : Obj} (h : Below W0.heap.size W0 w1) : Below W0.heap.size W0 (w1.alloc o) := h.alloc h.size _
theorem bel_next {a b c : World} (h : Below a.heap.size a b) (k : Below b.heap.size b c) : Below a.heap.size a c := h.trans (k.mono h.size)
theorem bel_alloc {a b : World} (h : Below a.heap.size a b) (o : Obj) : Below a.heap.size a (b.alloc o) := h.alloc h.size o

/-- Block b holds these cells, and they may be written. -/
def Box (W : World) (b : Nat) (C : List Value) : Prop := ∀ k v, C[k]? = some v → W.cell? ⟨b, k, none⟩ = some v ∧ W.frozen? ⟨b, k, none⟩ = false
theorem Box.new (w : World) (C : Array Value) (t : TypeId) : Box (w.alloc (.cells C t)) w.heap.size C.toList := fun k v h => by
  refine ⟨(World.cell?_alloc_new w C t k).trans (by simpa using h), ?_⟩
  go_simp
theorem Box.new' (w : World) (C : Array Value) (t : TypeId) {b : Nat} (hb : b = w.heap.size) : Box (w.alloc (.cells C t)) b C.toList := by subst hb; exact Box.new w C t
theorem Box.later {W W' : World} {b : Nat} {C : List Value} (h : Box W b C) (hb : Below W.heap.size W W') : Box W' b C := fun k v hk =>
  ⟨kept_later hb (h k v hk).1, froz_later hb (h k v hk).1 (h k v hk).2⟩
theorem Box.alloc {W : World} {b : Nat} {C : List Value} (h : Box W b C) (o : Obj) : Box (W.alloc o) b C := h.later ((Below.refl _ _).alloc (Nat.le_refl _) o)
theorem Box.drewN {W : World} {b : Nat} {C : List Value} (h : Box W b C) (n : Nat) : Box (W.drewN n) b C := h
theorem Box.lt {W : World} {b : Nat} {C : List Value} (h : Box W b C) (hC : 0 < C.length) : b < W.heap.size :=
  World.block_lt_of_cell? W _ (h 0 (C[0]) (List.getElem?_eq_getElem hC)).1
/-- A store into another block. -/
theorem Box.setCell {W : World} {b : Nat} {C : List Value} (h : Box W b C) {p : Addr} (hp : p.block ≠ b) (u : Value) : Box (W.setCell p u) b C := fun k v hk =>
  ⟨(World.cell?_setCell_other W p ⟨b, k, none⟩ u (fun e => hp (by rw [e]))).trans (h k v hk).1, by rw [World.frozen?_setCell]; exact (h k v hk).2⟩
/-- Four stores, cell by cell. -/
def set4 (W : World) (b : Nat) (x0 x1 x2 x3 : Value) : World := (((W.setCell ⟨b, 0, none⟩ x0).setCell ⟨b, 1, none⟩ x1).setCell ⟨b, 2, none⟩ x2).setCell ⟨b, 3, none⟩ x3
theorem Box.set4 {W : World} {b : Nat} {y0 y1 y2 y3 : Value} (h : Box W b [y0, y1, y2, y3]) (x0 x1 x2 x3 : Value) : Box (set4 W b x0 x1 x2 x3) b [x0, x1, x2, x3] := by
  have h0 := h 0 _ rfl
  have h1 := h 1 _ rfl
  have h2 := h 2 _ rfl
  have h3 := h 3 _ rfl
  have ne : ∀ i j : Nat, i ≠ j → (⟨b, i, none⟩ : Addr) ≠ ⟨b, j, none⟩ := fun i j e h => e (by injection h)
  intro k v hk
  unfold Proofs.Ytkbcgcokokddlaa.set4
  simp only [World.frozen?_setCell]
  match k, hk with
  | 0, hk =>
    cases hk
    refine ⟨?_, h0.2⟩
    rw [World.cell?_setCell_other _ _ _ _ (ne _ _ (by omega)), World.cell?_setCell_other _ _ _ _ (ne _ _ (by omega)), World.cell?_setCell_other _ _ _ _ (ne _ _ (by omega))]
    exact cell_set h0.1 _
  | 1, hk =>
    cases hk
    refine ⟨?_, h1.2⟩
    rw [World.cell?_setCell_other _ _ _ _ (ne _ _ (by omega)), World.cell?_setCell_other _ _ _ _ (ne _ _ (by omega))]
    exact cell_set ((World.cell?_setCell_other _ _ _ _ (ne _ _ (by omega))).trans h1.1) _
  | 2, hk =>
    cases hk
    refine ⟨?_, h2.2⟩
    rw [World.cell?_setCell_other _ _ _ _ (ne _ _ (by omega))]
    exact cell_set ((World.cell?_setCell_other _ _ _ _ (ne _ _ (by omega))).trans ((World.cell?_setCell_other _ _ _ _ (ne _ _ (by omega))).trans h2.1)) _
  | 3, hk =>
    cases hk
    refine ⟨?_, h3.2⟩
    exact cell_set ((World.cell?_setCell_other _ _ _ _ (ne _ _ (by omega))).trans ((World.cell?_setCell_other _ _ _ _ (ne _ _ (by omega))).trans ((World.cell?_setCell_other _ _ _ _ (ne _ _ (by omega))).trans h3.1))) _
theorem Box.far4 {W : World} {b g : Nat} {C : List Value} (h : Box W b C) (x0 x1 x2 x3 : Value) (hg : g ≠ b) : Box (Proofs.Ytkbcgcokokddlaa.set4 W g x0 x1 x2 x3) b C :=
  (((h.setCell (p := ⟨g, 0, none⟩) hg x0).setCell (p := ⟨g, 1, none⟩) hg x1).setCell (p := ⟨g, 2, none⟩) hg x2).setCell (p := ⟨g, 3, none⟩) hg x3
theorem below_set4 {a W : World} {B b : Nat} (h : Below B a W) (hb : B ≤ b) (x0 x1 x2 x3 : Value) : Below B a (set4 W b x0 x1 x2 x3) :=
  (((h.setCell (p := ⟨b, 0, none⟩) hb x0).setCell (p := ⟨b, 1, none⟩) hb x1).setCell (p := ⟨b, 2, none⟩) hb x2).setCell (p := ⟨b, 3, none⟩) hb x3
end Go.Proofs.Ytkbcgcokokddlaa
/-
  Layer 10, plain: files, where they lie, how long they are, which may be. No program in sight.
-/
namespace Go.Proofs.Ytkbcgcokokddlaa
open Go.RowKit
set_option linter.unusedVariables false

/-- A row of bytes, with its head. -/
structure PcT where
  A : Option Addr
  n : Nat
  c : Nat
  l : List UInt8
def PcT.val (p : PcT) : Value := .slice p.A p.n p.c
structure PcT.Ok (w : World) (B : Nat) (p : PcT) : Prop where
  here : Bytes w B p.A p.n p.l
  nil : p.A = none → p.c = 0
  fits : p.n ≤ p.c
  most : p.c ≤ maxLen
theorem PcT.Ok.later {w w' : World} {B : Nat} {p : PcT} (h : p.Ok w B) (hb : Below B w w') : p.Ok w' B := ⟨h.here.below hb, h.nil, h.fits, h.most⟩
theorem PcT.Ok.more {w : World} {B B' : Nat} {p : PcT} (h : p.Ok w B) (hB : B ≤ B') : p.Ok w B' := ⟨h.here.more hB, h.nil, h.fits, h.most⟩
theorem PcT.Ok.len {w : World} {B : Nat} {p : PcT} (h : p.Ok w B) : p.l.length = p.n := h.here.len
def joinP (L : List PcT) : List UInt8 := L.flatMap (·.l)
theorem joinP_nil : joinP [] = [] := rfl
theorem joinP_cons (p : PcT) (L : List PcT) : joinP (p :: L) = p.l ++ joinP L := by unfold joinP; rw [List.flatMap_cons]
theorem joinP_append (L M : List PcT) : joinP (L ++ M) = joinP L ++ joinP M := by unfold joinP; rw [List.flatMap_append]
theorem joinP_snoc (L : List PcT) (p : PcT) : joinP (L ++ [p]) = joinP L ++ p.l := by rw [joinP_append, joinP_cons, joinP_nil, List.append_nil]
theorem joinP_take {L : List PcT} {k : Nat} {p : PcT} (h : L[k]? = some p) : joinP (L.take (k + 1)) = joinP (L.take k) ++ p.l := by
  rw [List.take_add_one, h]
  exact joinP_snoc _ _

/-- A file, with the heads of its rows. -/
structure FileT where
  F : PcT
  lA : Option Addr
  ln : Nat
  lc : Nat
  L : List PcT
  fuse : Int
  fault : Int
  off : Bool
def FileT.agg (X : FileT) : Value := .agg #[X.F.val, .slice X.lA X.ln X.lc, .int .i64 X.fuse, .int .i64 X.fault, .bool X.off]
def FileT.all (X : FileT) : List UInt8 := X.F.l ++ joinP X.L
structure LieF (w : World) (B : Nat) (X : FileT) : Prop where
  firm : X.F.Ok w B
  row : Shows w B 1 X.lA X.ln (X.L.map PcT.val)
  loose : ∀ p ∈ X.L, p.Ok w B
  nil : X.lA = none → X.lc = 0
  fits : X.ln ≤ X.lc
  most : X.lc ≤ maxLen
  fuse : (Lit.int .i64 X.fuse).wf = true
  fault : (Lit.int .i64 X.fault).wf = true
theorem LieF.later {w w' : World} {B : Nat} {X : FileT} (h : LieF w B X) (hb : Below B w w') : LieF w' B X :=
  ⟨h.firm.later hb, h.row.below hb, fun p hp => (h.loose p hp).later hb, h.nil, h.fits, h.most, h.fuse, h.fault⟩
theorem LieF.more {w : World} {B B' : Nat} {X : FileT} (h : LieF w B X) (hB : B ≤ B') : LieF w B' X :=
  ⟨h.firm.more hB, h.row.more hB, fun p hp => (h.loose p hp).more hB, h.nil, h.fits, h.most, h.fuse, h.fault⟩
theorem LieF.len {w : World} {B : Nat} {X : FileT} (h : LieF w B X) : X.L.length = X.ln := by have := h.row.1; simpa using this
/-- A piece's cell. -/
theorem pc_at {w : World} {B : Nat} {A : Option Addr} {n : Nat} {L : List PcT} (h : Shows w B 1 A n (L.map PcT.val)) {k : Nat} (hk : k < n) : ∃ b off p, A = some ⟨b, off, none⟩ ∧ b < B ∧ L[k]? = some p ∧ w.cell? ⟨b, off + k, none⟩ = some (.slice p.A p.n p.c) := by
  obtain ⟨b, off, rfl, hb, hc⟩ := h.2 (by omega)
  have hl : L.length = n := by have := h.1; simpa using this
  have hp : L[k]? = some (L[k]'(by omega)) := List.getElem?_eq_getElem (by omega)
  exact ⟨b, off, _, rfl, hb, hp, hc k _ (by rw [List.getElem?_map, hp]; rfl)⟩

/-- How long: up to where it is too long. -/
def lenGo : List PcT → Nat → Nat
  | [], n => n
  | p :: L, n => if 524288 < n then n else lenGo L (n + p.n)
def FileT.long (X : FileT) : Nat := lenGo X.L X.F.n
def sumN (L : List PcT) : Nat := (L.map (·.n)).sum
theorem lenGo_over : ∀ (L : List PcT) (n : Nat), 524288 < n → lenGo L n = n
  | [], n, h => rfl
  | p :: L, n, h => by unfold lenGo; rw [if_pos h]
theorem lenGo_is : ∀ (L : List PcT) (n : Nat), (n + sumN L ≤ 524288 → lenGo L n = n + sumN L) ∧ (524288 < n + sumN L → 524288 < lenGo L n)
  | [], n => by simp [lenGo, sumN]
  | p :: L, n => by
    have e : sumN (p :: L) = p.n + sumN L := by simp [sumN]
    obtain ⟨h1, h2⟩ := lenGo_is L (n + p.n)
    rw [e]
    by_cases h : 524288 < n
    · unfold lenGo
      rw [if_pos h]
      exact ⟨fun h' => by omega, fun _ => h⟩
    · unfold lenGo
      rw [if_neg h]
      exact ⟨fun h' => by rw [h1 (by omega)]; omega, fun h' => h2 (by omega)⟩
theorem lenGo_take {L : List PcT} {k : Nat} {p : PcT} {n : Nat} (h : L[k]? = some p) (hn : n + sumN (L.take k) ≤ 524288) : n + sumN (L.take (k + 1)) = n + sumN (L.take k) + p.n := by
  have : sumN (L.take (k + 1)) = sumN (L.take k) + p.n := by
    unfold sumN
    rw [List.take_add_one, h]
    simp
  omega
theorem sumN_len {w : World} {B : Nat} {L : List PcT} (h : ∀ p ∈ L, p.Ok w B) : (joinP L).length = sumN L := by
  induction L with
  | nil => rfl
  | cons p L ih =>
    rw [joinP_cons, List.length_append, ih fun q hq => h q (List.mem_cons_of_mem _ hq), (h p (List.mem_cons_self ..)).len]
    simp [sumN]
/-- May a file be? -/
def FileT.right (X : FileT) : Bool := X.L.all (fun p => !(p.n == 0)) && (decide (-1 ≤ X.fuse) && (decide (-1 ≤ X.fault) && ((!X.off || X.fuse == -1) && decide (X.long ≤ 524288))))
/-- A file by what it is, without the heads. -/
structure FileS where
  firm : List UInt8
  loose : List (List UInt8)
  fuse : Int
  fault : Int
  off : Bool
def FileT.s (X : FileT) : FileS := ⟨X.F.l, X.L.map (·.l), X.fuse, X.fault, X.off⟩
theorem right_all {w : World} {B : Nat} {X : FileT} (h : LieF w B X) (hr : X.right = true) : X.long = X.all.length ∧ X.all.length ≤ 524288 := by
  unfold FileT.right at hr
  simp only [Bool.and_eq_true, decide_eq_true_eq] at hr
  have hl := hr.2.2.2.2
  obtain ⟨h1, h2⟩ := lenGo_is X.L X.F.n
  have e : X.all.length = X.F.n + sumN X.L := by unfold FileT.all; rw [List.length_append, h.firm.len, sumN_len h.loose]
  unfold FileT.long at hl ⊢
  by_cases hs : X.F.n + sumN X.L ≤ 524288
  · rw [h1 hs, e]; exact ⟨rfl, hs⟩
  · have := h2 (by omega); omega
/-- An operation is asked for that brings so many bytes: the file behind that, and what it comes to. -/
def FileS.asked (X : FileS) (long more : Nat) : FileS × Int :=
  if X.off then (X, 10)
  else if 524288 < long + more then (X, 8)
  else if X.fault = 0 then ({ X with fault := -1 }, 9)
  else
    let f1 := if 0 < X.fault then X.fault - 1 else X.fault
    if X.fuse = 0 then ({ X with fault := f1, fuse := -1, off := true }, 10)
    else ({ X with fault := f1, fuse := if 0 < X.fuse then X.fuse - 1 else X.fuse }, 0)
end Go.Proofs.Ytkbcgcokokddlaa
/-
  What the rows' proofs share: an argument that is a slice of bytes, opened.
-/
namespace Go.Proofs.Ytkbcgcokokddlaa
open Go.ChangeShapes Go.WideShapes Go.ChangeAt Go.RowKit

theorem own : ownKnob Try.prog.godebug = none := by kernel_rfl
theorem laidOut : laidOutB Try.prog = true := by kernel_rfl

theorem wf_u8 {z : Int} (h : (Lit.int .u8 z).wf = true) : 0 ≤ z ∧ z < 256 := by
  simp [Lit.wf, IntKind.min, IntKind.max, IntKind.bits, IntKind.signed] at h
  omega
theorem wf_u32 {z : Int} (h : (Lit.int .u32 z).wf = true) : 0 ≤ z ∧ z < 4294967296 := by
  simp [Lit.wf, IntKind.min, IntKind.max, IntKind.bits, IntKind.signed] at h
  omega
theorem wf_u64 {z : Int} (h : (Lit.int .u64 z).wf = true) : 0 ≤ z ∧ z < 18446744073709551616 := by
  simp [Lit.wf, IntKind.min, IntKind.max, IntKind.bits, IntKind.signed] at h
  omega
theorem wf_i64 {z : Int} (h : (Lit.int .i64 z).wf = true) : -9223372036854775808 ≤ z ∧ z < 9223372036854775808 := by
  simp [Lit.wf, IntKind.min, IntKind.max, IntKind.bits, IntKind.signed] at h
  omega

/-- A slice of bytes that came in. -/
theorem came_bytes {W : World} {a : Addr} {n c : Nat} {zs : List Int} (hn : n ≤ c) (hz : zs.length = c) (hcell : ∀ i, i < zs.length → W.cell? (a.add i) = some (.int .u8 (zs.getD i 0))) (hw : ∀ z ∈ zs, (Lit.int .u8 z).wf = true) :
    ∃ l : List UInt8, Bytes W W.heap.size (some a) n l := by
  refine ⟨(zs.take n).map fun z => UInt8.ofNat z.toNat, by simp; omega, fun hn0 => ?_⟩
  obtain ⟨b, off, spot⟩ := a
  have hc0 := hcell 0 (by omega)
  have hspot : spot = none := by simpa [Addr.add] using World.cell?_spot hc0
  subst hspot
  have hlt : b < W.heap.size := World.block_lt_of_cell? W _ (by simpa [Addr.add] using hc0)
  refine ⟨b, off, rfl, hlt, fun j u hu => ?_⟩
  simp only [List.map_map, List.getElem?_map, Option.map_eq_some_iff] at hu
  obtain ⟨z, hz1, rfl⟩ := hu
  rw [List.getElem?_take] at hz1
  split at hz1
  · have hj : j < zs.length := (List.getElem?_eq_some_iff.1 hz1).1
    have hcj := hcell j hj
    rw [addr_add] at hcj
    rw [hcj, List.getD_eq_getElem?_getD, hz1]
    have := wf_u8 (hw z (List.mem_of_getElem? hz1))
    simp [bv]
    omega
  · cases hz1

/-- An array of four bytes, by value. -/
theorem list4 {α : Type} (l : List α) (h : (⟨l⟩ : Array α).size = 4) : ∃ a b c d, l = [a, b, c, d] := by
  match l, h with
  | [a, b, c, d], _ => exact ⟨a, b, c, d, rfl⟩
theorem bv_of {z : Int} (h : (Lit.int .u8 z).wf = true) : ∃ x : UInt8, Value.int .u8 z = bv x := by
  have := wf_u8 h
  refine ⟨UInt8.ofNat z.toNat, ?_⟩
  unfold bv
  rw [UInt8.toNat_ofNat']
  congr 1
  omega
theorem came_arr4 {H : Type} {enc : TypeId × Value → H} {P : Program} {w W : World} {base b0 : Nat} {spare : Nat → Bool} {held : Bool} {r : Reach} {t e : TypeId} {v : Value} {d : DataW H} {p : List MemPlace}
    (ht : P.underlying t = some (.array 4 e)) (he : P.underlying e = some (.int .u8)) (hce : P.cellsOf e = 1) (hct : P.cellsOf t = 4)
    (hv : Value.okWide P W r b0 t v) (h : DataW.Trod enc P w base spare held t v d p) : ∃ x0 x1 x2 x3 : UInt8, v = .agg #[bv x0, bv x1, bv x2, bv x3] := by
  obtain ⟨cs, rfl, hsz, _⟩ : ∃ cs, v = .agg cs ∧ cs.size = P.cellsOf t ∧ Row.okWide P W r b0 t cs := by
    simpa [Value.okWide, ht] using hv
  rw [hct] at hsz
  obtain ⟨l⟩ := cs
  obtain ⟨c0, c1, c2, c3, rfl⟩ := list4 l hsz
  obtain ⟨fuel, hf⟩ := h
  obtain ⟨y0, y1, y2, y3, m, hx, hy0, hy1, hy2, hy3⟩ := trod_array4 ht hce hf
  obtain ⟨x0, e0, rfl, w0⟩ := DataW.trod_int he hy0
  obtain ⟨x1, e1, rfl, w1⟩ := DataW.trod_int he hy1
  obtain ⟨x2, e2, rfl, w2⟩ := DataW.trod_int he hy2
  obtain ⟨x3, e3, rfl, w3⟩ := DataW.trod_int he hy3
  simp at e0 e1 e2 e3
  subst e0 e1 e2 e3
  obtain ⟨a0, h0⟩ := bv_of w0
  obtain ⟨a1, h1⟩ := bv_of w1
  obtain ⟨a2, h2⟩ := bv_of w2
  obtain ⟨a3, h3⟩ := bv_of w3
  exact ⟨a0, a1, a2, a3, by rw [h0, h1, h2, h3]⟩
end Go.Proofs.Ytkbcgcokokddlaa
/-
  Flat rows by places. No program in sight.
-/
namespace Go.Proofs.Ytkbcgcokokddlaa
set_option linter.unusedVariables false

theorem flatN_len {α β : Type} (f : α → List β) (d : Nat) (hf : ∀ x, (f x).length = d) : ∀ L : List α, (L.flatMap f).length = L.length * d
  | [] => by simp
  | y :: L => by rw [List.flatMap_cons, List.length_append, hf, flatN_len f d hf L, List.length_cons, Nat.succ_mul]; omega
theorem flatN_at {α β : Type} (f : α → List β) (d : Nat) (hf : ∀ x, (f x).length = d) : ∀ (L : List α) (k : Nat) (x : α), L[k]? = some x → ∀ i, i < d → (L.flatMap f)[k * d + i]? = (f x)[i]?
  | [], k, x, h, i, hi => by simp at h
  | y :: L, 0, x, h, i, hi => by
    have e : y = x := by simpa using h
    rw [List.flatMap_cons, Nat.zero_mul, Nat.zero_add, List.getElem?_append_left (by rw [hf]; exact hi), e]
  | y :: L, k + 1, x, h, i, hi => by
    rw [List.flatMap_cons, List.getElem?_append_right (by rw [hf, Nat.succ_mul]; omega), hf, show (k + 1) * d + i - d = k * d + i by rw [Nat.succ_mul]; omega]
    exact flatN_at f d hf L k x (by simpa using h) i hi
theorem flatN_take {α β : Type} (f : α → List β) {L : List α} {k : Nat} {x : α} (h : L[k]? = some x) : (L.take (k + 1)).flatMap f = (L.take k).flatMap f ++ f x := by
  rw [List.take_add_one, h, List.flatMap_append]
  simp
theorem takeN {α : Type} {L : List α} {k : Nat} {x : α} (h : L[k]? = some x) : L.take (k + 1) = L.take k ++ [x] := by
  rw [List.take_add_one, h]
  rfl
theorem dropN {α : Type} {L : List α} {k : Nat} {x : α} (h : L[k]? = some x) : L.drop k = x :: L.drop (k + 1) := by
  obtain ⟨hk, e⟩ := List.getElem?_eq_some_iff.1 h
  rw [List.drop_eq_getElem_cons hk, e]
end Go.Proofs.Ytkbcgcokokddlaa
/-
  The order of bytes. No program in sight.
-/
namespace Go.Proofs.Ytkbcgcokokddlaa
set_option linter.unusedVariables false

/-- Bytes compared: -1, 0 or 1. -/
def cmpL : List UInt8 → List UInt8 → Int
  | [], [] => 0
  | [], _ :: _ => -1
  | _ :: _, [] => 1
  | x :: l, y :: m => if x.toNat < y.toNat then -1 else if y.toNat < x.toNat then 1 else cmpL l m
theorem cmpL_self : ∀ l : List UInt8, cmpL l l = 0
  | [] => rfl
  | x :: l => by unfold cmpL; rw [if_neg (by omega), if_neg (by omega), cmpL_self l]
theorem cmpL_turn : ∀ l m : List UInt8, cmpL m l = - cmpL l m
  | [], [] => rfl
  | [], _ :: _ => rfl
  | _ :: _, [] => rfl
  | x :: l, y :: m => by
    unfold cmpL
    have ih := cmpL_turn l m
    by_cases h1 : y.toNat < x.toNat
    · simp [h1, show ¬ x.toNat < y.toNat by omega]
    · by_cases h2 : x.toNat < y.toNat
      · simp [h1, h2]
      · simp [h1, h2, ih]
theorem cmpL_zero : ∀ l m : List UInt8, cmpL l m = 0 → l = m
  | [], [], _ => rfl
  | [], _ :: _, h => by simp [cmpL] at h
  | _ :: _, [], h => by simp [cmpL] at h
  | x :: l, y :: m, h => by
    unfold cmpL at h
    split at h
    · cases h
    · split at h
      · cases h
      · rw [cmpL_zero l m h, UInt8.toNat_inj.1 (show x.toNat = y.toNat by omega)]
theorem cmpL_ends (l m : List UInt8) : cmpL l m = -1 ∨ cmpL l m = 0 ∨ cmpL l m = 1 := by
  induction l generalizing m with
  | nil => cases m <;> simp [cmpL]
  | cons x l ih =>
    cases m with
    | nil => simp [cmpL]
    | cons y m => unfold cmpL; split; · exact .inl rfl
                  split; · exact .inr (.inr rfl)
                  exact ih m
theorem cmpL_trans : ∀ l m k : List UInt8, cmpL l m < 0 → cmpL m k < 0 → cmpL l k < 0
  | l, m, [], h1, h2 => by cases m <;> simp [cmpL] at h2
  | l, [], z :: k, h1, h2 => by cases l <;> simp [cmpL] at h1
  | [], y :: m, z :: k, h1, h2 => by simp [cmpL]
  | x :: l, y :: m, z :: k, h1, h2 => by
    unfold cmpL at h1 h2 ⊢
    split at h1
    · split at h2
      · rw [if_pos (by omega)]; omega
      · split at h2
        · omega
        · rw [if_pos (by omega)]; omega
    · split at h1
      · omega
      · split at h2
        · rw [if_pos (by omega)]; omega
        · split at h2
          · omega
          · rw [if_neg (by omega), if_neg (by omega)]
            exact cmpL_trans l m k h1 h2

def ltB (l m : List UInt8) : Bool := decide (cmpL l m < 0)
theorem ltB_yes {l m : List UInt8} (h : cmpL l m < 0) : ltB l m = true := decide_eq_true h
theorem ltB_no {l m : List UInt8} (h : ¬ cmpL l m < 0) : ltB l m = false := decide_eq_false h
end Go.Proofs.Ytkbcgcokokddlaa
/-
  Layer 15, plain: edits, rows of them by keys, the reference's Sort, what wins. No program in sight.
-/
namespace Go.Proofs.Ytkbcgcokokddlaa
set_option linter.unusedVariables false

/-- What an edit says. -/
structure EdS where
  k : List UInt8
  put : Bool
  v : List UInt8
  b : Bool
  n : Int
def LtE (x y : EdS) : Prop := cmpL x.k y.k < 0
theorem LtE.ne {x y : EdS} (h : LtE x y) : x.k ≠ y.k := fun e => by
  unfold LtE at h
  rw [e, cmpL_self] at h
  omega
theorem LtE.trans {x y z : EdS} (h : LtE x y) (h' : LtE y z) : LtE x z := cmpL_trans _ _ _ h h'
theorem LtE.turn {x y : EdS} (h : LtE x y) : ¬ LtE y x := fun h' => (h.trans h').ne rfl
theorem LtE.key {x y z : EdS} (h : LtE x y) (e : y.k = z.k) : LtE x z := by unfold LtE at *; rw [← e]; exact h
theorem LtE.key' {x y z : EdS} (h : LtE x y) (e : x.k = z.k) : LtE z y := by unfold LtE at *; rw [← e]; exact h
theorem ltE_or (x y : EdS) : LtE x y ∨ x.k = y.k ∨ LtE y x := by
  unfold LtE
  rcases cmpL_ends x.k y.k with h | h | h
  · exact .inl (by omega)
  · exact .inr (.inl (cmpL_zero _ _ h))
  · exact .inr (.inr (by rw [cmpL_turn]; omega))
/-- Keys increase. -/
def Inc (l : List EdS) : Prop := l.Pairwise LtE
theorem inc_key {l : List EdS} (h : Inc l) {x y : EdS} (hx : x ∈ l) (hy : y ∈ l) (e : x.k = y.k) : x = y := by
  induction l with
  | nil => cases hx
  | cons a l ih =>
    obtain ⟨h1, h2⟩ := List.pairwise_cons.1 h
    rcases List.mem_cons.1 hx with ex | hx'
    · rcases List.mem_cons.1 hy with ey | hy'
      · rw [ex, ey]
      · exact absurd (ex ▸ e) (h1 y hy').ne
    · rcases List.mem_cons.1 hy with ey | hy'
      · exact absurd (ey ▸ e.symm) (h1 x hx').ne
      · exact ih h2 hx' hy'
theorem inc_unique {l m : List EdS} (hl : Inc l) (hm : Inc m) (h : ∀ x, x ∈ l ↔ x ∈ m) : l = m := by
  induction l generalizing m with
  | nil =>
    cases m with
    | nil => rfl
    | cons b m => exact absurd ((h b).2 List.mem_cons_self) (by simp)
  | cons a l ih =>
    cases m with
    | nil => exact absurd ((h a).1 List.mem_cons_self) (by simp)
    | cons b m =>
      obtain ⟨a1, a2⟩ := List.pairwise_cons.1 hl
      obtain ⟨b1, b2⟩ := List.pairwise_cons.1 hm
      have e : a = b := by
        rcases List.mem_cons.1 ((h a).1 List.mem_cons_self) with e | ha
        · exact e
        · rcases List.mem_cons.1 ((h b).2 List.mem_cons_self) with e | hb
          · exact e.symm
          · exact absurd (a1 b hb) (b1 a ha).turn
      subst e
      rw [ih a2 b2 (fun x => ⟨fun hx => ?_, fun hx => ?_⟩)]
      · rcases List.mem_cons.1 ((h x).1 (List.mem_cons_of_mem _ hx)) with rfl | h'
        · exact absurd rfl (a1 _ hx).ne
        · exact h'
      · rcases List.mem_cons.1 ((h x).2 (List.mem_cons_of_mem _ hx)) with rfl | h'
        · exact absurd rfl (b1 _ hx).ne
        · exact h'
/-- The reference's With: in the place of the one of its key. -/
def withE : List EdS → EdS → List EdS
  | [], x => [x]
  | y :: l, x => if cmpL y.k x.k < 0 then y :: withE l x else x :: (y :: l).filter (fun z => decide (z.k ≠ x.k))
theorem mem_withE (l : List EdS) (x z : EdS) : z ∈ withE l x ↔ z = x ∨ (z ∈ l ∧ z.k ≠ x.k) := by
  induction l with
  | nil => simp [withE]
  | cons y l ih =>
    unfold withE
    split
    · rename_i h
      rw [List.mem_cons, ih, List.mem_cons]
      have hne : y.k ≠ x.k := LtE.ne (x := y) (y := x) h
      constructor
      · rintro (rfl | rfl | ⟨h1, h2⟩)
        · exact .inr ⟨.inl rfl, hne⟩
        · exact .inl rfl
        · exact .inr ⟨.inr h1, h2⟩
      · rintro (rfl | ⟨rfl | h1, h2⟩)
        · exact .inr (.inl rfl)
        · exact .inl rfl
        · exact .inr (.inr ⟨h1, h2⟩)
    · rw [List.mem_cons, List.mem_filter, decide_eq_true_iff]
theorem inc_withE {l : List EdS} (h : Inc l) (x : EdS) : Inc (withE l x) := by
  induction l with
  | nil => exact List.pairwise_cons.2 ⟨fun _ h => (by cases h), .nil⟩
  | cons y l ih =>
    obtain ⟨h1, h2⟩ := List.pairwise_cons.1 h
    unfold withE
    split
    · rename_i hlt
      refine List.pairwise_cons.2 ⟨fun z hz => ?_, ih h2⟩
      rcases (mem_withE l x z).1 hz with rfl | ⟨h', -⟩
      · exact hlt
      · exact h1 z h'
    · rename_i hlt
      refine List.pairwise_cons.2 ⟨fun z hz => ?_, List.Pairwise.filter _ h⟩
      obtain ⟨hz, hne⟩ := List.mem_filter.1 hz
      have hne : z.k ≠ x.k := of_decide_eq_true hne
      have hy : y.k = x.k ∨ LtE x y := by
        rcases ltE_or y x with h' | h' | h'
        · exact absurd h' hlt
        · exact .inl h'
        · exact .inr h'
      rcases List.mem_cons.1 hz with rfl | hz
      · exact hy.resolve_left hne
      · rcases hy with e | h'
        · exact (h1 z hz).key' e
        · exact h'.trans (h1 z hz)
/-- The reference's Sort. -/
def sortE (l : List EdS) : List EdS := l.foldl withE []
theorem sortE_snoc (l : List EdS) (x : EdS) : sortE (l ++ [x]) = withE (sortE l) x := by
  unfold sortE
  rw [List.foldl_append]
  rfl
theorem inc_foldE (l : List EdS) : ∀ m, Inc m → Inc (l.foldl withE m) := by
  induction l with
  | nil => exact fun m h => h
  | cons x l ih => exact fun m h => ih _ (inc_withE h x)
theorem inc_sortE (l : List EdS) : Inc (sortE l) := inc_foldE l [] .nil
/-- The last of its key. -/
def LastE : List EdS → EdS → Prop
  | [], _ => False
  | y :: l, z => (y = z ∧ ∀ w ∈ l, w.k ≠ z.k) ∨ LastE l z
theorem lastE_cons (y : EdS) (l : List EdS) (z : EdS) : LastE (y :: l) z ↔ (y = z ∧ ∀ w ∈ l, w.k ≠ z.k) ∨ LastE l z := Iff.rfl
theorem lastE_append (a b : List EdS) (z : EdS) : LastE (a ++ b) z ↔ LastE b z ∨ (LastE a z ∧ ∀ w ∈ b, w.k ≠ z.k) := by
  induction a with
  | nil => simp [LastE]
  | cons y a ih =>
    rw [List.cons_append, lastE_cons, lastE_cons, ih]
    constructor
    · rintro (⟨rfl, h⟩ | h | ⟨h, h'⟩)
      · exact .inr ⟨.inl ⟨rfl, fun w hw => h w (List.mem_append_left _ hw)⟩, fun w hw => h w (List.mem_append_right _ hw)⟩
      · exact .inl h
      · exact .inr ⟨.inr h, h'⟩
    · rintro (h | ⟨⟨rfl, h⟩ | h, h'⟩)
      · exact .inr (.inl h)
      · refine .inl ⟨rfl, fun w hw => ?_⟩
        rcases List.mem_append.1 hw with hw | hw
        · exact h w hw
        · exact h' w hw
      · exact .inr (.inr ⟨h, h'⟩)
theorem mem_foldE (l : List EdS) : ∀ (m : List EdS) (z : EdS), z ∈ l.foldl withE m ↔ LastE l z ∨ (z ∈ m ∧ ∀ w ∈ l, w.k ≠ z.k) := by
  induction l with
  | nil => simp [LastE]
  | cons x l ih =>
    intro m z
    rw [List.foldl_cons, ih, mem_withE, lastE_cons]
    constructor
    · rintro (h | ⟨rfl | ⟨h1, h2⟩, h3⟩)
      · exact .inl (.inr h)
      · exact .inl (.inl ⟨rfl, h3⟩)
      · refine .inr ⟨h1, fun w hw => ?_⟩
        rcases List.mem_cons.1 hw with rfl | hw
        · exact fun e => h2 e.symm
        · exact h3 w hw
    · rintro ((⟨rfl, h⟩ | h) | ⟨h1, h2⟩)
      · exact .inr ⟨.inl rfl, h⟩
      · exact .inl h
      · exact .inr ⟨.inr ⟨h1, fun e => h2 x List.mem_cons_self e.symm⟩, fun w hw => h2 w (List.mem_cons_of_mem _ hw)⟩
theorem mem_sortE (l : List EdS) (z : EdS) : z ∈ sortE l ↔ LastE l z := by
  unfold sortE
  rw [mem_foldE]
  simp
theorem lastE_mem {l : List EdS} {z : EdS} (h : LastE l z) : z ∈ l := by
  induction l with
  | nil => exact h.elim
  | cons y l ih =>
    rcases h with ⟨rfl, -⟩ | h
    · exact List.mem_cons_self
    · exact List.mem_cons_of_mem _ (ih h)
theorem lastE_inc {l : List EdS} (h : Inc l) (z : EdS) : LastE l z ↔ z ∈ l := by
  induction l with
  | nil => simp [LastE]
  | cons y l ih =>
    obtain ⟨h1, h2⟩ := List.pairwise_cons.1 h
    refine ⟨lastE_mem, fun hz => ?_⟩
    rcases List.mem_cons.1 hz with rfl | hz
    · exact .inl ⟨rfl, fun w hw e => (h1 w hw).ne e.symm⟩
    · exact .inr ((ih h2).2 hz)
theorem sortE_inc {l : List EdS} (h : Inc l) : sortE l = l := inc_unique (inc_sortE l) h (fun z => by rw [mem_sortE, lastE_inc h])
/-- What wins in rows: no later row has its key. -/
def WinE (L : List (List EdS)) (x : EdS) : Prop := ∃ i s, L[i]? = some s ∧ x ∈ s ∧ ∀ (j : Nat) t, i < j → L[j]? = some t → ∀ y ∈ t, y.k ≠ x.k
theorem winE_flat (L : List (List EdS)) (hL : ∀ s ∈ L, Inc s) (x : EdS) : WinE L x ↔ LastE L.flatten x := by
  induction L with
  | nil =>
    refine ⟨fun ⟨i, s, h, _⟩ => by simp at h, fun h => h.elim⟩
  | cons s L ih =>
    rw [List.flatten_cons, lastE_append, ← ih (fun s h => hL s (List.mem_cons_of_mem _ h)), lastE_inc (hL s List.mem_cons_self)]
    constructor
    · rintro ⟨i, t, h1, h2, h3⟩
      cases i with
      | zero =>
        rw [List.getElem?_cons_zero] at h1
        cases h1
        refine .inr ⟨h2, fun w hw => ?_⟩
        obtain ⟨t, ht, hw⟩ := List.mem_flatten.1 hw
        obtain ⟨j, hj⟩ := List.mem_iff_getElem?.1 ht
        exact h3 (j + 1) t (by omega) (by rw [List.getElem?_cons_succ]; exact hj) w hw
      | succ i =>
        rw [List.getElem?_cons_succ] at h1
        exact .inl ⟨i, t, h1, h2, fun j u hj hu => h3 (j + 1) u (by omega) (by rw [List.getElem?_cons_succ]; exact hu)⟩
    · rintro (⟨i, t, h1, h2, h3⟩ | ⟨h1, h2⟩)
      · refine ⟨i + 1, t, by rw [List.getElem?_cons_succ]; exact h1, h2, fun j u hj hu => ?_⟩
        cases j with
        | zero => omega
        | succ j =>
          rw [List.getElem?_cons_succ] at hu
          exact h3 j u (by omega) hu
      · refine ⟨0, s, rfl, h1, fun j u hj hu y hy => ?_⟩
        cases j with
        | zero => omega
        | succ j =>
          rw [List.getElem?_cons_succ] at hu
          exact h2 y (List.mem_flatten.2 ⟨u, List.mem_of_getElem? hu, hy⟩)
/-- What has won, in order, is the reference's Sort of all rows. -/
theorem sortE_win {L : List (List EdS)} (hL : ∀ s ∈ L, Inc s) {out : List EdS} (ho : Inc out) (h : ∀ x, x ∈ out ↔ WinE L x) : out = sortE L.flatten :=
  inc_unique ho (inc_sortE _) (fun x => by rw [h, winE_flat L hL, mem_sortE])
theorem winE_one {L : List (List EdS)} (hL : ∀ s ∈ L, Inc s) {x y : EdS} (hx : WinE L x) (hy : WinE L y) (e : x.k = y.k) : x = y := by
  obtain ⟨i, s, h1, h2, h3⟩ := hx
  obtain ⟨j, t, g1, g2, g3⟩ := hy
  rcases Nat.lt_trichotomy i j with h | rfl | h
  · exact absurd e.symm (h3 j t h g1 y g2)
  · rw [h1] at g1
    cases g1
    exact inc_key (hL s (List.mem_of_getElem? h1)) h2 g2 e
  · exact absurd e (g3 i s h h1 x h2)
end Go.Proofs.Ytkbcgcokokddlaa
/-
  Layer 15, plain: what remains of rows, and what a queue of them hands out. No program in sight.
-/
namespace Go.Proofs.Ytkbcgcokokddlaa
set_option linter.unusedVariables false

/-- A rest of a row, and the row's place. -/
abbrev RsE := List EdS × Nat
/-- Ahead of another in the queue: by the next key, and of one key the later row. -/
def LtR (x y : RsE) : Prop := ∃ a s b t, x.1 = a :: s ∧ y.1 = b :: t ∧ (LtE a b ∨ (a.k = b.k ∧ y.2 < x.2))
/-- What remains and what came out, together all of the rows. -/
structure Run (L : List (List EdS)) (R : List RsE) (out : List EdS) : Prop where
  suf : ∀ r ∈ R, r.1 ≠ [] ∧ ∃ s pre, L[r.2]? = some s ∧ s = pre ++ r.1
  nodup : (R.map Prod.snd).Nodup
  inc : Inc out
  win : ∀ x ∈ out, WinE L x
  all : ∀ (i : Nat) s y, L[i]? = some s → y ∈ s → (∃ r ∈ R, r.2 = i ∧ y ∈ r.1) ∨ ∃ x ∈ out, x.k = y.k
  low : ∀ x ∈ out, ∀ r ∈ R, ∀ y ∈ r.1, ¬ LtE y x
theorem Run.perm {L : List (List EdS)} {R R' : List RsE} {out : List EdS} (h : Run L R out) (hp : R.Perm R') : Run L R' out :=
  ⟨fun r hr => h.suf r (hp.mem_iff.2 hr), (hp.map Prod.snd).nodup_iff.1 h.nodup, h.inc, h.win,
   fun i s y hs hy => (h.all i s y hs hy).imp (fun ⟨r, h1, h2⟩ => ⟨r, hp.mem_iff.1 h1, h2⟩) id,
   fun x hx r hr => h.low x hx r (hp.mem_iff.2 hr)⟩
/-- The rests behind a step: the first row's first edit gone, and the row itself when that was its last. -/
def lessR (t : List EdS) (p : Nat) (R : List RsE) : List RsE := if t = [] then R else (t, p) :: R
theorem mem_lessR {t : List EdS} {p : Nat} {R : List RsE} {r : RsE} : r ∈ lessR t p R ↔ (t ≠ [] ∧ r = (t, p)) ∨ r ∈ R := by
  unfold lessR
  split
  · rename_i h
    simp [h]
  · rename_i h
    rw [List.mem_cons]
    simp [h]
theorem inc_suf {s pre t : List EdS} (h : Inc s) (e : s = pre ++ t) : Inc t := by
  rw [e] at h
  exact (List.pairwise_append.1 h).2.1
section
variable {L : List (List EdS)} (hL : ∀ s ∈ L, Inc s) {e : EdS} {t : List EdS} {p : Nat} {R : List RsE} {out : List EdS}
include hL
theorem run_rise (h : Run L ((e :: t, p) :: R) out) (hm : ∀ r ∈ R, ¬ LtR r (e :: t, p)) : (∀ y ∈ t, LtE e y) ∧ ∀ r ∈ R, ∀ y ∈ r.1, ¬ LtE y e ∧ (y.k = e.k → r.2 < p) := by
  obtain ⟨-, s, pre, h1, h2⟩ := h.suf _ List.mem_cons_self
  have hi := inc_suf (hL s (List.mem_of_getElem? h1)) h2
  refine ⟨(List.pairwise_cons.1 hi).1, fun r hr y hy => ?_⟩
  obtain ⟨hne, s', pre', g1, g2⟩ := h.suf r (List.mem_cons_of_mem _ hr)
  have hi' := inc_suf (hL s' (List.mem_of_getElem? g1)) g2
  obtain ⟨l, q⟩ := r
  cases l with
  | nil => exact absurd rfl hne
  | cons a l =>
    have hm := hm _ hr
    have hnd := h.nodup
    rw [List.map_cons, List.nodup_cons] at hnd
    have hq : q ≠ p := fun eq => hnd.1 (by rw [← eq]; exact List.mem_map.2 ⟨_, hr, rfl⟩)
    have h1 : ¬ LtE a e := fun h => hm ⟨a, l, e, t, rfl, rfl, .inl h⟩
    have h2 : a.k = e.k → ¬ p < q := fun h h' => hm ⟨a, l, e, t, rfl, rfl, .inr ⟨h, h'⟩⟩
    have h3 : y = a ∨ LtE a y := (List.mem_cons.1 hy).imp id ((List.pairwise_cons.1 hi').1 y)
    rcases h3 with rfl | h3
    · exact ⟨h1, fun h => by have := h2 h; show q < p; omega⟩
    · refine ⟨fun h => h1 (h3.trans h), fun h => absurd (h3.key h) h1⟩
omit hL in
theorem run_gone (h : Run L ((e :: t, p) :: R) out) {i : Nat} {s : List EdS} {y : EdS} (hs : L[i]? = some s) (hy : y ∈ s) : (∃ r ∈ lessR t p R, r.2 = i ∧ y ∈ r.1) ∨ (y = e ∧ i = p) ∨ ∃ x ∈ out, x.k = y.k := by
  rcases h.all i s y hs hy with ⟨r, hr, h1, h2⟩ | h'
  · rcases List.mem_cons.1 hr with rfl | hr
    · rcases List.mem_cons.1 h2 with rfl | h2
      · exact .inr (.inl ⟨rfl, h1.symm⟩)
      · exact .inl ⟨(t, p), mem_lessR.2 (.inl ⟨fun hn => (by rw [hn] at h2; cases h2), rfl⟩), h1, h2⟩
    · exact .inl ⟨r, mem_lessR.2 (.inr hr), h1, h2⟩
  · exact .inr (.inr h')
omit hL in
theorem run_suf (h : Run L ((e :: t, p) :: R) out) : (∀ r ∈ lessR t p R, r.1 ≠ [] ∧ ∃ s pre, L[r.2]? = some s ∧ s = pre ++ r.1) ∧ ((lessR t p R).map Prod.snd).Nodup := by
  constructor
  · intro r hr
    rcases mem_lessR.1 hr with ⟨hn, rfl⟩ | hr
    · obtain ⟨-, s, pre, h1, h2⟩ := h.suf _ List.mem_cons_self
      exact ⟨hn, s, pre ++ [e], h1, by rw [h2, List.append_assoc]; rfl⟩
    · exact h.suf r (List.mem_cons_of_mem _ hr)
  · have hnd := h.nodup
    rw [List.map_cons, List.nodup_cons] at hnd
    unfold lessR
    split
    · exact hnd.2
    · rw [List.map_cons, List.nodup_cons]
      exact hnd
omit hL in
/-- The next edit has the key of the last that came out: it is left. -/
theorem run_same (h : Run L ((e :: t, p) :: R) out) (hm : ∀ r ∈ R, ¬ LtR r (e :: t, p)) {x : EdS} (hx : x ∈ out) (hk : x.k = e.k) : Run L (lessR t p R) out := by
  obtain ⟨h1, h2⟩ := run_suf h
  refine ⟨h1, h2, h.inc, h.win, fun i s y hs hy => ?_, fun z hz r hr y hy => ?_⟩
  · rcases run_gone h hs hy with h' | ⟨rfl, -⟩ | h'
    · exact .inl h'
    · exact .inr ⟨x, hx, hk⟩
    · exact .inr h'
  · rcases mem_lessR.1 hr with ⟨hn, rfl⟩ | hr
    · exact h.low z hz _ List.mem_cons_self y (List.mem_cons_of_mem _ hy)
    · exact h.low z hz r (List.mem_cons_of_mem _ hr) y hy
omit hL in
/-- The next edit's key is none of those that came out. -/
theorem run_over (h : Run L ((e :: t, p) :: R) out) (hn : ∀ x, out.getLast? = some x → x.k ≠ e.k) : ∀ x ∈ out, LtE x e := by
  intro x hx
  rcases ltE_or x e with h' | h' | h'
  · exact h'
  · exfalso
    obtain ⟨z, hz⟩ : ∃ z, out.getLast? = some z := by
      cases ho : out.getLast? with
      | none => rw [List.getLast?_eq_none_iff.1 ho] at hx; cases hx
      | some z => exact ⟨z, rfl⟩
    obtain ⟨ys, hys⟩ := List.getLast?_eq_some_iff.1 hz
    have hzo : z ∈ out := by rw [hys]; exact List.mem_append_right _ List.mem_cons_self
    have hxz : x = z ∨ LtE x z := by
      have hi := h.inc
      unfold Inc at hi
      rw [hys, List.pairwise_append] at hi
      rw [hys] at hx
      rcases List.mem_append.1 hx with hx | hx
      · exact .inr (hi.2.2 x hx z List.mem_cons_self)
      · exact .inl (List.mem_singleton.1 hx)
    rcases hxz with rfl | hxz
    · exact hn x hz h'
    · exact h.low z hzo _ List.mem_cons_self e List.mem_cons_self (hxz.key' h')
  · exact absurd h' (h.low x hx _ List.mem_cons_self e List.mem_cons_self)
theorem run_wins (h : Run L ((e :: t, p) :: R) out) (hm : ∀ r ∈ R, ¬ LtR r (e :: t, p)) (hn : ∀ x, out.getLast? = some x → x.k ≠ e.k) : WinE L e := by
  obtain ⟨h1, h2⟩ := run_rise hL h hm
  have h3 := run_over h hn
  obtain ⟨-, s, pre, g1, g2⟩ := h.suf _ List.mem_cons_self
  refine ⟨p, s, g1, by rw [g2]; exact List.mem_append_right _ List.mem_cons_self, fun j u hj hu y hy hk => ?_⟩
  rcases h.all j u y hu hy with ⟨r, hr, rfl, h'⟩ | ⟨x, hx, h'⟩
  · rcases List.mem_cons.1 hr with rfl | hr
    · exact absurd hj (Nat.lt_irrefl _)
    · have := (h2 r hr y h').2 hk
      omega
  · exact (h3 x hx).ne (h'.trans hk)
theorem run_new (h : Run L ((e :: t, p) :: R) out) (hm : ∀ r ∈ R, ¬ LtR r (e :: t, p)) (hn : ∀ x, out.getLast? = some x → x.k ≠ e.k) : Run L (lessR t p R) (out ++ [e]) := by
  obtain ⟨h1, h2⟩ := run_suf h
  obtain ⟨r1, r2⟩ := run_rise hL h hm
  have h3 := run_over h hn
  have hw := run_wins hL h hm hn
  refine ⟨h1, h2, ?_, fun x hx => ?_, fun i s y hs hy => ?_, fun z hz r hr y hy => ?_⟩
  · exact List.pairwise_append.2 ⟨h.inc, List.pairwise_cons.2 ⟨fun _ hh => (by cases hh), .nil⟩, fun x hx y hy => by rw [List.mem_singleton.1 hy]; exact h3 x hx⟩
  · rcases List.mem_append.1 hx with hx | hx
    · exact h.win x hx
    · rw [List.mem_singleton.1 hx]
      exact hw
  · rcases run_gone h hs hy with h' | ⟨rfl, -⟩ | ⟨x, hx, h'⟩
    · exact .inl h'
    · exact .inr ⟨y, List.mem_append_right _ List.mem_cons_self, rfl⟩
    · exact .inr ⟨x, List.mem_append_left _ hx, h'⟩
  · rcases List.mem_append.1 hz with hz | hz
    · rcases mem_lessR.1 hr with ⟨hn, rfl⟩ | hr
      · exact h.low z hz _ List.mem_cons_self y (List.mem_cons_of_mem _ hy)
      · exact h.low z hz r (List.mem_cons_of_mem _ hr) y hy
    · rw [List.mem_singleton.1 hz]
      rcases mem_lessR.1 hr with ⟨hn, rfl⟩ | hr
      · exact (r1 y hy).turn
      · exact (r2 r hr y hy).1
/-- Nothing remains: what came out is the reference's Sort of all rows. -/
theorem run_end (h : Run L [] out) : out = sortE L.flatten := by
  refine sortE_win hL h.inc (fun x => ⟨h.win x, fun hx => ?_⟩)
  obtain ⟨i, s, h1, h2, -⟩ := id hx
  rcases h.all i s x h1 h2 with ⟨r, hr, -⟩ | ⟨y, hy, hk⟩
  · cases hr
  · rw [← winE_one hL (h.win y hy) hx hk]
    exact hy
omit hL in
theorem inc_short {a b : List EdS} (ha : Inc a) (h : ∀ x ∈ a, x ∈ b) : a.length ≤ b.length := by
  induction a generalizing b with
  | nil => exact Nat.zero_le _
  | cons x a ih =>
    obtain ⟨a1, a2⟩ := List.pairwise_cons.1 ha
    obtain ⟨b1, b2, hb⟩ := List.append_of_mem (h x List.mem_cons_self)
    have hh : ∀ y ∈ a, y ∈ b1 ++ b2 := fun y hy => by
      have h1 := h y (List.mem_cons_of_mem _ hy)
      rw [hb] at h1
      rcases List.mem_append.1 h1 with h1 | h1
      · exact List.mem_append_left _ h1
      · rcases List.mem_cons.1 h1 with rfl | h1
        · exact absurd rfl (a1 _ hy).ne
        · exact List.mem_append_right _ h1
    have := ih a2 hh
    rw [hb]
    rw [List.length_append] at this
    rw [List.length_append, List.length_cons, List.length_cons]
    omega
/-- One more key than so many: the reference's Sort is longer than these. -/
theorem run_long (h : Run L ((e :: t, p) :: R) out) (hm : ∀ r ∈ R, ¬ LtR r (e :: t, p)) (hn : ∀ x, out.getLast? = some x → x.k ≠ e.k) : out.length < (sortE L.flatten).length := by
  have h' := run_new hL h hm hn
  have := inc_short h'.inc (b := sortE L.flatten) (fun x hx => by rw [mem_sortE, ← winE_flat L hL]; exact h'.win x hx)
  rw [List.length_append, List.length_singleton] at this
  omega
end
/-- Each row that is not empty, with its place. -/
def startR : Nat → List (List EdS) → List RsE
  | _, [] => []
  | i, s :: L => if s = [] then startR (i + 1) L else (s, i) :: startR (i + 1) L
theorem startR_cons (i : Nat) (s : List EdS) (L : List (List EdS)) : startR i (s :: L) = if s = [] then startR (i + 1) L else (s, i) :: startR (i + 1) L := rfl
theorem startR_mem (L : List (List EdS)) : ∀ (i : Nat) (r : RsE), r ∈ startR i L ↔ r.1 ≠ [] ∧ i ≤ r.2 ∧ L[r.2 - i]? = some r.1 := by
  induction L with
  | nil => intro i r; simp [startR]
  | cons s L ih =>
    intro i r
    have hs : r ∈ startR i (s :: L) ↔ (s ≠ [] ∧ r = (s, i)) ∨ r ∈ startR (i + 1) L := by
      rw [startR_cons]
      split
      · rename_i h; simp [h]
      · rename_i h; rw [List.mem_cons]; simp [h]
    rw [hs, ih]
    obtain ⟨l, q⟩ := r
    constructor
    · rintro (⟨h1, h2⟩ | ⟨h1, h2, h3⟩)
      · cases h2
        exact ⟨h1, Nat.le_refl _, by simp⟩
      · refine ⟨h1, by simp only at h2 ⊢; omega, ?_⟩
        simp only at h2 h3 ⊢
        rw [show q - i = (q - (i + 1)) + 1 by omega, List.getElem?_cons_succ]
        exact h3
    · rintro ⟨h1, h2, h3⟩
      simp only at h1 h2 h3
      by_cases hq : q = i
      · subst hq
        rw [Nat.sub_self, List.getElem?_cons_zero] at h3
        cases h3
        exact .inl ⟨h1, rfl⟩
      · refine .inr ⟨h1, by simp only; omega, ?_⟩
        simp only
        rw [show q - i = (q - (i + 1)) + 1 by omega, List.getElem?_cons_succ] at h3
        exact h3
theorem startR_nodup (L : List (List EdS)) : ∀ i : Nat, ((startR i L).map Prod.snd).Nodup := by
  induction L with
  | nil => intro i; exact .nil
  | cons s L ih =>
    intro i
    rw [startR_cons]
    split
    · exact ih _
    · rw [List.map_cons, List.nodup_cons]
      refine ⟨fun h => ?_, ih _⟩
      obtain ⟨r, hr, he⟩ := List.mem_map.1 h
      have h2 := ((startR_mem L (i + 1) r).1 hr).2.1
      simp only at he
      omega
theorem run_start (L : List (List EdS)) : Run L (startR 0 L) [] := by
  refine ⟨fun r hr => ?_, startR_nodup L 0, .nil, nofun, fun i s y hs hy => .inl ⟨(s, i), ?_, rfl, hy⟩, nofun⟩
  · obtain ⟨h1, -, h3⟩ := (startR_mem L 0 r).1 hr
    exact ⟨h1, r.1, [], h3, rfl⟩
  · exact (startR_mem L 0 _).2 ⟨fun h => (by simp only at h; rw [h] at hy; cases hy), Nat.zero_le _, hs⟩
theorem startR_snoc (L : List (List EdS)) (s : List EdS) : ∀ i : Nat, startR i (L ++ [s]) = startR i L ++ (if s = [] then [] else [(s, i + L.length)]) := by
  induction L with
  | nil =>
    intro i
    rw [List.nil_append, startR_cons]
    show _ = [] ++ _
    rw [List.nil_append, List.length_nil, Nat.add_zero]
    rfl
  | cons u L ih =>
    intro i
    rw [List.cons_append, startR_cons, startR_cons, ih, List.length_cons, show i + 1 + L.length = i + (L.length + 1) by omega]
    split
    · rfl
    · rfl
end Go.Proofs.Ytkbcgcokokddlaa
