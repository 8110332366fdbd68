import Derived.WalkKit
import Derived.WalkSpells
import Derived.WalkLawsBesides
import Derived.Laws.CopyOwn
import Derived.Maps.AppendAt
import Derived.Deep.AppendLies
import Derived.Deep.Draws
import Derived.Test.YtlknmpnjhbdlhaaDoorRows
import Derived.ProofKit
import Derived.OpenShut
import Derived.ShutString
import Derived.ChangeOld
import Derived.Below
import Derived.Laws.IdiomArrays
import Derived.Deep.Slices
import Derived.Deep.Fields
import Derived.ChangeSame
import Derived.Lib.SmallJoins
import Derived.Deep.Modes
/-
  Words for memory used by all contracts of this seat: what a slice shows, kept over draws, new blocks, stores elsewhere; byte slices; small facts on worlds. No program in sight.
-/
namespace Go.Proofs.YtlknmpnjhbdlhaaDoor
open Go.RowKit

theorem addr_add (b off j : Nat) : (⟨b, off, none⟩ : Addr).add j = ⟨b, off + j, none⟩ := by
  unfold Addr.add; split <;> simp_all

theorem cell_set {w : World} {p : Addr} {v : Value} (h : w.cell? p = some v) (u : Value) : (w.setCell p u).cell? p = some u := World.cell?_setCell_same w p u h
theorem frozen_set (w : World) (p q : Addr) (u : Value) : (w.setCell p u).frozen? q = w.frozen? q := by simp
theorem size_set (w : World) (p : Addr) (u : Value) : (w.setCell p u).heap.size = w.heap.size := by simp [World.setCell]

theorem cell_keep {w : World} {a : Addr} {v : Value} (h : w.cell? a = some v) (o : Obj) : (w.alloc o).cell? a = some v := by
  rw [World.cell?_alloc_lt _ _ _ (World.block_lt_of_cell? w _ h)]
  exact h
theorem frozen_keep {w : World} {a : Addr} {v : Value} (h : w.cell? a = some v) (o : Obj) : (w.alloc o).frozen? a = w.frozen? a :=
  World.frozen?_alloc_old w o a (Nat.ne_of_lt (World.block_lt_of_cell? w _ h))
theorem below_undrew {B : Nat} {w w' : World} (h : Below B w.drew w') : Below B w w' := ⟨h.os, h.tape, h.output, h.size, h.block⟩
theorem below_drewN {B : Nat} {w w' : World} (h : Below B w w') (k : Nat) : Below B w (w'.drewN k) := ⟨h.os, h.tape, h.output, h.size, h.block⟩
theorem below_undrewN {B k : Nat} {w w' : World} (h : Below B (w.drewN k) w') : Below B w w' := ⟨h.os, h.tape, h.output, h.size, h.block⟩

/-- The slice value with address A and n elements of 'size' cells each shows the cells xs, in a block below B. -/
def Shows (w : World) (B size : Nat) (A : Option Addr) (n : Nat) (xs : List Value) : Prop :=
  xs.length = n * size ∧ (0 < n → ∃ b off, A = some ⟨b, off, none⟩ ∧ b < B ∧ ∀ j u, xs[j]? = some u → w.cell? ⟨b, off + j, none⟩ = some u)

section
variable {w w' : World} {B B' size n : Nat} {A : Option Addr} {xs : List Value}
theorem Shows.zero (A : Option Addr) : Shows w B size A 0 [] := ⟨by simp, fun h => absurd h (by omega)⟩
theorem Shows.keep (h : Shows w B size A n xs) (hk : ∀ p : Addr, p.block < B → w'.cell? p = w.cell? p) : Shows w' B size A n xs :=
  ⟨h.1, fun hn => by
    obtain ⟨b, off, e, hb, hc⟩ := h.2 hn
    exact ⟨b, off, e, hb, fun j u hu => (hk _ hb).trans (hc j u hu)⟩⟩
theorem Shows.more (h : Shows w B size A n xs) (hB : B ≤ B') : Shows w B' size A n xs :=
  ⟨h.1, fun hn => by
    obtain ⟨b, off, e, hb, hc⟩ := h.2 hn
    exact ⟨b, off, e, by omega, hc⟩⟩
theorem Shows.below (h : Shows w B size A n xs) (hb : Below B w w') : Shows w' B size A n xs := h.keep fun _ hp => hb.cell hp
theorem Shows.drew (h : Shows w B size A n xs) : Shows w.drew B size A n xs := h
theorem Shows.drewN (h : Shows w B size A n xs) (k : Nat) : Shows (w.drewN k) B size A n xs := h
theorem Shows.alloc (h : Shows w B size A n xs) (hB : B ≤ w.heap.size) (o : Obj) : Shows (w.alloc o) B size A n xs := h.keep fun p hp => World.cell?_alloc_lt w o p (by omega)
theorem Shows.setCell (h : Shows w B size A n xs) {p : Addr} (hB : B ≤ p.block) (u : Value) : Shows (w.setCell p u) B size A n xs :=
  h.keep fun q hq => World.cell?_setCell_other w p q u (fun e => by subst e; omega)
theorem Shows.cut (h : Shows w B size A n xs) {k cap : Nat} (hk : k ≤ n) (hc : n ≤ cap) :
    Shows w B size (if cap = k then A else A.map (·.add (k * size))) (n - k) (xs.drop (k * size)) := by
  refine ⟨by rw [List.length_drop, h.1, Nat.sub_mul], fun hn => ?_⟩
  obtain ⟨b, off, rfl, hb, hcell⟩ := h.2 (by omega)
  rw [if_neg (by omega)]
  refine ⟨b, off + k * size, by rw [Option.map_some, addr_add], hb, fun j u hu => ?_⟩
  rw [Nat.add_assoc]
  exact hcell _ u (by rw [← hu, List.getElem?_drop])
theorem Shows.first (h : Shows w B size A n xs) {k : Nat} (hk : k ≤ n) : Shows w B size A k (xs.take (k * size)) := by
  refine ⟨by rw [List.length_take, h.1]; exact Nat.min_eq_left (Nat.mul_le_mul_right _ hk), fun hn => ?_⟩
  obtain ⟨b, off, rfl, hb, hcell⟩ := h.2 (by omega)
  refine ⟨b, off, rfl, hb, fun j u hu => hcell j u ?_⟩
  rw [List.getElem?_take] at hu
  split at hu
  · exact hu
  · cases hu
theorem Shows.own {base : Nat} {e : TypeId} {c : Nat} (h : w.ownsRow base e size (.slice A n c) n xs) : Shows w w.heap.size size A n xs := by
  refine ⟨h.1, fun hn => ?_⟩
  obtain ⟨g, cap, hv, _, hlt⟩ := h.form hn
  have hA : A = some ⟨g, 0, none⟩ := by injection hv
  subst hA
  refine ⟨g, 0, rfl, hlt, fun j u hu => ?_⟩
  have := h.cells (g := g) rfl j u hu
  rwa [addr_add] at this
end

/-- A byte as a cell holds it. -/
def bv (x : UInt8) : Value := .int .u8 (x.toNat : Int)
/-- The byte at a place, as a number. -/
def at8 (l : List UInt8) (k : Nat) : Int := ((l.getD k 0).toNat : Int)
theorem at8_lo (l : List UInt8) (k : Nat) : 0 ≤ at8 l k := by unfold at8; omega
theorem at8_hi (l : List UInt8) (k : Nat) : at8 l k ≤ 255 := by unfold at8; have := (l.getD k 0).toNat_lt; omega
theorem at8_bv {l : List UInt8} {k : Nat} (h : k < l.length) : (l.map bv)[k]? = some (.int .u8 (at8 l k)) := by
  rw [List.getElem?_map, List.getElem?_eq_getElem h]
  unfold at8
  rw [List.getD_eq_getElem?_getD, List.getElem?_eq_getElem h]
  rfl
theorem at8_inj {l m : List UInt8} {k j : Nat} (h : at8 l k = at8 m j) : l.getD k 0 = m.getD j 0 := UInt8.toNat_inj.1 (Int.ofNat_inj.1 h)
theorem take_snoc (l : List UInt8) (k : Nat) (h : k < l.length) : l.take (k + 1) = l.take k ++ [l.getD k 0] := by
  rw [List.take_succ_eq_append_getElem h, List.getD_eq_getElem?_getD, List.getElem?_eq_getElem h]
  rfl
/-- A slice of bytes. -/
def Bytes (w : World) (B : Nat) (A : Option Addr) (n : Nat) (l : List UInt8) : Prop := Shows w B 1 A n (l.map bv)

section
variable {w w' : World} {B B' n : Nat} {A : Option Addr} {l : List UInt8}
theorem Bytes.len (h : Bytes w B A n l) : l.length = n := by have := h.1; simpa using this
theorem Bytes.zero (A : Option Addr) : Bytes w B A 0 [] := Shows.zero A
theorem Bytes.keep (h : Bytes w B A n l) (hk : ∀ p : Addr, p.block < B → w'.cell? p = w.cell? p) : Bytes w' B A n l := Shows.keep h hk
theorem Bytes.more (h : Bytes w B A n l) (hB : B ≤ B') : Bytes w B' A n l := Shows.more h hB
theorem Bytes.below (h : Bytes w B A n l) (hb : Below B w w') : Bytes w' B A n l := Shows.below h hb
theorem Bytes.drew (h : Bytes w B A n l) : Bytes w.drew B A n l := h
theorem Bytes.drewN (h : Bytes w B A n l) (k : Nat) : Bytes (w.drewN k) B A n l := h
theorem Bytes.alloc (h : Bytes w B A n l) (hB : B ≤ w.heap.size) (o : Obj) : Bytes (w.alloc o) B A n l := Shows.alloc h hB o
theorem Bytes.setCell (h : Bytes w B A n l) {p : Addr} (hB : B ≤ p.block) (u : Value) : Bytes (w.setCell p u) B A n l := Shows.setCell h hB u
theorem Bytes.cut (h : Bytes w B A n l) {k cap : Nat} (hk : k ≤ n) (hc : n ≤ cap) : Bytes w B (if cap = k then A else A.map (·.add k)) (n - k) (l.drop k) := by
  have := Shows.cut h hk hc
  unfold Bytes
  simpa [List.map_drop] using this
theorem Bytes.first (h : Bytes w B A n l) {k : Nat} (hk : k ≤ n) : Bytes w B A k (l.take k) := by
  have := Shows.first h hk
  unfold Bytes
  simpa [List.map_take] using this
theorem Bytes.cell (h : Bytes w B A n l) {k : Nat} (hk : k < n) : ∃ b off, A = some ⟨b, off, none⟩ ∧ b < B ∧ w.cell? ⟨b, off + k, none⟩ = some (.int .u8 (at8 l k)) := by
  obtain ⟨b, off, e, hb, hc⟩ := h.2 (by omega)
  exact ⟨b, off, e, hb, hc k _ (at8_bv (by have := h.len; omega))⟩
theorem Bytes.own {base : Nat} {e : TypeId} {c : Nat} (h : w.ownsRow base e 1 (.slice A n c) n (l.map bv)) : Bytes w w.heap.size A n l := Shows.own h
end

theorem bytes_new (w : World) (l : List UInt8) (C : Array Value) (t : TypeId) (fr : Nat × Nat) (hC : C.toList = l.map bv) : Bytes (w.alloc (.cells C t fr)) (w.heap.size + 1) (some ⟨w.heap.size, 0, none⟩) l.length l :=
  ⟨by simp, fun _ => ⟨w.heap.size, 0, rfl, by omega, fun j u hu => by
    rw [cell_of_row _ _ _ _ _ _ (heap_alloc_new w _), Nat.zero_add]
    rw [← hC] at hu
    simpa using hu⟩⟩

/-- What a call that gives a slice of bytes of its own hands back. -/
def GivesBytes (e8 : TypeId) (l : List UInt8) (W : World) (e : Ending) (w' : World) : Prop :=
  ∃ A n c, e = .returned (.slice A n c) ∧ w'.ownsRow W.heap.size e8 1 (.slice A n c) n (l.map bv) ∧ Below W.heap.size W w'
theorem own_form {w : World} {base : Nat} {e : TypeId} {v : Value} {n : Nat} {xs : List Value} {size : Nat} (h : w.ownsRow base e size v n xs) : ∃ A c, v = .slice A n c ∧ n ≤ c ∧ c ≤ maxLen := by
  rcases h.2 with ⟨rfl, rfl⟩ | ⟨g, cap, cur, rfl, _, _, h1, h2, _⟩
  · exact ⟨none, 0, rfl, Nat.le_refl _, by unfold maxLen; omega⟩
  · exact ⟨_, cap, rfl, h1, h2⟩
theorem own_below {w w' : World} {base : Nat} {e : TypeId} {v : Value} {n : Nat} {xs : List Value} {size : Nat} (h : w.ownsRow base e size v n xs) (hb : Below w.heap.size w w') : w'.ownsRow base e size v n xs :=
  h.kept (row := none) ⟨hb.os, hb.tape, hb.output, hb.size, fun k hk _ => hb.block k hk⟩ (by cases hv : v.ownBlock <;> simp)
theorem own_base {w : World} {base base' : Nat} {e : TypeId} {v : Value} {n : Nat} {xs : List Value} {size : Nat} (h : w.ownsRow base e size v n xs) (hb : base' ≤ base) : w.ownsRow base' e size v n xs := by
  refine ⟨h.1, ?_⟩
  rcases h.2 with h2 | ⟨g, cap, cur, hv, hg, r⟩
  · exact .inl h2
  · exact .inr ⟨g, cap, cur, hv, Nat.le_trans hb hg, r⟩
theorem bv_one (l : List UInt8) : ∀ u ∈ l.map bv, u.oneCell' = true := by
  intro u hu
  obtain ⟨x, _, rfl⟩ := List.mem_map.1 hu
  rfl
end Go.Proofs.YtlknmpnjhbdlhaaDoor
/-
  Cells of new blocks in later worlds; the steps of 'nothing below has turned'. No program in sight.
-/
namespace Go.Proofs.YtlknmpnjhbdlhaaDoor
open Go.RowKit
theorem new_later {w w1 : World} {C : Array Value} {t : TypeId} (hb : Below (w.alloc (.cells C t)).heap.size (w.alloc (.cells C t)) w1) (k : Nat) {v : Value} (hk : C[k]? = some v) : w1.cell? ⟨w.heap.size, k, none⟩ = some v :=
  (hb.cell (p := ⟨w.heap.size, k, none⟩) (by simp)).trans ((World.cell?_alloc_new w C t k).trans hk)
theorem kept_later {w w1 : World} (hb : Below w.heap.size w w1) {p : Addr} {v : Value} (h : w.cell? p = some v) : w1.cell? p = some v :=
  (hb.cell (p := p) (World.block_lt_of_cell? w _ h)).trans h
theorem froz_later {w w1 : World} (hb : Below w.heap.size w w1) {p : Addr} {v : Value} (h : w.cell? p = some v) {b : Bool} (hf : w.frozen? p = b) : w1.frozen? p = b :=
  (hb.frozen (World.block_lt_of_cell? w _ h)).trans hf
theorem S_call {W0 w1 w2 : World} {B : Nat} (hb : Below B w1 w2) (h : Below W0.heap.size W0 w1) (hB : B = w1.heap.size) : Below W0.heap.size W0 w2 := h.trans (hb.mono (by rw [hB]; exact h.size))
theorem S_alloc {W0 w1 : World} {o : Obj} (h : Below W0.heap.size W0 w1) : Below W0.heap.size W0 (w1.alloc o) := h.alloc h.size _
theorem bel_next {a b c : World} (h : Below a.heap.size a b) (k : Below b.heap.size b c) : Below a.heap.size a c := h.trans (k.mono h.size)
theorem bel_alloc {a b : World} (h : Below a.heap.size a b) (o : Obj) : Below a.heap.size a (b.alloc o) := h.alloc h.size o

/-- Block b holds these cells, and they may be written. -/
def Box (W : World) (b : Nat) (C : List Value) : Prop := ∀ k v, C[k]? = some v → W.cell? ⟨b, k, none⟩ = some v ∧ W.frozen? ⟨b, k, none⟩ = false
theorem Box.new (w : World) (C : Array Value) (t : TypeId) : Box (w.alloc (.cells C t)) w.heap.size C.toList := fun k v h => by
  refine ⟨(World.cell?_alloc_new w C t k).trans (by simpa using h), ?_⟩
  go_simp
theorem Box.new' (w : World) (C : Array Value) (t : TypeId) {b : Nat} (hb : b = w.heap.size) : Box (w.alloc (.cells C t)) b C.toList := by subst hb; exact Box.new w C t
theorem Box.later {W W' : World} {b : Nat} {C : List Value} (h : Box W b C) (hb : Below W.heap.size W W') : Box W' b C := fun k v hk =>
  ⟨kept_later hb (h k v hk).1, froz_later hb (h k v hk).1 (h k v hk).2⟩
theorem Box.alloc {W : World} {b : Nat} {C : List Value} (h : Box W b C) (o : Obj) : Box (W.alloc o) b C := h.later ((Below.refl _ _).alloc (Nat.le_refl _) o)
theorem Box.drewN {W : World} {b : Nat} {C : List Value} (h : Box W b C) (n : Nat) : Box (W.drewN n) b C := h
theorem Box.lt {W : World} {b : Nat} {C : List Value} (h : Box W b C) (hC : 0 < C.length) : b < W.heap.size :=
  World.block_lt_of_cell? W _ (h 0 (C[0]) (List.getElem?_eq_getElem hC)).1
/-- A store into another block. -/
theorem Box.setCell {W : World} {b : Nat} {C : List Value} (h : Box W b C) {p : Addr} (hp : p.block ≠ b) (u : Value) : Box (W.setCell p u) b C := fun k v hk =>
  ⟨(World.cell?_setCell_other W p ⟨b, k, none⟩ u (fun e => hp (by rw [e]))).trans (h k v hk).1, by rw [World.frozen?_setCell]; exact (h k v hk).2⟩
/-- Four stores, cell by cell. -/
def set4 (W : World) (b : Nat) (x0 x1 x2 x3 : Value) : World := (((W.setCell ⟨b, 0, none⟩ x0).setCell ⟨b, 1, none⟩ x1).setCell ⟨b, 2, none⟩ x2).setCell ⟨b, 3, none⟩ x3
theorem Box.set4 {W : World} {b : Nat} {y0 y1 y2 y3 : Value} (h : Box W b [y0, y1, y2, y3]) (x0 x1 x2 x3 : Value) : Box (set4 W b x0 x1 x2 x3) b [x0, x1, x2, x3] := by
  have h0 := h 0 _ rfl
  have h1 := h 1 _ rfl
  have h2 := h 2 _ rfl
  have h3 := h 3 _ rfl
  have ne : ∀ i j : Nat, i ≠ j → (⟨b, i, none⟩ : Addr) ≠ ⟨b, j, none⟩ := fun i j e h => e (by injection h)
  intro k v hk
  unfold Proofs.YtlknmpnjhbdlhaaDoor.set4
  simp only [World.frozen?_setCell]
  match k, hk with
  | 0, hk =>
    cases hk
    refine ⟨?_, h0.2⟩
    rw [World.cell?_setCell_other _ _ _ _ (ne _ _ (by omega)), World.cell?_setCell_other _ _ _ _ (ne _ _ (by omega)), World.cell?_setCell_other _ _ _ _ (ne _ _ (by omega))]
    exact cell_set h0.1 _
  | 1, hk =>
    cases hk
    refine ⟨?_, h1.2⟩
    rw [World.cell?_setCell_other _ _ _ _ (ne _ _ (by omega)), World.cell?_setCell_other _ _ _ _ (ne _ _ (by omega))]
    exact cell_set ((World.cell?_setCell_other _ _ _ _ (ne _ _ (by omega))).trans h1.1) _
  | 2, hk =>
    cases hk
    refine ⟨?_, h2.2⟩
    rw [World.cell?_setCell_other _ _ _ _ (ne _ _ (by omega))]
    exact cell_set ((World.cell?_setCell_other _ _ _ _ (ne _ _ (by omega))).trans ((World.cell?_setCell_other _ _ _ _ (ne _ _ (by omega))).trans h2.1)) _
  | 3, hk =>
    cases hk
    refine ⟨?_, h3.2⟩
    exact cell_set ((World.cell?_setCell_other _ _ _ _ (ne _ _ (by omega))).trans ((World.cell?_setCell_other _ _ _ _ (ne _ _ (by omega))).trans ((World.cell?_setCell_other _ _ _ _ (ne _ _ (by omega))).trans h3.1))) _
theorem Box.far4 {W : World} {b g : Nat} {C : List Value} (h : Box W b C) (x0 x1 x2 x3 : Value) (hg : g ≠ b) : Box (Proofs.YtlknmpnjhbdlhaaDoor.set4 W g x0 x1 x2 x3) b C :=
  (((h.setCell (p := ⟨g, 0, none⟩) hg x0).setCell (p := ⟨g, 1, none⟩) hg x1).setCell (p := ⟨g, 2, none⟩) hg x2).setCell (p := ⟨g, 3, none⟩) hg x3
theorem below_set4 {a W : World} {B b : Nat} (h : Below B a W) (hb : B ≤ b) (x0 x1 x2 x3 : Value) : Below B a (set4 W b x0 x1 x2 x3) :=
  (((h.setCell (p := ⟨b, 0, none⟩) hb x0).setCell (p := ⟨b, 1, none⟩) hb x1).setCell (p := ⟨b, 2, none⟩) hb x2).setCell (p := ⟨b, 3, none⟩) hb x3
end Go.Proofs.YtlknmpnjhbdlhaaDoor
/-
  Layer 10, plain: files, where they lie, how long they are, which may be. No program in sight.
-/
namespace Go.Proofs.YtlknmpnjhbdlhaaDoor
open Go.RowKit
set_option linter.unusedVariables false

/-- A row of bytes, with its head. -/
structure PcT where
  A : Option Addr
  n : Nat
  c : Nat
  l : List UInt8
def PcT.val (p : PcT) : Value := .slice p.A p.n p.c
structure PcT.Ok (w : World) (B : Nat) (p : PcT) : Prop where
  here : Bytes w B p.A p.n p.l
  nil : p.A = none → p.c = 0
  fits : p.n ≤ p.c
  most : p.c ≤ maxLen
theorem PcT.Ok.later {w w' : World} {B : Nat} {p : PcT} (h : p.Ok w B) (hb : Below B w w') : p.Ok w' B := ⟨h.here.below hb, h.nil, h.fits, h.most⟩
theorem PcT.Ok.more {w : World} {B B' : Nat} {p : PcT} (h : p.Ok w B) (hB : B ≤ B') : p.Ok w B' := ⟨h.here.more hB, h.nil, h.fits, h.most⟩
theorem PcT.Ok.len {w : World} {B : Nat} {p : PcT} (h : p.Ok w B) : p.l.length = p.n := h.here.len
def joinP (L : List PcT) : List UInt8 := L.flatMap (·.l)
theorem joinP_nil : joinP [] = [] := rfl
theorem joinP_cons (p : PcT) (L : List PcT) : joinP (p :: L) = p.l ++ joinP L := by unfold joinP; rw [List.flatMap_cons]
theorem joinP_append (L M : List PcT) : joinP (L ++ M) = joinP L ++ joinP M := by unfold joinP; rw [List.flatMap_append]
theorem joinP_snoc (L : List PcT) (p : PcT) : joinP (L ++ [p]) = joinP L ++ p.l := by rw [joinP_append, joinP_cons, joinP_nil, List.append_nil]
theorem joinP_take {L : List PcT} {k : Nat} {p : PcT} (h : L[k]? = some p) : joinP (L.take (k + 1)) = joinP (L.take k) ++ p.l := by
  rw [List.take_add_one, h]
  exact joinP_snoc _ _

/-- A file, with the heads of its rows. -/
structure FileT where
  F : PcT
  lA : Option Addr
  ln : Nat
  lc : Nat
  L : List PcT
  fuse : Int
  fault : Int
  off : Bool
def FileT.agg (X : FileT) : Value := .agg #[X.F.val, .slice X.lA X.ln X.lc, .int .i64 X.fuse, .int .i64 X.fault, .bool X.off]
def FileT.all (X : FileT) : List UInt8 := X.F.l ++ joinP X.L
structure LieF (w : World) (B : Nat) (X : FileT) : Prop where
  firm : X.F.Ok w B
  row : Shows w B 1 X.lA X.ln (X.L.map PcT.val)
  loose : ∀ p ∈ X.L, p.Ok w B
  nil : X.lA = none → X.lc = 0
  fits : X.ln ≤ X.lc
  most : X.lc ≤ maxLen
  fuse : (Lit.int .i64 X.fuse).wf = true
  fault : (Lit.int .i64 X.fault).wf = true
theorem LieF.later {w w' : World} {B : Nat} {X : FileT} (h : LieF w B X) (hb : Below B w w') : LieF w' B X :=
  ⟨h.firm.later hb, h.row.below hb, fun p hp => (h.loose p hp).later hb, h.nil, h.fits, h.most, h.fuse, h.fault⟩
theorem LieF.more {w : World} {B B' : Nat} {X : FileT} (h : LieF w B X) (hB : B ≤ B') : LieF w B' X :=
  ⟨h.firm.more hB, h.row.more hB, fun p hp => (h.loose p hp).more hB, h.nil, h.fits, h.most, h.fuse, h.fault⟩
theorem LieF.len {w : World} {B : Nat} {X : FileT} (h : LieF w B X) : X.L.length = X.ln := by have := h.row.1; simpa using this
/-- A piece's cell. -/
theorem pc_at {w : World} {B : Nat} {A : Option Addr} {n : Nat} {L : List PcT} (h : Shows w B 1 A n (L.map PcT.val)) {k : Nat} (hk : k < n) : ∃ b off p, A = some ⟨b, off, none⟩ ∧ b < B ∧ L[k]? = some p ∧ w.cell? ⟨b, off + k, none⟩ = some (.slice p.A p.n p.c) := by
  obtain ⟨b, off, rfl, hb, hc⟩ := h.2 (by omega)
  have hl : L.length = n := by have := h.1; simpa using this
  have hp : L[k]? = some (L[k]'(by omega)) := List.getElem?_eq_getElem (by omega)
  exact ⟨b, off, _, rfl, hb, hp, hc k _ (by rw [List.getElem?_map, hp]; rfl)⟩

/-- How long: up to where it is too long. -/
def lenGo : List PcT → Nat → Nat
  | [], n => n
  | p :: L, n => if 524288 < n then n else lenGo L (n + p.n)
def FileT.long (X : FileT) : Nat := lenGo X.L X.F.n
def sumN (L : List PcT) : Nat := (L.map (·.n)).sum
theorem lenGo_over : ∀ (L : List PcT) (n : Nat), 524288 < n → lenGo L n = n
  | [], n, h => rfl
  | p :: L, n, h => by unfold lenGo; rw [if_pos h]
theorem lenGo_is : ∀ (L : List PcT) (n : Nat), (n + sumN L ≤ 524288 → lenGo L n = n + sumN L) ∧ (524288 < n + sumN L → 524288 < lenGo L n)
  | [], n => by simp [lenGo, sumN]
  | p :: L, n => by
    have e : sumN (p :: L) = p.n + sumN L := by simp [sumN]
    obtain ⟨h1, h2⟩ := lenGo_is L (n + p.n)
    rw [e]
    by_cases h : 524288 < n
    · unfold lenGo
      rw [if_pos h]
      exact ⟨fun h' => by omega, fun _ => h⟩
    · unfold lenGo
      rw [if_neg h]
      exact ⟨fun h' => by rw [h1 (by omega)]; omega, fun h' => h2 (by omega)⟩
theorem lenGo_take {L : List PcT} {k : Nat} {p : PcT} {n : Nat} (h : L[k]? = some p) (hn : n + sumN (L.take k) ≤ 524288) : n + sumN (L.take (k + 1)) = n + sumN (L.take k) + p.n := by
  have : sumN (L.take (k + 1)) = sumN (L.take k) + p.n := by
    unfold sumN
    rw [List.take_add_one, h]
    simp
  omega
theorem sumN_len {w : World} {B : Nat} {L : List PcT} (h : ∀ p ∈ L, p.Ok w B) : (joinP L).length = sumN L := by
  induction L with
  | nil => rfl
  | cons p L ih =>
    rw [joinP_cons, List.length_append, ih fun q hq => h q (List.mem_cons_of_mem _ hq), (h p (List.mem_cons_self ..)).len]
    simp [sumN]
/-- May a file be? -/
def FileT.right (X : FileT) : Bool := X.L.all (fun p => !(p.n == 0)) && (decide (-1 ≤ X.fuse) && (decide (-1 ≤ X.fault) && ((!X.off || X.fuse == -1) && decide (X.long ≤ 524288))))
/-- A file by what it is, without the heads. -/
structure FileS where
  firm : List UInt8
  loose : List (List UInt8)
  fuse : Int
  fault : Int
  off : Bool
def FileT.s (X : FileT) : FileS := ⟨X.F.l, X.L.map (·.l), X.fuse, X.fault, X.off⟩
theorem right_all {w : World} {B : Nat} {X : FileT} (h : LieF w B X) (hr : X.right = true) : X.long = X.all.length ∧ X.all.length ≤ 524288 := by
  unfold FileT.right at hr
  simp only [Bool.and_eq_true, decide_eq_true_eq] at hr
  have hl := hr.2.2.2.2
  obtain ⟨h1, h2⟩ := lenGo_is X.L X.F.n
  have e : X.all.length = X.F.n + sumN X.L := by unfold FileT.all; rw [List.length_append, h.firm.len, sumN_len h.loose]
  unfold FileT.long at hl ⊢
  by_cases hs : X.F.n + sumN X.L ≤ 524288
  · rw [h1 hs, e]; exact ⟨rfl, hs⟩
  · have := h2 (by omega); omega
/-- An operation is asked for that brings so many bytes: the file behind that, and what it comes to. -/
def FileS.asked (X : FileS) (long more : Nat) : FileS × Int :=
  if X.off then (X, 10)
  else if 524288 < long + more then (X, 8)
  else if X.fault = 0 then ({ X with fault := -1 }, 9)
  else
    let f1 := if 0 < X.fault then X.fault - 1 else X.fault
    if X.fuse = 0 then ({ X with fault := f1, fuse := -1, off := true }, 10)
    else ({ X with fault := f1, fuse := if 0 < X.fuse then X.fuse - 1 else X.fuse }, 0)
end Go.Proofs.YtlknmpnjhbdlhaaDoor
/-
  What the rows' proofs share: an argument that is a slice of bytes, opened.
-/
namespace Go.Proofs.YtlknmpnjhbdlhaaDoor
open Go.ChangeShapes Go.WideShapes Go.ChangeAt Go.RowKit

theorem own : ownKnob Tryd.prog.godebug = none := by kernel_rfl
theorem laidOut : laidOutB Tryd.prog = true := by kernel_rfl

theorem wf_u8 {z : Int} (h : (Lit.int .u8 z).wf = true) : 0 ≤ z ∧ z < 256 := by
  simp [Lit.wf, IntKind.min, IntKind.max, IntKind.bits, IntKind.signed] at h
  omega
theorem wf_u32 {z : Int} (h : (Lit.int .u32 z).wf = true) : 0 ≤ z ∧ z < 4294967296 := by
  simp [Lit.wf, IntKind.min, IntKind.max, IntKind.bits, IntKind.signed] at h
  omega
theorem wf_u64 {z : Int} (h : (Lit.int .u64 z).wf = true) : 0 ≤ z ∧ z < 18446744073709551616 := by
  simp [Lit.wf, IntKind.min, IntKind.max, IntKind.bits, IntKind.signed] at h
  omega
theorem wf_i64 {z : Int} (h : (Lit.int .i64 z).wf = true) : -9223372036854775808 ≤ z ∧ z < 9223372036854775808 := by
  simp [Lit.wf, IntKind.min, IntKind.max, IntKind.bits, IntKind.signed] at h
  omega

/-- A slice of bytes that came in. -/
theorem came_bytes {W : World} {a : Addr} {n c : Nat} {zs : List Int} (hn : n ≤ c) (hz : zs.length = c) (hcell : ∀ i, i < zs.length → W.cell? (a.add i) = some (.int .u8 (zs.getD i 0))) (hw : ∀ z ∈ zs, (Lit.int .u8 z).wf = true) :
    ∃ l : List UInt8, Bytes W W.heap.size (some a) n l := by
  refine ⟨(zs.take n).map fun z => UInt8.ofNat z.toNat, by simp; omega, fun hn0 => ?_⟩
  obtain ⟨b, off, spot⟩ := a
  have hc0 := hcell 0 (by omega)
  have hspot : spot = none := by simpa [Addr.add] using World.cell?_spot hc0
  subst hspot
  have hlt : b < W.heap.size := World.block_lt_of_cell? W _ (by simpa [Addr.add] using hc0)
  refine ⟨b, off, rfl, hlt, fun j u hu => ?_⟩
  simp only [List.map_map, List.getElem?_map, Option.map_eq_some_iff] at hu
  obtain ⟨z, hz1, rfl⟩ := hu
  rw [List.getElem?_take] at hz1
  split at hz1
  · have hj : j < zs.length := (List.getElem?_eq_some_iff.1 hz1).1
    have hcj := hcell j hj
    rw [addr_add] at hcj
    rw [hcj, List.getD_eq_getElem?_getD, hz1]
    have := wf_u8 (hw z (List.mem_of_getElem? hz1))
    simp [bv]
    omega
  · cases hz1

/-- An array of four bytes, by value. -/
theorem list4 {α : Type} (l : List α) (h : (⟨l⟩ : Array α).size = 4) : ∃ a b c d, l = [a, b, c, d] := by
  match l, h with
  | [a, b, c, d], _ => exact ⟨a, b, c, d, rfl⟩
theorem bv_of {z : Int} (h : (Lit.int .u8 z).wf = true) : ∃ x : UInt8, Value.int .u8 z = bv x := by
  have := wf_u8 h
  refine ⟨UInt8.ofNat z.toNat, ?_⟩
  unfold bv
  rw [UInt8.toNat_ofNat']
  congr 1
  omega
theorem came_arr4 {H : Type} {enc : TypeId × Value → H} {P : Program} {w W : World} {base b0 : Nat} {spare : Nat → Bool} {held : Bool} {r : Reach} {t e : TypeId} {v : Value} {d : DataW H} {p : List MemPlace}
    (ht : P.underlying t = some (.array 4 e)) (he : P.underlying e = some (.int .u8)) (hce : P.cellsOf e = 1) (hct : P.cellsOf t = 4)
    (hv : Value.okWide P W r b0 t v) (h : DataW.Trod enc P w base spare held t v d p) : ∃ x0 x1 x2 x3 : UInt8, v = .agg #[bv x0, bv x1, bv x2, bv x3] := by
  obtain ⟨cs, rfl, hsz, _⟩ : ∃ cs, v = .agg cs ∧ cs.size = P.cellsOf t ∧ Row.okWide P W r b0 t cs := by
    simpa [Value.okWide, ht] using hv
  rw [hct] at hsz
  obtain ⟨l⟩ := cs
  obtain ⟨c0, c1, c2, c3, rfl⟩ := list4 l hsz
  obtain ⟨fuel, hf⟩ := h
  obtain ⟨y0, y1, y2, y3, m, hx, hy0, hy1, hy2, hy3⟩ := trod_array4 ht hce hf
  obtain ⟨x0, e0, rfl, w0⟩ := DataW.trod_int he hy0
  obtain ⟨x1, e1, rfl, w1⟩ := DataW.trod_int he hy1
  obtain ⟨x2, e2, rfl, w2⟩ := DataW.trod_int he hy2
  obtain ⟨x3, e3, rfl, w3⟩ := DataW.trod_int he hy3
  simp at e0 e1 e2 e3
  subst e0 e1 e2 e3
  obtain ⟨a0, h0⟩ := bv_of w0
  obtain ⟨a1, h1⟩ := bv_of w1
  obtain ⟨a2, h2⟩ := bv_of w2
  obtain ⟨a3, h3⟩ := bv_of w3
  exact ⟨a0, a1, a2, a3, by rw [h0, h1, h2, h3]⟩
end Go.Proofs.YtlknmpnjhbdlhaaDoor
/-
  Rows of an argument, cell by cell: flat_len, flat_get, shows_rows.
-/
namespace Go.Proofs.YtlknmpnjhbdlhaaDoor
open Go.ChangeShapes Go.WideShapes Go.ChangeAt Go.RowKit Go.Deep
set_option linter.unusedVariables false

theorem flat_len {α : Type} (f : α → List Value) (k : Nat) (hf : ∀ x, (f x).length = k) : ∀ l : List α, (l.flatMap f).length = l.length * k
  | [] => by simp
  | x :: l => by rw [List.flatMap_cons, List.length_append, flat_len f k hf l, hf, List.length_cons, Nat.add_mul]; omega
theorem flat_get {α : Type} (f : α → List Value) (k : Nat) (hf : ∀ x, (f x).length = k) : ∀ (l : List α) (i j : Nat) (hi : i < l.length) (_ : j < k), (l.flatMap f)[i * k + j]? = (f (l[i]'hi))[j]?
  | x :: l, 0, j, _, hj => by
    rw [List.flatMap_cons, List.getElem?_append_left (by rw [hf]; omega)]
    simp
  | x :: l, i + 1, j, hi, hj => by
    have e : (i + 1) * k + j = (f x).length + (i * k + j) := by rw [hf, Nat.add_mul]; omega
    rw [List.flatMap_cons, e, List.getElem?_append_right (by omega), Nat.add_sub_cancel_left, flat_get f k hf l i j (by simpa using hi) hj]
    simp
/-- Rows of cells that are known one by one. -/
theorem shows_rows {α : Type} (f : α → List Value) (k : Nat) (hk : 0 < k) (hf : ∀ x, (f x).length = k) {w : World} {a : Addr} {n : Nat} (F : Nat → α) (h : ∀ i, i < n → ∀ j u, (f (F i))[j]? = some u → w.cell? (a.add (i * k + j)) = some u) :
    Shows w w.heap.size k (some a) n (((List.range n).map F).flatMap f) := by
  have hl : ((List.range n).map F).length = n := by simp
  refine ⟨by rw [flat_len f k hf, hl], fun hn => ?_⟩
  obtain ⟨b, off, spot⟩ := a
  have h00 : 0 < (f (F 0)).length := by rw [hf]; exact hk
  have hc0 := h 0 hn 0 _ (List.getElem?_eq_getElem h00)
  have hspot : spot = none := by simpa [Addr.add] using World.cell?_spot hc0
  subst hspot
  have hlt : b < w.heap.size := World.block_lt_of_cell? w _ (by simpa [Addr.add] using hc0)
  refine ⟨b, off, rfl, hlt, fun j u hu => ?_⟩
  have hj : j < (((List.range n).map F).flatMap f).length := (List.getElem?_eq_some_iff.1 hu).1
  rw [flat_len f k hf, hl] at hj
  have hd : j / k < n := Nat.div_lt_of_lt_mul (by rw [Nat.mul_comm]; exact hj)
  have hm : j % k < k := Nat.mod_lt _ hk
  have he : j = j / k * k + j % k := by rw [Nat.mul_comm]; exact (Nat.div_add_mod j k).symm
  rw [he, flat_get f k hf _ _ _ (by rw [hl]; exact hd) hm] at hu
  simp only [List.getElem_map, List.getElem_range] at hu
  have := h (j / k) hd (j % k) u hu
  rw [addr_add, ← he] at this
  exact this

end Go.Proofs.YtlknmpnjhbdlhaaDoor
/-
  What the second form's bound gives: no part of a reading is greater than the whole. Rows of things that came in, each within the bound.
-/
namespace Go.Proofs.YtlknmpnjhbdlhaaDoor
open Go.ChangeShapes Go.WideShapes Go.ChangeAt Go.RowKit Go.Deep
set_option linter.unusedVariables false

theorem blk_part {H : Type} {d : DataW H} : ∀ {l : List (DataW H)}, d ∈ l → Rows.uptoBulk d ≤ Rows.uptoBulkAll l
  | x :: r, h => by
    rw [Rows.uptoBulkAll]
    rcases List.mem_cons.1 h with rfl | h
    · omega
    · have := blk_part h; omega
theorem blk_agg {H : Type} {d : DataW H} {l : List (DataW H)} (h : d ∈ l) : Rows.uptoBulk d ≤ Rows.uptoBulk (.agg l) := by
  have := blk_part h
  rw [Rows.uptoBulk]
  omega
theorem blk_slice {H : Type} {d : DataW H} {l r : List (DataW H)} (h : d ∈ l) : Rows.uptoBulk d ≤ Rows.uptoBulk (.slice l r) := by
  have := blk_part h
  rw [Rows.uptoBulk]
  omega
theorem blk_str {H : Type} {s : ByteArray} {N : Nat} (h : Rows.uptoBulk (DataW.lit (H := H) (.string s.data.toList)) ≤ N) : s.size ≤ N := by
  rw [Rows.uptoBulk] at h
  have : s.data.toList.length = s.size := by rw [Array.length_toList]; rfl
  omega
theorem blk_all {H : Type} {l : List (DataW H)} (h : Rows.uptoSmall H l = true) {d : DataW H} (hd : d ∈ l) : Rows.uptoBulk d ≤ 1048576 := by
  have h1 := of_decide_eq_true h
  exact Nat.le_trans (blk_part hd) h1
section
variable {H : Type} {enc : TypeId × Value → H} {P : Program} {w W : World} {base : Nat} {spare : Nat → Bool} {held : Bool} {t e : TypeId} {N : Nat}
/-- A row of things that came in, one by one, each within the bound. -/
theorem open_rowsN {α : Type} (f : α → List Value) (z : α) (k : Nat) (hk : 0 < k) (hf : ∀ x, (f x).length = k) (Q : α → Prop) {fuel : Nat} {cs : List Value} {x : DataW H × List MemPlace} (ht : P.underlying t = some (.slice e)) (hC : P.cellsOf e = k)
    (hQ : ∀ n cs y, n < fuel → cs.length = k → DataW.trod enc P w base spare held n e cs = some y → Rows.uptoBulk y.1 ≤ N → ∃ x : α, cs = f x ∧ Q x)
    (h : DataW.trod enc P w base spare held fuel t cs = some x) (hN : Rows.uptoBulk x.1 ≤ N) : ∃ (A : Option Addr) (n c : Nat) (l : List α), cs = [.slice A n c] ∧ Shows w w.heap.size k A n (l.flatMap f) ∧ (∀ x ∈ l, Q x) ∧ (A = none → c = 0) ∧ n ≤ c ∧ c ≤ maxLen := by
  rcases DataW.trod_slice ht h with ⟨hcs, _⟩ | ⟨a, len, cap, elems, rest, n, hn, hcs, hx, _, hl, hm, hlen, hi, _, _⟩
  · exact ⟨none, 0, 0, [], hcs, ⟨by simp, fun h => absurd h (by decide)⟩, by simp, fun _ => rfl, Nat.le_refl _, Nat.zero_le _⟩
  · have hF : ∀ i, ∃ r : α, i < len → Q r ∧ ∀ j u, (f r)[j]? = some u → w.cell? (a.add (i * k + j)) = some u := by
      intro i
      by_cases hin : i < len
      · have h2 := hi i hin
        have hi' : i < elems.length := by rw [hlen]; exact hin
        rw [List.getElem?_eq_getElem hi'] at h2
        obtain ⟨cs', hc, htr⟩ := Option.bind_eq_some_iff.1 h2
        obtain ⟨_, hlen', hat⟩ := World.cells?_some hc
        rw [hC] at hlen' hat
        have hb : Rows.uptoBulk (elems[i]).1 ≤ N := by
          rw [hx] at hN
          exact Nat.le_trans (blk_slice (List.mem_map_of_mem (f := (·.1)) (List.getElem_mem hi'))) hN
        obtain ⟨r, rfl, hr⟩ := hQ n cs' _ (by omega) hlen' htr hb
        refine ⟨r, fun _ => ⟨hr, fun j u hu => ?_⟩⟩
        have hj : j < k := by have := (List.getElem?_eq_some_iff.1 hu).1; rw [hlen'] at this; exact this
        have := hat j hj
        rw [hu] at this
        rw [← this, ← Go.Deep.add_add]
      · exact ⟨z, fun h => absurd h hin⟩
    refine ⟨some a, len, cap, (List.range len).map fun i => Classical.choose (hF i), hcs, shows_rows f k hk hf _ fun i hi j u hu => (Classical.choose_spec (hF i) hi).2 j u hu, ?_, nofun, hl, hm⟩
    intro r hr
    obtain ⟨i, hi, rfl⟩ := List.mem_map.1 hr
    exact (Classical.choose_spec (hF i) (List.mem_range.1 hi)).1
theorem open_keysN {fuel : Nat} {cs : List Value} {x : DataW H × List MemPlace} (ht : P.underlying t = some (.slice e)) (hC : P.cellsOf e = 1) (he : P.underlying e = some .string) (h : DataW.trod enc P w base spare held fuel t cs = some x) (hN : Rows.uptoBulk x.1 ≤ N) :
    ∃ (A : Option Addr) (n c : Nat) (l : List ByteArray), cs = [.slice A n c] ∧ Shows w w.heap.size 1 A n (l.map Value.string) ∧ (∀ x ∈ l, x.size ≤ maxLen ∧ x.size ≤ N) ∧ (A = none → c = 0) ∧ n ≤ c ∧ c ≤ maxLen := by
  obtain ⟨A, n, c, l, h1, h2, h3⟩ := open_rowsN (fun s : ByteArray => [Value.string s]) ⟨#[]⟩ 1 (by decide) (fun _ => rfl) (fun s => s.size ≤ maxLen ∧ s.size ≤ N) ht hC (fun n cs y _ _ hy hb => by
    obtain ⟨s, e, hy1, hs⟩ := DataW.trod_string he hy
    rw [hy1] at hb
    exact ⟨s, e, hs, blk_str hb⟩) h hN
  have hfl : ∀ l : List ByteArray, l.flatMap (fun s => [Value.string s]) = l.map Value.string := by
    intro l
    induction l with
    | nil => rfl
    | cons x l ih => rw [List.flatMap_cons, ih]; rfl
  rw [hfl] at h2
  exact ⟨A, n, c, l, h1, h2, h3⟩
end
end Go.Proofs.YtlknmpnjhbdlhaaDoor
/-
  Layer 10: a file that came in, opened; within the second form's bound each of its rows is short.
-/
namespace Go.Proofs.YtlknmpnjhbdlhaaDoor
open Go.ChangeShapes Go.WideShapes Go.ChangeAt Go.RowKit Go.Deep
set_option linter.unusedVariables false

theorem bulk_pos {H : Type} (d : DataW H) : 1 ≤ Rows.uptoBulk d := by
  cases d with
  | lit x => cases x <;> simp [Rows.uptoBulk]
  | _ => simp [Rows.uptoBulk]
theorem bulk_len {H : Type} : ∀ l : List (DataW H), l.length ≤ Rows.uptoBulkAll l
  | [] => Nat.zero_le _
  | d :: r => by
    have h1 := bulk_pos d
    have h2 := bulk_len r
    rw [Rows.uptoBulkAll, List.length_cons]
    omega
theorem flat_one {α : Type} (f : α → Value) : ∀ l : List α, (l.flatMap fun x => [f x]) = l.map f
  | [] => rfl
  | a :: l => by rw [List.flatMap_cons, flat_one f l]; rfl
theorem u8_of {z : Int} (h : (Lit.int .u8 z).wf = true) : ∃ b : UInt8, bv b = .int .u8 z := by
  have h' : (decide (IntKind.u8.min ≤ z) && decide (z ≤ IntKind.u8.max)) = true := h
  rw [Bool.and_eq_true, decide_eq_true_iff, decide_eq_true_iff] at h'
  have h1 : 0 ≤ z := h'.1
  have h2 : z ≤ 255 := h'.2
  refine ⟨UInt8.ofNat z.toNat, ?_⟩
  unfold bv
  have : (UInt8.ofNat z.toNat).toNat = z.toNat := by simp; omega
  rw [this, Int.toNat_of_nonneg h1]
section
variable {H : Type} {enc : TypeId × Value → H} {P : Program} {w W : World} {base b0 : Nat} {spare : Nat → Bool} {held : Bool} {r : Reach} {t e : TypeId} {v : Value} {d : DataW H} {p : List MemPlace} {N : Nat}
theorem trod_lenN {fuel : Nat} {A : Option Addr} {n c : Nat} {x : DataW H × List MemPlace} (ht : P.underlying t = some (.slice e)) (h : DataW.trod enc P w base spare held fuel t [.slice A n c] = some x) (hN : Rows.uptoBulk x.1 ≤ N) : n ≤ N := by
  rcases DataW.trod_slice ht h with ⟨hcs, _⟩ | ⟨a, len, cap, elems, rest, n', hn, hcs, hx, _, hl, hm, hlen, hi, _, _⟩
  · simp at hcs
    omega
  · simp at hcs
    obtain ⟨_, rfl, _⟩ := hcs
    rw [hx] at hN
    have h1 := bulk_len (elems.map (·.1))
    rw [List.length_map, hlen] at h1
    simp only [Rows.uptoBulk] at hN
    omega
/-- A row of bytes that came in. -/
theorem trod_pieceN (ht : P.underlying t = some (.slice e)) (he : P.underlying e = some (.int .u8)) (hC : P.cellsOf e = 1) {fuel : Nat} {cs : List Value} {x : DataW H × List MemPlace} (h : DataW.trod enc P w base spare held fuel t cs = some x) (hN : Rows.uptoBulk x.1 ≤ N) : ∃ q : PcT, cs = [q.val] ∧ q.Ok w w.heap.size ∧ q.n ≤ N := by
  obtain ⟨A, n, c, l, rfl, hS, _, h1, h2, h3⟩ := open_rowsN (fun b : UInt8 => [bv b]) 0 1 (by decide) (fun _ => rfl) (fun _ => True) ht hC (fun n' cs' y _ hl hy _ => by
    obtain ⟨z, hz, _, hw⟩ := DataW.trod_int he hy
    obtain ⟨b, hb⟩ := u8_of hw
    exact ⟨b, by rw [hz, hb], trivial⟩) h hN
  rw [flat_one bv] at hS
  exact ⟨⟨A, n, c, l⟩, rfl, ⟨hS, h1, h2, h3⟩, trod_lenN ht h hN⟩
variable {f0 f1 f2 f3 f4 : Field} {eb : TypeId}
/-- A file that came in. -/
theorem came_fileN (ht : P.underlying t = some (.struct #[f0, f1, f2, f3, f4])) (hone : oneCellFields P #[f0, f1, f2, f3, f4] = true) (hC : P.cellsOf t = 5)
    (k0 : P.underlying f0.type = some (.slice eb)) (kb : P.underlying eb = some (.int .u8)) (cb : P.cellsOf eb = 1) (k1 : P.underlying f1.type = some (.slice f0.type)) (c1 : P.cellsOf f0.type = 1) (k2 : P.underlying f2.type = some (.int .i64)) (k3 : P.underlying f3.type = some (.int .i64)) (k4 : P.underlying f4.type = some .bool)
    (hv : Value.okWide P W r b0 t v) (h : DataW.Trod enc P w base spare held t v d p) (hN : Rows.uptoBulk d ≤ N) : ∃ X : FileT, v = X.agg ∧ LieF w w.heap.size X ∧ X.F.n ≤ N ∧ X.ln ≤ N ∧ ∀ q ∈ X.L, q.n ≤ N := by
  obtain ⟨cs, rfl, hsz⟩ := okWide_struct ht hv
  obtain ⟨fuel, hf⟩ := h
  have hf' : DataW.trod enc P w base spare held fuel t cs.toList = some (d, p) := by simpa [Value.cells] using hf
  have hl5 : cs.toList.length = 5 := by simpa using hsz.trans hC
  obtain ⟨cs⟩ := cs
  simp only at hf' hl5
  match cs, hl5 with
  | [c0, c1', c2, c3, c4], _ =>
    obtain ⟨xs, n, hn, hx, _, hlen, hg⟩ := DataW.trod_struct ht hf'
    obtain ⟨o0, q0⟩ := hone_of hone 0 f0 rfl
    obtain ⟨o1, q1⟩ := hone_of hone 1 f1 rfl
    obtain ⟨o2, q2⟩ := hone_of hone 2 f2 rfl
    obtain ⟨o3, q3⟩ := hone_of hone 3 f3 rfl
    obtain ⟨o4, q4⟩ := hone_of hone 4 f4 rfl
    match xs, hlen with
    | [y0, y1, y2, y3, y4], _ =>
      have hy0 : DataW.trod enc P w base spare held n f0.type [c0] = some y0 := by simpa [o0, q0] using hg 0 f0 rfl
      have hy1 : DataW.trod enc P w base spare held n f1.type [c1'] = some y1 := by simpa [o1, q1] using hg 1 f1 rfl
      have hy2 : DataW.trod enc P w base spare held n f2.type [c2] = some y2 := by simpa [o2, q2] using hg 2 f2 rfl
      have hy3 : DataW.trod enc P w base spare held n f3.type [c3] = some y3 := by simpa [o3, q3] using hg 3 f3 rfl
      have hy4 : DataW.trod enc P w base spare held n f4.type [c4] = some y4 := by simpa [o4, q4] using hg 4 f4 rfl
      have hb : ∀ y ∈ [y0, y1, y2, y3, y4], Rows.uptoBulk y.1 ≤ N := fun y hy => by
        have hd : d = _ := (Prod.ext_iff.1 hx).1
        rw [hd] at hN
        exact Nat.le_trans (blk_agg (List.mem_map_of_mem (f := (·.1)) hy)) hN
      obtain ⟨F, e0, hF, nF⟩ := trod_pieceN k0 kb cb hy0 (hb y0 (by simp))
      obtain ⟨A, m, c, L, e1, hS, hL, a1, a2, a3⟩ := open_rowsN (fun q : PcT => [q.val]) ⟨none, 0, 0, []⟩ 1 (by decide) (fun _ => rfl) (fun q => q.Ok w w.heap.size ∧ q.n ≤ N) k1 c1 (fun n' cs' y _ hl' hy' hb' => by
        obtain ⟨q, hq, h1, h2⟩ := trod_pieceN k0 kb cb hy' hb'
        exact ⟨q, hq, h1, h2⟩) hy1 (hb y1 (by simp))
      obtain ⟨z2, e2, _, w2⟩ := DataW.trod_int k2 hy2
      obtain ⟨z3, e3, _, w3⟩ := DataW.trod_int k3 hy3
      obtain ⟨z4, e4, _⟩ := DataW.trod_bool k4 hy4
      simp only [List.cons.injEq, and_true] at e0 e1 e2 e3 e4
      subst e0 e1 e2 e3 e4
      rw [flat_one PcT.val] at hS
      exact ⟨⟨F, A, m, c, L, z2, z3, z4⟩, rfl, ⟨hF, hS, fun q hq => (hL q hq).1, a1, a2, a3, w2, w3⟩, nF, trod_lenN k1 hy1 (hb y1 (by simp)), fun q hq => (hL q hq).2⟩
end
end Go.Proofs.YtlknmpnjhbdlhaaDoor
/-
  Layer 10: deeds that came in, opened.
-/
namespace Go.Proofs.YtlknmpnjhbdlhaaDoor
open Go.ChangeShapes Go.WideShapes Go.ChangeAt Go.RowKit Go.Deep
set_option linter.unusedVariables false

/-- A row of truths, with its head. -/
structure BoT where
  A : Option Addr
  n : Nat
  c : Nat
  l : List Bool
def BoT.val (p : BoT) : Value := .slice p.A p.n p.c
def Bools (w : World) (B : Nat) (A : Option Addr) (n : Nat) (l : List Bool) : Prop := Shows w B 1 A n (l.map Value.bool)
theorem Bools.cell {w : World} {B n : Nat} {A : Option Addr} {l : List Bool} (h : Bools w B A n l) {k : Nat} (hk : k < n) : ∃ b off, A = some ⟨b, off, none⟩ ∧ b < B ∧ w.cell? ⟨b, off + k, none⟩ = some (.bool (l.getD k false)) := by
  obtain ⟨b, off, rfl, hb, hc⟩ := h.2 (by omega)
  have hl : l.length = n := by have := h.1; simpa using this
  have hp : l[k]? = some (l[k]'(by omega)) := List.getElem?_eq_getElem (by omega)
  refine ⟨b, off, rfl, hb, hc k _ ?_⟩
  rw [List.getElem?_map, hp, List.getD_eq_getElem?_getD, hp]
  rfl
structure BoT.Ok (w : World) (B : Nat) (p : BoT) : Prop where
  here : Bools w B p.A p.n p.l
  nil : p.A = none → p.c = 0
  fits : p.n ≤ p.c
  most : p.c ≤ maxLen
theorem BoT.Ok.later {w w' : World} {B : Nat} {p : BoT} (h : p.Ok w B) (hb : Below B w w') : p.Ok w' B := ⟨Shows.below h.here hb, h.nil, h.fits, h.most⟩
theorem BoT.Ok.more {w : World} {B B' : Nat} {p : BoT} (h : p.Ok w B) (hB : B ≤ B') : p.Ok w B' := ⟨Shows.more h.here hB, h.nil, h.fits, h.most⟩
/-- A deed. -/
structure DeedT where
  kind : Int
  n : Int
  tear : Int
  bytes : PcT
  keep : BoT
def DeedT.cells (x : DeedT) : List Value := [.int .i64 x.kind, .int .i64 x.n, .int .i64 x.tear, x.bytes.val, x.keep.val]
structure DeedT.Ok (w : World) (B N : Nat) (x : DeedT) : Prop where
  kind : (Lit.int .i64 x.kind).wf = true
  n : (Lit.int .i64 x.n).wf = true
  tear : (Lit.int .i64 x.tear).wf = true
  bytes : x.bytes.Ok w B
  keep : x.keep.Ok w B
  few : x.bytes.n ≤ N ∧ x.keep.n ≤ N
theorem DeedT.Ok.later {w w' : World} {B N : Nat} {x : DeedT} (h : x.Ok w B N) (hb : Below B w w') : x.Ok w' B N := ⟨h.kind, h.n, h.tear, h.bytes.later hb, h.keep.later hb, h.few⟩
theorem DeedT.Ok.more {w : World} {B B' N : Nat} {x : DeedT} (h : x.Ok w B N) (hB : B ≤ B') : x.Ok w B' N := ⟨h.kind, h.n, h.tear, h.bytes.more hB, h.keep.more hB, h.few⟩
def Deeds (w : World) (B : Nat) (A : Option Addr) (n : Nat) (l : List DeedT) : Prop := Shows w B 5 A n (l.flatMap DeedT.cells)
section
variable {H : Type} {enc : TypeId × Value → H} {P : Program} {w W : World} {base b0 : Nat} {spare : Nat → Bool} {held : Bool} {r : Reach} {t e : TypeId} {v : Value} {d : DataW H} {p : List MemPlace} {N : Nat}
theorem trod_boolsN (ht : P.underlying t = some (.slice e)) (he : P.underlying e = some .bool) (hC : P.cellsOf e = 1) {fuel : Nat} {cs : List Value} {x : DataW H × List MemPlace} (h : DataW.trod enc P w base spare held fuel t cs = some x) (hN : Rows.uptoBulk x.1 ≤ N) : ∃ q : BoT, cs = [q.val] ∧ q.Ok w w.heap.size ∧ q.n ≤ N := by
  obtain ⟨A, n, c, l, rfl, hS, _, h1, h2, h3⟩ := open_rowsN (fun b : Bool => [Value.bool b]) false 1 (by decide) (fun _ => rfl) (fun _ => True) ht hC (fun n' cs' y _ hl hy _ => by
    obtain ⟨b, hb, _⟩ := DataW.trod_bool he hy
    exact ⟨b, hb, trivial⟩) h hN
  rw [flat_one Value.bool] at hS
  exact ⟨⟨A, n, c, l⟩, rfl, ⟨hS, h1, h2, h3⟩, trod_lenN ht h hN⟩
theorem came_boolsN {A : Option Addr} {n c : Nat} (ht : P.underlying t = some (.slice e)) (he : P.underlying e = some .bool) (hC : P.cellsOf e = 1) (h : DataW.Trod enc P w base spare held t (.slice A n c) d p) (hN : Rows.uptoBulk d ≤ N) :
    ∃ l : List Bool, Bools w w.heap.size A n l ∧ n ≤ N ∧ (A = none → c = 0) ∧ n ≤ c ∧ c ≤ maxLen := by
  obtain ⟨fuel, hf⟩ := h
  obtain ⟨q, hq, hok, hl⟩ := trod_boolsN ht he hC (by simpa [Value.cells] using hf) hN
  obtain ⟨A', n', c', l⟩ := q
  simp [BoT.val] at hq
  obtain ⟨rfl, rfl, rfl⟩ := hq
  exact ⟨l, hok.here, hl, hok.nil, hok.fits, hok.most⟩
variable {f0 f1 f2 f3 f4 : Field} {eb ek : TypeId}
theorem trod_deedN (ht : P.underlying t = some (.struct #[f0, f1, f2, f3, f4])) (hone : oneCellFields P #[f0, f1, f2, f3, f4] = true)
    (k0 : P.underlying f0.type = some (.int .i64)) (k1 : P.underlying f1.type = some (.int .i64)) (k2 : P.underlying f2.type = some (.int .i64)) (k3 : P.underlying f3.type = some (.slice eb)) (kb : P.underlying eb = some (.int .u8)) (cb : P.cellsOf eb = 1) (k4 : P.underlying f4.type = some (.slice ek)) (kk : P.underlying ek = some .bool) (ck : P.cellsOf ek = 1)
    {fuel : Nat} {cs : List Value} {x : DataW H × List MemPlace} (hl5 : cs.length = 5) (hf' : DataW.trod enc P w base spare held fuel t cs = some x) (hN : Rows.uptoBulk x.1 ≤ N) : ∃ X : DeedT, cs = X.cells ∧ X.Ok w w.heap.size N := by
  match cs, hl5 with
  | [c0, c1', c2, c3, c4], _ =>
    obtain ⟨xs, n, hn, hx, _, hlen, hg⟩ := DataW.trod_struct ht hf'
    obtain ⟨o0, q0⟩ := hone_of hone 0 f0 rfl
    obtain ⟨o1, q1⟩ := hone_of hone 1 f1 rfl
    obtain ⟨o2, q2⟩ := hone_of hone 2 f2 rfl
    obtain ⟨o3, q3⟩ := hone_of hone 3 f3 rfl
    obtain ⟨o4, q4⟩ := hone_of hone 4 f4 rfl
    match xs, hlen with
    | [y0, y1, y2, y3, y4], _ =>
      have hy0 : DataW.trod enc P w base spare held n f0.type [c0] = some y0 := by simpa [o0, q0] using hg 0 f0 rfl
      have hy1 : DataW.trod enc P w base spare held n f1.type [c1'] = some y1 := by simpa [o1, q1] using hg 1 f1 rfl
      have hy2 : DataW.trod enc P w base spare held n f2.type [c2] = some y2 := by simpa [o2, q2] using hg 2 f2 rfl
      have hy3 : DataW.trod enc P w base spare held n f3.type [c3] = some y3 := by simpa [o3, q3] using hg 3 f3 rfl
      have hy4 : DataW.trod enc P w base spare held n f4.type [c4] = some y4 := by simpa [o4, q4] using hg 4 f4 rfl
      have hb : ∀ y ∈ [y0, y1, y2, y3, y4], Rows.uptoBulk y.1 ≤ N := fun y hy => by
        rw [hx] at hN
        exact Nat.le_trans (blk_agg (List.mem_map_of_mem (f := (·.1)) hy)) hN
      obtain ⟨z0, e0, _, w0⟩ := DataW.trod_int k0 hy0
      obtain ⟨z1, e1, _, w1⟩ := DataW.trod_int k1 hy1
      obtain ⟨z2, e2, _, w2⟩ := DataW.trod_int k2 hy2
      obtain ⟨F, e3, hF, nF⟩ := trod_pieceN k3 kb cb hy3 (hb y3 (by simp))
      obtain ⟨K, e4, hK, nK⟩ := trod_boolsN k4 kk ck hy4 (hb y4 (by simp))
      simp only [List.cons.injEq, and_true] at e0 e1 e2 e3 e4
      subst e0 e1 e2 e3 e4
      exact ⟨⟨z0, z1, z2, F, K⟩, rfl, ⟨w0, w1, w2, hF, hK, nF, nK⟩⟩
theorem came_deedsN {A : Option Addr} {n c : Nat} (hu : P.underlying e = some (.slice t)) (ht : P.underlying t = some (.struct #[f0, f1, f2, f3, f4])) (hone : oneCellFields P #[f0, f1, f2, f3, f4] = true) (hC : P.cellsOf t = 5)
    (k0 : P.underlying f0.type = some (.int .i64)) (k1 : P.underlying f1.type = some (.int .i64)) (k2 : P.underlying f2.type = some (.int .i64)) (k3 : P.underlying f3.type = some (.slice eb)) (kb : P.underlying eb = some (.int .u8)) (cb : P.cellsOf eb = 1) (k4 : P.underlying f4.type = some (.slice ek)) (kk : P.underlying ek = some .bool) (ck : P.cellsOf ek = 1)
    (h : DataW.Trod enc P w base spare held e (.slice A n c) d p) (hN : Rows.uptoBulk d ≤ N) : ∃ l : List DeedT, Deeds w w.heap.size A n l ∧ (∀ x ∈ l, x.Ok w w.heap.size N) ∧ n ≤ N ∧ (A = none → c = 0) ∧ n ≤ c ∧ c ≤ maxLen := by
  obtain ⟨fuel, hf⟩ := h
  have hf' : DataW.trod enc P w base spare held fuel e [.slice A n c] = some (d, p) := by simpa [Value.cells] using hf
  obtain ⟨A', n', c', l, hcs, h2, h3, h4, h5, h6⟩ := open_rowsN DeedT.cells ⟨0, 0, 0, ⟨none, 0, 0, []⟩, ⟨none, 0, 0, []⟩⟩ 5 (by decide) (fun _ => rfl) (fun x => x.Ok w w.heap.size N) hu hC (fun n' cs' y _ hl' hy' hb' => trod_deedN ht hone k0 k1 k2 k3 kb cb k4 kk ck hl' hy' hb') hf' hN
  simp at hcs
  obtain ⟨rfl, rfl, rfl⟩ := hcs
  exact ⟨l, h2, h3, trod_lenN hu hf' hN, h4, h5, h6⟩
end
end Go.Proofs.YtlknmpnjhbdlhaaDoor
