import Derived.WalkKit
import Derived.WalkSpells
import Derived.WalkLawsBesides
import Derived.Laws.CopyOwn
import Derived.Maps.AppendAt
import Derived.Deep.AppendLies
import Derived.Deep.Draws
import Derived.Test.YthoenmggjbojoaaRows
import Derived.ProofKit
import Derived.OpenShut
import Derived.ShutString
import Derived.ChangeOld
import Derived.Below
import Derived.Laws.IdiomArrays
import Derived.Test.YthoenmggjbojoaaChecked
import Derived.RangeFuncNested
import Derived.RangeFuncBound
import Derived.RangeFuncCalls
import Derived.RangeFuncLeaves
import Derived.Shelf.Abstract
import Derived.Shelf.RegionOpen
import Derived.OwnWalkIn
import Derived.TacticsInMore
import Derived.LoopNIn
import Derived.LoopIn
import Derived.Stop.RegionWithIn
import Derived.Deep.DeepCutAuto
import Derived.Lib.Hide
import Derived.RangeFuncBox
/-
  Words for memory used by all contracts of this seat: what a slice shows, kept over draws, new blocks, stores elsewhere; byte slices; small facts on worlds. No program in sight.
-/
namespace Go.Proofs.Ythoenmggjbojoaa
open Go.RowKit

theorem addr_add (b off j : Nat) : (⟨b, off, none⟩ : Addr).add j = ⟨b, off + j, none⟩ := by
  unfold Addr.add; split <;> simp_all

theorem cell_set {w : World} {p : Addr} {v : Value} (h : w.cell? p = some v) (u : Value) : (w.setCell p u).cell? p = some u := World.cell?_setCell_same w p u h
theorem frozen_set (w : World) (p q : Addr) (u : Value) : (w.setCell p u).frozen? q = w.frozen? q := by simp
theorem size_set (w : World) (p : Addr) (u : Value) : (w.setCell p u).heap.size = w.heap.size := by simp [World.setCell]

theorem cell_keep {w : World} {a : Addr} {v : Value} (h : w.cell? a = some v) (o : Obj) : (w.alloc o).cell? a = some v := by
  rw [World.cell?_alloc_lt _ _ _ (World.block_lt_of_cell? w _ h)]
  exact h
theorem frozen_keep {w : World} {a : Addr} {v : Value} (h : w.cell? a = some v) (o : Obj) : (w.alloc o).frozen? a = w.frozen? a :=
  World.frozen?_alloc_old w o a (Nat.ne_of_lt (World.block_lt_of_cell? w _ h))
theorem below_undrew {B : Nat} {w w' : World} (h : Below B w.drew w') : Below B w w' := ⟨h.os, h.tape, h.output, h.size, h.block⟩
theorem below_drewN {B : Nat} {w w' : World} (h : Below B w w') (k : Nat) : Below B w (w'.drewN k) := ⟨h.os, h.tape, h.output, h.size, h.block⟩
theorem below_undrewN {B k : Nat} {w w' : World} (h : Below B (w.drewN k) w') : Below B w w' := ⟨h.os, h.tape, h.output, h.size, h.block⟩

/-- The slice value with address A and n elements of 'size' cells each shows the cells xs, in a block below B. -/
def Shows (w : World) (B size : Nat) (A : Option Addr) (n : Nat) (xs : List Value) : Prop :=
  xs.length = n * size ∧ (0 < n → ∃ b off, A = some ⟨b, off, none⟩ ∧ b < B ∧ ∀ j u, xs[j]? = some u → w.cell? ⟨b, off + j, none⟩ = some u)

section
variable {w w' : World} {B B' size n : Nat} {A : Option Addr} {xs : List Value}
theorem Shows.zero (A : Option Addr) : Shows w B size A 0 [] := ⟨by simp, fun h => absurd h (by omega)⟩
theorem Shows.keep (h : Shows w B size A n xs) (hk : ∀ p : Addr, p.block < B → w'.cell? p = w.cell? p) : Shows w' B size A n xs :=
  ⟨h.1, fun hn => by
    obtain ⟨b, off, e, hb, hc⟩ := h.2 hn
    exact ⟨b, off, e, hb, fun j u hu => (hk _ hb).trans (hc j u hu)⟩⟩
theorem Shows.more (h : Shows w B size A n xs) (hB : B ≤ B') : Shows w B' size A n xs :=
  ⟨h.1, fun hn => by
    obtain ⟨b, off, e, hb, hc⟩ := h.2 hn
    exact ⟨b, off, e, by omega, hc⟩⟩
theorem Shows.below (h : Shows w B size A n xs) (hb : Below B w w') : Shows w' B size A n xs := h.keep fun _ hp => hb.cell hp
theorem Shows.drew (h : Shows w B size A n xs) : Shows w.drew B size A n xs := h
theorem Shows.drewN (h : Shows w B size A n xs) (k : Nat) : Shows (w.drewN k) B size A n xs := h
theorem Shows.alloc (h : Shows w B size A n xs) (hB : B ≤ w.heap.size) (o : Obj) : Shows (w.alloc o) B size A n xs := h.keep fun p hp => World.cell?_alloc_lt w o p (by omega)
theorem Shows.setCell (h : Shows w B size A n xs) {p : Addr} (hB : B ≤ p.block) (u : Value) : Shows (w.setCell p u) B size A n xs :=
  h.keep fun q hq => World.cell?_setCell_other w p q u (fun e => by subst e; omega)
theorem Shows.cut (h : Shows w B size A n xs) {k cap : Nat} (hk : k ≤ n) (hc : n ≤ cap) :
    Shows w B size (if cap = k then A else A.map (·.add (k * size))) (n - k) (xs.drop (k * size)) := by
  refine ⟨by rw [List.length_drop, h.1, Nat.sub_mul], fun hn => ?_⟩
  obtain ⟨b, off, rfl, hb, hcell⟩ := h.2 (by omega)
  rw [if_neg (by omega)]
  refine ⟨b, off + k * size, by rw [Option.map_some, addr_add], hb, fun j u hu => ?_⟩
  rw [Nat.add_assoc]
  exact hcell _ u (by rw [← hu, List.getElem?_drop])
theorem Shows.first (h : Shows w B size A n xs) {k : Nat} (hk : k ≤ n) : Shows w B size A k (xs.take (k * size)) := by
  refine ⟨by rw [List.length_take, h.1]; exact Nat.min_eq_left (Nat.mul_le_mul_right _ hk), fun hn => ?_⟩
  obtain ⟨b, off, rfl, hb, hcell⟩ := h.2 (by omega)
  refine ⟨b, off, rfl, hb, fun j u hu => hcell j u ?_⟩
  rw [List.getElem?_take] at hu
  split at hu
  · exact hu
  · cases hu
theorem Shows.own {base : Nat} {e : TypeId} {c : Nat} (h : w.ownsRow base e size (.slice A n c) n xs) : Shows w w.heap.size size A n xs := by
  refine ⟨h.1, fun hn => ?_⟩
  obtain ⟨g, cap, hv, _, hlt⟩ := h.form hn
  have hA : A = some ⟨g, 0, none⟩ := by injection hv
  subst hA
  refine ⟨g, 0, rfl, hlt, fun j u hu => ?_⟩
  have := h.cells (g := g) rfl j u hu
  rwa [addr_add] at this
end

/-- A byte as a cell holds it. -/
def bv (x : UInt8) : Value := .int .u8 (x.toNat : Int)
/-- The byte at a place, as a number. -/
def at8 (l : List UInt8) (k : Nat) : Int := ((l.getD k 0).toNat : Int)
theorem at8_lo (l : List UInt8) (k : Nat) : 0 ≤ at8 l k := by unfold at8; omega
theorem at8_hi (l : List UInt8) (k : Nat) : at8 l k ≤ 255 := by unfold at8; have := (l.getD k 0).toNat_lt; omega
theorem at8_bv {l : List UInt8} {k : Nat} (h : k < l.length) : (l.map bv)[k]? = some (.int .u8 (at8 l k)) := by
  rw [List.getElem?_map, List.getElem?_eq_getElem h]
  unfold at8
  rw [List.getD_eq_getElem?_getD, List.getElem?_eq_getElem h]
  rfl
theorem at8_inj {l m : List UInt8} {k j : Nat} (h : at8 l k = at8 m j) : l.getD k 0 = m.getD j 0 := UInt8.toNat_inj.1 (Int.ofNat_inj.1 h)
theorem take_snoc (l : List UInt8) (k : Nat) (h : k < l.length) : l.take (k + 1) = l.take k ++ [l.getD k 0] := by
  rw [List.take_succ_eq_append_getElem h, List.getD_eq_getElem?_getD, List.getElem?_eq_getElem h]
  rfl
/-- A slice of bytes. -/
def Bytes (w : World) (B : Nat) (A : Option Addr) (n : Nat) (l : List UInt8) : Prop := Shows w B 1 A n (l.map bv)

section
variable {w w' : World} {B B' n : Nat} {A : Option Addr} {l : List UInt8}
theorem Bytes.len (h : Bytes w B A n l) : l.length = n := by have := h.1; simpa using this
theorem Bytes.zero (A : Option Addr) : Bytes w B A 0 [] := Shows.zero A
theorem Bytes.keep (h : Bytes w B A n l) (hk : ∀ p : Addr, p.block < B → w'.cell? p = w.cell? p) : Bytes w' B A n l := Shows.keep h hk
theorem Bytes.more (h : Bytes w B A n l) (hB : B ≤ B') : Bytes w B' A n l := Shows.more h hB
theorem Bytes.below (h : Bytes w B A n l) (hb : Below B w w') : Bytes w' B A n l := Shows.below h hb
theorem Bytes.drew (h : Bytes w B A n l) : Bytes w.drew B A n l := h
theorem Bytes.drewN (h : Bytes w B A n l) (k : Nat) : Bytes (w.drewN k) B A n l := h
theorem Bytes.alloc (h : Bytes w B A n l) (hB : B ≤ w.heap.size) (o : Obj) : Bytes (w.alloc o) B A n l := Shows.alloc h hB o
theorem Bytes.setCell (h : Bytes w B A n l) {p : Addr} (hB : B ≤ p.block) (u : Value) : Bytes (w.setCell p u) B A n l := Shows.setCell h hB u
theorem Bytes.cut (h : Bytes w B A n l) {k cap : Nat} (hk : k ≤ n) (hc : n ≤ cap) : Bytes w B (if cap = k then A else A.map (·.add k)) (n - k) (l.drop k) := by
  have := Shows.cut h hk hc
  unfold Bytes
  simpa [List.map_drop] using this
theorem Bytes.first (h : Bytes w B A n l) {k : Nat} (hk : k ≤ n) : Bytes w B A k (l.take k) := by
  have := Shows.first h hk
  unfold Bytes
  simpa [List.map_take] using this
theorem Bytes.cell (h : Bytes w B A n l) {k : Nat} (hk : k < n) : ∃ b off, A = some ⟨b, off, none⟩ ∧ b < B ∧ w.cell? ⟨b, off + k, none⟩ = some (.int .u8 (at8 l k)) := by
  obtain ⟨b, off, e, hb, hc⟩ := h.2 (by omega)
  exact ⟨b, off, e, hb, hc k _ (at8_bv (by have := h.len; omega))⟩
theorem Bytes.own {base : Nat} {e : TypeId} {c : Nat} (h : w.ownsRow base e 1 (.slice A n c) n (l.map bv)) : Bytes w w.heap.size A n l := Shows.own h
end

theorem bytes_new (w : World) (l : List UInt8) (C : Array Value) (t : TypeId) (fr : Nat × Nat) (hC : C.toList = l.map bv) : Bytes (w.alloc (.cells C t fr)) (w.heap.size + 1) (some ⟨w.heap.size, 0, none⟩) l.length l :=
  ⟨by simp, fun _ => ⟨w.heap.size, 0, rfl, by omega, fun j u hu => by
    rw [cell_of_row _ _ _ _ _ _ (heap_alloc_new w _), Nat.zero_add]
    rw [← hC] at hu
    simpa using hu⟩⟩

/-- What a call that gives a slice of bytes of its own hands back. -/
def GivesBytes (e8 : TypeId) (l : List UInt8) (W : World) (e : Ending) (w' : World) : Prop :=
  ∃ A n c, e = .returned (.slice A n c) ∧ w'.ownsRow W.heap.size e8 1 (.slice A n c) n (l.map bv) ∧ Below W.heap.size W w'
theorem own_form {w : World} {base : Nat} {e : TypeId} {v : Value} {n : Nat} {xs : List Value} {size : Nat} (h : w.ownsRow base e size v n xs) : ∃ A c, v = .slice A n c ∧ n ≤ c ∧ c ≤ maxLen := by
  rcases h.2 with ⟨rfl, rfl⟩ | ⟨g, cap, cur, rfl, _, _, h1, h2, _⟩
  · exact ⟨none, 0, rfl, Nat.le_refl _, by unfold maxLen; omega⟩
  · exact ⟨_, cap, rfl, h1, h2⟩
theorem own_below {w w' : World} {base : Nat} {e : TypeId} {v : Value} {n : Nat} {xs : List Value} {size : Nat} (h : w.ownsRow base e size v n xs) (hb : Below w.heap.size w w') : w'.ownsRow base e size v n xs :=
  h.kept (row := none) ⟨hb.os, hb.tape, hb.output, hb.size, fun k hk _ => hb.block k hk⟩ (by cases hv : v.ownBlock <;> simp)
theorem own_base {w : World} {base base' : Nat} {e : TypeId} {v : Value} {n : Nat} {xs : List Value} {size : Nat} (h : w.ownsRow base e size v n xs) (hb : base' ≤ base) : w.ownsRow base' e size v n xs := by
  refine ⟨h.1, ?_⟩
  rcases h.2 with h2 | ⟨g, cap, cur, hv, hg, r⟩
  · exact .inl h2
  · exact .inr ⟨g, cap, cur, hv, Nat.le_trans hb hg, r⟩
theorem bv_one (l : List UInt8) : ∀ u ∈ l.map bv, u.oneCell' = true := by
  intro u hu
  obtain ⟨x, _, rfl⟩ := List.mem_map.1 hu
  rfl
end Go.Proofs.Ythoenmggjbojoaa
/-
  What the rows' proofs share: an argument that is a slice of bytes, opened.
-/
namespace Go.Proofs.Ythoenmggjbojoaa
open Go.ChangeShapes Go.WideShapes Go.ChangeAt Go.RowKit

theorem own : ownKnob Try.prog.godebug = none := by kernel_rfl
theorem laidOut : laidOutB Try.prog = true := by kernel_rfl

theorem wf_u8 {z : Int} (h : (Lit.int .u8 z).wf = true) : 0 ≤ z ∧ z < 256 := by
  simp [Lit.wf, IntKind.min, IntKind.max, IntKind.bits, IntKind.signed] at h
  omega
theorem wf_u32 {z : Int} (h : (Lit.int .u32 z).wf = true) : 0 ≤ z ∧ z < 4294967296 := by
  simp [Lit.wf, IntKind.min, IntKind.max, IntKind.bits, IntKind.signed] at h
  omega
theorem wf_u64 {z : Int} (h : (Lit.int .u64 z).wf = true) : 0 ≤ z ∧ z < 18446744073709551616 := by
  simp [Lit.wf, IntKind.min, IntKind.max, IntKind.bits, IntKind.signed] at h
  omega
theorem wf_i64 {z : Int} (h : (Lit.int .i64 z).wf = true) : -9223372036854775808 ≤ z ∧ z < 9223372036854775808 := by
  simp [Lit.wf, IntKind.min, IntKind.max, IntKind.bits, IntKind.signed] at h
  omega

/-- A slice of bytes that came in. -/
theorem came_bytes {W : World} {a : Addr} {n c : Nat} {zs : List Int} (hn : n ≤ c) (hz : zs.length = c) (hcell : ∀ i, i < zs.length → W.cell? (a.add i) = some (.int .u8 (zs.getD i 0))) (hw : ∀ z ∈ zs, (Lit.int .u8 z).wf = true) :
    ∃ l : List UInt8, Bytes W W.heap.size (some a) n l := by
  refine ⟨(zs.take n).map fun z => UInt8.ofNat z.toNat, by simp; omega, fun hn0 => ?_⟩
  obtain ⟨b, off, spot⟩ := a
  have hc0 := hcell 0 (by omega)
  have hspot : spot = none := by simpa [Addr.add] using World.cell?_spot hc0
  subst hspot
  have hlt : b < W.heap.size := World.block_lt_of_cell? W _ (by simpa [Addr.add] using hc0)
  refine ⟨b, off, rfl, hlt, fun j u hu => ?_⟩
  simp only [List.map_map, List.getElem?_map, Option.map_eq_some_iff] at hu
  obtain ⟨z, hz1, rfl⟩ := hu
  rw [List.getElem?_take] at hz1
  split at hz1
  · have hj : j < zs.length := (List.getElem?_eq_some_iff.1 hz1).1
    have hcj := hcell j hj
    rw [addr_add] at hcj
    rw [hcj, List.getD_eq_getElem?_getD, hz1]
    have := wf_u8 (hw z (List.mem_of_getElem? hz1))
    simp [bv]
    omega
  · cases hz1

/-- An array of four bytes, by value. -/
theorem list4 {α : Type} (l : List α) (h : (⟨l⟩ : Array α).size = 4) : ∃ a b c d, l = [a, b, c, d] := by
  match l, h with
  | [a, b, c, d], _ => exact ⟨a, b, c, d, rfl⟩
theorem bv_of {z : Int} (h : (Lit.int .u8 z).wf = true) : ∃ x : UInt8, Value.int .u8 z = bv x := by
  have := wf_u8 h
  refine ⟨UInt8.ofNat z.toNat, ?_⟩
  unfold bv
  rw [UInt8.toNat_ofNat']
  congr 1
  omega
theorem came_arr4 {H : Type} {enc : TypeId × Value → H} {P : Program} {w W : World} {base b0 : Nat} {spare : Nat → Bool} {held : Bool} {r : Reach} {t e : TypeId} {v : Value} {d : DataW H} {p : List MemPlace}
    (ht : P.underlying t = some (.array 4 e)) (he : P.underlying e = some (.int .u8)) (hce : P.cellsOf e = 1) (hct : P.cellsOf t = 4)
    (hv : Value.okWide P W r b0 t v) (h : DataW.Trod enc P w base spare held t v d p) : ∃ x0 x1 x2 x3 : UInt8, v = .agg #[bv x0, bv x1, bv x2, bv x3] := by
  obtain ⟨cs, rfl, hsz, _⟩ : ∃ cs, v = .agg cs ∧ cs.size = P.cellsOf t ∧ Row.okWide P W r b0 t cs := by
    simpa [Value.okWide, ht] using hv
  rw [hct] at hsz
  obtain ⟨l⟩ := cs
  obtain ⟨c0, c1, c2, c3, rfl⟩ := list4 l hsz
  obtain ⟨fuel, hf⟩ := h
  obtain ⟨y0, y1, y2, y3, m, hx, hy0, hy1, hy2, hy3⟩ := trod_array4 ht hce hf
  obtain ⟨x0, e0, rfl, w0⟩ := DataW.trod_int he hy0
  obtain ⟨x1, e1, rfl, w1⟩ := DataW.trod_int he hy1
  obtain ⟨x2, e2, rfl, w2⟩ := DataW.trod_int he hy2
  obtain ⟨x3, e3, rfl, w3⟩ := DataW.trod_int he hy3
  simp at e0 e1 e2 e3
  subst e0 e1 e2 e3
  obtain ⟨a0, h0⟩ := bv_of w0
  obtain ⟨a1, h1⟩ := bv_of w1
  obtain ⟨a2, h2⟩ := bv_of w2
  obtain ⟨a3, h3⟩ := bv_of w3
  exact ⟨a0, a1, a2, a3, by rw [h0, h1, h2, h3]⟩
end Go.Proofs.Ythoenmggjbojoaa
/-
  Cells of new blocks in later worlds; the steps of 'nothing below has turned'. No program in sight.
-/
namespace Go.Proofs.Ythoenmggjbojoaa
open Go.RowKit
theorem new_later {w w1 : World} {C : Array Value} {t : TypeId} (hb : Below (w.alloc (.cells C t)).heap.size (w.alloc (.cells C t)) w1) (k : Nat) {v : Value} (hk : C[k]? = some v) : w1.cell? ⟨w.heap.size, k, none⟩ = some v :=
  (hb.cell (p := ⟨w.heap.size, k, none⟩) (by simp)).trans ((World.cell?_alloc_new w C t k).trans hk)
theorem kept_later {w w1 : World} (hb : Below w.heap.size w w1) {p : Addr} {v : Value} (h : w.cell? p = some v) : w1.cell? p = some v :=
  (hb.cell (p := p) (World.block_lt_of_cell? w _ h)).trans h
theorem froz_later {w w1 : World} (hb : Below w.heap.size w w1) {p : Addr} {v : Value} (h : w.cell? p = some v) {b : Bool} (hf : w.frozen? p = b) : w1.frozen? p = b :=
  (hb.frozen (World.block_lt_of_cell? w _ h)).trans hf
theorem S_call {W0 w1 w2 : World} {B : Nat} (hb : Below B w1 w2) (h : Below W0.heap.size W0 w1) (hB : B = w1.heap.size) : Below W0.heap.size W0 w2 := h.trans (hb.mono (by rw [hB]; exact h.size))
theorem S_alloc {W0 w1 : World} {o : Obj} (h : Below W0.heap.size W0 w1) : Below W0.heap.size W0 (w1.alloc o) := h.alloc h.size _
theorem bel_next {a b c : World} (h : Below a.heap.size a b) (k : Below b.heap.size b c) : Below a.heap.size a c := h.trans (k.mono h.size)
theorem bel_alloc {a b : World} (h : Below a.heap.size a b) (o : Obj) : Below a.heap.size a (b.alloc o) := h.alloc h.size o

/-- Block b holds these cells, and they may be written. -/
def Box (W : World) (b : Nat) (C : List Value) : Prop := ∀ k v, C[k]? = some v → W.cell? ⟨b, k, none⟩ = some v ∧ W.frozen? ⟨b, k, none⟩ = false
theorem Box.new (w : World) (C : Array Value) (t : TypeId) : Box (w.alloc (.cells C t)) w.heap.size C.toList := fun k v h => by
  refine ⟨(World.cell?_alloc_new w C t k).trans (by simpa using h), ?_⟩
  go_simp
theorem Box.new' (w : World) (C : Array Value) (t : TypeId) {b : Nat} (hb : b = w.heap.size) : Box (w.alloc (.cells C t)) b C.toList := by subst hb; exact Box.new w C t
theorem Box.later {W W' : World} {b : Nat} {C : List Value} (h : Box W b C) (hb : Below W.heap.size W W') : Box W' b C := fun k v hk =>
  ⟨kept_later hb (h k v hk).1, froz_later hb (h k v hk).1 (h k v hk).2⟩
theorem Box.alloc {W : World} {b : Nat} {C : List Value} (h : Box W b C) (o : Obj) : Box (W.alloc o) b C := h.later ((Below.refl _ _).alloc (Nat.le_refl _) o)
theorem Box.drewN {W : World} {b : Nat} {C : List Value} (h : Box W b C) (n : Nat) : Box (W.drewN n) b C := h
theorem Box.lt {W : World} {b : Nat} {C : List Value} (h : Box W b C) (hC : 0 < C.length) : b < W.heap.size :=
  World.block_lt_of_cell? W _ (h 0 (C[0]) (List.getElem?_eq_getElem hC)).1
/-- A store into another block. -/
theorem Box.setCell {W : World} {b : Nat} {C : List Value} (h : Box W b C) {p : Addr} (hp : p.block ≠ b) (u : Value) : Box (W.setCell p u) b C := fun k v hk =>
  ⟨(World.cell?_setCell_other W p ⟨b, k, none⟩ u (fun e => hp (by rw [e]))).trans (h k v hk).1, by rw [World.frozen?_setCell]; exact (h k v hk).2⟩
/-- Four stores, cell by cell. -/
def set4 (W : World) (b : Nat) (x0 x1 x2 x3 : Value) : World := (((W.setCell ⟨b, 0, none⟩ x0).setCell ⟨b, 1, none⟩ x1).setCell ⟨b, 2, none⟩ x2).setCell ⟨b, 3, none⟩ x3
theorem Box.set4 {W : World} {b : Nat} {y0 y1 y2 y3 : Value} (h : Box W b [y0, y1, y2, y3]) (x0 x1 x2 x3 : Value) : Box (set4 W b x0 x1 x2 x3) b [x0, x1, x2, x3] := by
  have h0 := h 0 _ rfl
  have h1 := h 1 _ rfl
  have h2 := h 2 _ rfl
  have h3 := h 3 _ rfl
  have ne : ∀ i j : Nat, i ≠ j → (⟨b, i, none⟩ : Addr) ≠ ⟨b, j, none⟩ := fun i j e h => e (by injection h)
  intro k v hk
  unfold Proofs.Ythoenmggjbojoaa.set4
  simp only [World.frozen?_setCell]
  match k, hk with
  | 0, hk =>
    cases hk
    refine ⟨?_, h0.2⟩
    rw [World.cell?_setCell_other _ _ _ _ (ne _ _ (by omega)), World.cell?_setCell_other _ _ _ _ (ne _ _ (by omega)), World.cell?_setCell_other _ _ _ _ (ne _ _ (by omega))]
    exact cell_set h0.1 _
  | 1, hk =>
    cases hk
    refine ⟨?_, h1.2⟩
    rw [World.cell?_setCell_other _ _ _ _ (ne _ _ (by omega)), World.cell?_setCell_other _ _ _ _ (ne _ _ (by omega))]
    exact cell_set ((World.cell?_setCell_other _ _ _ _ (ne _ _ (by omega))).trans h1.1) _
  | 2, hk =>
    cases hk
    refine ⟨?_, h2.2⟩
    rw [World.cell?_setCell_other _ _ _ _ (ne _ _ (by omega))]
    exact cell_set ((World.cell?_setCell_other _ _ _ _ (ne _ _ (by omega))).trans ((World.cell?_setCell_other _ _ _ _ (ne _ _ (by omega))).trans h2.1)) _
  | 3, hk =>
    cases hk
    refine ⟨?_, h3.2⟩
    exact cell_set ((World.cell?_setCell_other _ _ _ _ (ne _ _ (by omega))).trans ((World.cell?_setCell_other _ _ _ _ (ne _ _ (by omega))).trans ((World.cell?_setCell_other _ _ _ _ (ne _ _ (by omega))).trans h3.1))) _
theorem Box.far4 {W : World} {b g : Nat} {C : List Value} (h : Box W b C) (x0 x1 x2 x3 : Value) (hg : g ≠ b) : Box (Proofs.Ythoenmggjbojoaa.set4 W g x0 x1 x2 x3) b C :=
  (((h.setCell (p := ⟨g, 0, none⟩) hg x0).setCell (p := ⟨g, 1, none⟩) hg x1).setCell (p := ⟨g, 2, none⟩) hg x2).setCell (p := ⟨g, 3, none⟩) hg x3
theorem below_set4 {a W : World} {B b : Nat} (h : Below B a W) (hb : B ≤ b) (x0 x1 x2 x3 : Value) : Below B a (set4 W b x0 x1 x2 x3) :=
  (((h.setCell (p := ⟨b, 0, none⟩) hb x0).setCell (p := ⟨b, 1, none⟩) hb x1).setCell (p := ⟨b, 2, none⟩) hb x2).setCell (p := ⟨b, 3, none⟩) hb x3
end Go.Proofs.Ythoenmggjbojoaa
/-
  Layer 10, plain: files, where they lie, how long they are, which may be. No program in sight.
-/
namespace Go.Proofs.Ythoenmggjbojoaa
open Go.RowKit
set_option linter.unusedVariables false

/-- A row of bytes, with its head. -/
structure PcT where
  A : Option Addr
  n : Nat
  c : Nat
  l : List UInt8
def PcT.val (p : PcT) : Value := .slice p.A p.n p.c
structure PcT.Ok (w : World) (B : Nat) (p : PcT) : Prop where
  here : Bytes w B p.A p.n p.l
  nil : p.A = none → p.c = 0
  fits : p.n ≤ p.c
  most : p.c ≤ maxLen
theorem PcT.Ok.later {w w' : World} {B : Nat} {p : PcT} (h : p.Ok w B) (hb : Below B w w') : p.Ok w' B := ⟨h.here.below hb, h.nil, h.fits, h.most⟩
theorem PcT.Ok.more {w : World} {B B' : Nat} {p : PcT} (h : p.Ok w B) (hB : B ≤ B') : p.Ok w B' := ⟨h.here.more hB, h.nil, h.fits, h.most⟩
theorem PcT.Ok.len {w : World} {B : Nat} {p : PcT} (h : p.Ok w B) : p.l.length = p.n := h.here.len
def joinP (L : List PcT) : List UInt8 := L.flatMap (·.l)
theorem joinP_nil : joinP [] = [] := rfl
theorem joinP_cons (p : PcT) (L : List PcT) : joinP (p :: L) = p.l ++ joinP L := by unfold joinP; rw [List.flatMap_cons]
theorem joinP_append (L M : List PcT) : joinP (L ++ M) = joinP L ++ joinP M := by unfold joinP; rw [List.flatMap_append]
theorem joinP_snoc (L : List PcT) (p : PcT) : joinP (L ++ [p]) = joinP L ++ p.l := by rw [joinP_append, joinP_cons, joinP_nil, List.append_nil]
theorem joinP_take {L : List PcT} {k : Nat} {p : PcT} (h : L[k]? = some p) : joinP (L.take (k + 1)) = joinP (L.take k) ++ p.l := by
  rw [List.take_add_one, h]
  exact joinP_snoc _ _

/-- A file, with the heads of its rows. -/
structure FileT where
  F : PcT
  lA : Option Addr
  ln : Nat
  lc : Nat
  L : List PcT
  fuse : Int
  fault : Int
  off : Bool
def FileT.agg (X : FileT) : Value := .agg #[X.F.val, .slice X.lA X.ln X.lc, .int .i64 X.fuse, .int .i64 X.fault, .bool X.off]
def FileT.all (X : FileT) : List UInt8 := X.F.l ++ joinP X.L
structure LieF (w : World) (B : Nat) (X : FileT) : Prop where
  firm : X.F.Ok w B
  row : Shows w B 1 X.lA X.ln (X.L.map PcT.val)
  loose : ∀ p ∈ X.L, p.Ok w B
  nil : X.lA = none → X.lc = 0
  fits : X.ln ≤ X.lc
  most : X.lc ≤ maxLen
  fuse : (Lit.int .i64 X.fuse).wf = true
  fault : (Lit.int .i64 X.fault).wf = true
theorem LieF.later {w w' : World} {B : Nat} {X : FileT} (h : LieF w B X) (hb : Below B w w') : LieF w' B X :=
  ⟨h.firm.later hb, h.row.below hb, fun p hp => (h.loose p hp).later hb, h.nil, h.fits, h.most, h.fuse, h.fault⟩
theorem LieF.more {w : World} {B B' : Nat} {X : FileT} (h : LieF w B X) (hB : B ≤ B') : LieF w B' X :=
  ⟨h.firm.more hB, h.row.more hB, fun p hp => (h.loose p hp).more hB, h.nil, h.fits, h.most, h.fuse, h.fault⟩
theorem LieF.len {w : World} {B : Nat} {X : FileT} (h : LieF w B X) : X.L.length = X.ln := by have := h.row.1; simpa using this
/-- A piece's cell. -/
theorem pc_at {w : World} {B : Nat} {A : Option Addr} {n : Nat} {L : List PcT} (h : Shows w B 1 A n (L.map PcT.val)) {k : Nat} (hk : k < n) : ∃ b off p, A = some ⟨b, off, none⟩ ∧ b < B ∧ L[k]? = some p ∧ w.cell? ⟨b, off + k, none⟩ = some (.slice p.A p.n p.c) := by
  obtain ⟨b, off, rfl, hb, hc⟩ := h.2 (by omega)
  have hl : L.length = n := by have := h.1; simpa using this
  have hp : L[k]? = some (L[k]'(by omega)) := List.getElem?_eq_getElem (by omega)
  exact ⟨b, off, _, rfl, hb, hp, hc k _ (by rw [List.getElem?_map, hp]; rfl)⟩

/-- How long: up to where it is too long. -/
def lenGo : List PcT → Nat → Nat
  | [], n => n
  | p :: L, n => if 524288 < n then n else lenGo L (n + p.n)
def FileT.long (X : FileT) : Nat := lenGo X.L X.F.n
def sumN (L : List PcT) : Nat := (L.map (·.n)).sum
theorem lenGo_over : ∀ (L : List PcT) (n : Nat), 524288 < n → lenGo L n = n
  | [], n, h => rfl
  | p :: L, n, h => by unfold lenGo; rw [if_pos h]
theorem lenGo_is : ∀ (L : List PcT) (n : Nat), (n + sumN L ≤ 524288 → lenGo L n = n + sumN L) ∧ (524288 < n + sumN L → 524288 < lenGo L n)
  | [], n => by simp [lenGo, sumN]
  | p :: L, n => by
    have e : sumN (p :: L) = p.n + sumN L := by simp [sumN]
    obtain ⟨h1, h2⟩ := lenGo_is L (n + p.n)
    rw [e]
    by_cases h : 524288 < n
    · unfold lenGo
      rw [if_pos h]
      exact ⟨fun h' => by omega, fun _ => h⟩
    · unfold lenGo
      rw [if_neg h]
      exact ⟨fun h' => by rw [h1 (by omega)]; omega, fun h' => h2 (by omega)⟩
theorem lenGo_take {L : List PcT} {k : Nat} {p : PcT} {n : Nat} (h : L[k]? = some p) (hn : n + sumN (L.take k) ≤ 524288) : n + sumN (L.take (k + 1)) = n + sumN (L.take k) + p.n := by
  have : sumN (L.take (k + 1)) = sumN (L.take k) + p.n := by
    unfold sumN
    rw [List.take_add_one, h]
    simp
  omega
theorem sumN_len {w : World} {B : Nat} {L : List PcT} (h : ∀ p ∈ L, p.Ok w B) : (joinP L).length = sumN L := by
  induction L with
  | nil => rfl
  | cons p L ih =>
    rw [joinP_cons, List.length_append, ih fun q hq => h q (List.mem_cons_of_mem _ hq), (h p (List.mem_cons_self ..)).len]
    simp [sumN]
/-- May a file be? -/
def FileT.right (X : FileT) : Bool := X.L.all (fun p => !(p.n == 0)) && (decide (-1 ≤ X.fuse) && (decide (-1 ≤ X.fault) && ((!X.off || X.fuse == -1) && decide (X.long ≤ 524288))))
/-- A file by what it is, without the heads. -/
structure FileS where
  firm : List UInt8
  loose : List (List UInt8)
  fuse : Int
  fault : Int
  off : Bool
def FileT.s (X : FileT) : FileS := ⟨X.F.l, X.L.map (·.l), X.fuse, X.fault, X.off⟩
theorem right_all {w : World} {B : Nat} {X : FileT} (h : LieF w B X) (hr : X.right = true) : X.long = X.all.length ∧ X.all.length ≤ 524288 := by
  unfold FileT.right at hr
  simp only [Bool.and_eq_true, decide_eq_true_eq] at hr
  have hl := hr.2.2.2.2
  obtain ⟨h1, h2⟩ := lenGo_is X.L X.F.n
  have e : X.all.length = X.F.n + sumN X.L := by unfold FileT.all; rw [List.length_append, h.firm.len, sumN_len h.loose]
  unfold FileT.long at hl ⊢
  by_cases hs : X.F.n + sumN X.L ≤ 524288
  · rw [h1 hs, e]; exact ⟨rfl, hs⟩
  · have := h2 (by omega); omega
/-- An operation is asked for that brings so many bytes: the file behind that, and what it comes to. -/
def FileS.asked (X : FileS) (long more : Nat) : FileS × Int :=
  if X.off then (X, 10)
  else if 524288 < long + more then (X, 8)
  else if X.fault = 0 then ({ X with fault := -1 }, 9)
  else
    let f1 := if 0 < X.fault then X.fault - 1 else X.fault
    if X.fuse = 0 then ({ X with fault := f1, fuse := -1, off := true }, 10)
    else ({ X with fault := f1, fuse := if 0 < X.fuse then X.fuse - 1 else X.fuse }, 0)
end Go.Proofs.Ythoenmggjbojoaa
/-
  Layer 10: the iterator over a file's pieces.
-/
namespace Go.Proofs.Ythoenmggjbojoaa
open Go.RowKit Go.Shelf
attribute [local go_sem] Oper.semAt_some
set_option linter.unusedVariables false

theorem pieces_any (fA : Option Addr) (fn fc : Nat) (lA : Option Addr) (ln lc : Nat) (u v : Int) (b : Bool) (w : World) : Calls Try.prog 53 #[.agg #[.slice fA fn fc, .slice lA ln lc, .int .i64 u, .int .i64 v, .bool b]] w fun e w' =>
    e = .returned (.func (.func 58) #[] #[.pointer (some ⟨w.heap.size, 0, none⟩)]) ∧ w.alloc (.cells #[.slice fA fn fc, .slice lA ln lc, .int .i64 u, .int .i64 v, .bool b] 25) = w' := by
  go_enter Try.func53, Try.ntmps53
  go_wp2
  go_ret
  exact ⟨rfl, rfl⟩
/-- All of a file's rows, the firm one first. -/
def FileT.Q (X : FileT) : List PcT := X.F :: X.L
set_option maxRecDepth 100000 in
set_option maxHeartbeats 2000000 in
theorem pieces1_in (n : Nat) (hn : 1 ≤ n) (l Bf B : Nat) (X : FileT) (J : Nat → World → Prop) (Jx : World → Prop) (W : World) (hln : X.ln ≤ maxLen)
    (hR : ∀ k W, J k W → W.cell? ⟨Bf, 0, none⟩ = some (.slice X.F.A X.F.n X.F.c) ∧ W.cell? ⟨Bf, 1, none⟩ = some (.slice X.lA X.ln X.lc) ∧ Shows W B 1 X.lA X.ln (X.L.map PcT.val))
    (hY : ∀ k p W, J k W → X.Q[k]? = some p → YieldAt Fence.wide (n - 1) Try.prog l #[.int .i64 ((sumN (X.Q.take k) : Nat) : Int), .slice p.A p.n p.c] W fun e W' =>
      (e = .returned (.bool true) ∧ J (k + 1) W' ∧ sumN (X.Q.take (k + 1)) ≤ 524288) ∨ (e = .returned (.bool false) ∧ Jx W'))
    (h0 : J 0 W) :
    CallsIn Fence.wide n Try.prog 58 #[.func (.yield l) #[] #[], .pointer (some ⟨Bf, 0, none⟩)] W fun e W' => (∃ v, e = .returned v) ∧ (J (X.ln + 1) W' ∨ Jx W') := by
  unfold maxLen at hln
  obtain ⟨f0, -, -⟩ := hR 0 W h0
  obtain ⟨fn, tmps, assign, body, hy, hR0⟩ := hY 0 X.F W h0 rfl
  have hs0 : sumN (X.Q.take 0) = 0 := rfl
  rw [hs0, show ((0 : Nat) : Int) = 0 from rfl] at hy
  clear hs0
  refine callsIn_of_wp Try.func58 rfl trivial ?_ rfl
  simp only [Try.ntmps58, List.size_toArray, List.length_cons, List.length_nil, Nat.reduceAdd, Nat.reduceSub, Array.replicate_succ, Array.replicate_zero, List.push_toArray, List.append_toArray, List.nil_append, List.cons_append]
  gi_wp2
  refine hR0.mono ?_
  rintro e W3 (⟨rfl, hJ, hbd⟩ | ⟨rfl, hJx⟩)
  rotate_left
  · clear hR hY hR0 hy
    gi_wp2
    refine bodyPost_ret (results_none rfl _ _ _) rfl ?_
    exact ⟨⟨_, rfl⟩, .inr hJx⟩
  · obtain ⟨g0, g1, -⟩ := hR 1 W3 hJ
    clear hR0 hy f0
    have hs1 : (X.F.n : Int) = ((sumN (X.Q.take 1) : Nat) : Int) := by
      have : sumN (X.Q.take 1) = X.F.n := by unfold FileT.Q sumN; simp
      rw [this]
    gi_wp2
    gi_loopw [3, 17] (fun a t wr => ∃ j m : Nat, j ≤ X.ln ∧ t = .int .i64 j ∧ a = .int .i64 m ∧ Hid (m = sumN (X.Q.take (j + 1))) ∧ m ≤ 524288 ∧ J (j + 1) wr) (fun _ t _ => X.ln - (intOf t).toNat)
    case atStart => exact ⟨0, X.F.n, Nat.zero_le _, rfl, rfl, Lib.hid (by unfold FileT.Q sumN; simp), by unfold FileT.Q sumN at hbd; simpa using hbd, hJ⟩
    case round =>
      obtain ⟨j, m, hj, rfl, rfl, HM, hm, hJ2⟩ := hrel
      rename World => wr
      obtain ⟨-, -, hS⟩ := hR (j + 1) wr hJ2
      clear hs1 g0 g1 hJ hbd
      by_cases hlt : j < X.ln
      · obtain ⟨b, off, p, hA, _, hp, hc⟩ := pc_at hS hlt
        obtain ⟨fn, tmps, assign, body, hy, hR0⟩ := hY (j + 1) p wr hJ2 (by unfold FileT.Q; rw [List.getElem?_cons_succ]; exact hp)
        have HN := Lib.hid (show sumN (X.Q.take (j + 1 + 1)) = m + p.n by
          rw [HM.out]
          have hq : X.Q[j + 1]? = some p := by unfold FileT.Q; rw [List.getElem?_cons_succ]; exact hp
          unfold sumN
          rw [List.take_add_one, hq]
          simp)
        rw [← HM.out] at hy
        have hlt' : (j : Int) < X.ln := by omega
        rw [hA]
        clear hS hp
        gi_wp2
        refine hR0.mono ?_
        rintro e W4 (⟨rfl, hJ3, hb3⟩ | ⟨rfl, hJx⟩)
        · rw [HN.out] at hb3
          have hsum : IntKind.i64.wrap ((m : Int) + p.n) = ((m + p.n : Nat) : Int) := by rw [IntKind.wrap_i64]; omega
          have hsu2 : wrap64 ((m : Int) + p.n) = ((m + p.n : Nat) : Int) := by unfold wrap64; omega
          clear hR hY hR0 hy hc hJ2
          gi_wp2
          go_roundw
          case rel => exact ⟨j + 1, m + p.n, by omega, by go_num, by first | rfl | go_num, Lib.hid HN.out.symm, hb3, hJ3⟩
          case measure => simp [intOf]; omega
        · clear hR hY hR0 hy hc hJ2
          gi_wp2
          refine bodyPost_ret (results_none rfl _ _ _) rfl ?_
          exact ⟨⟨_, rfl⟩, .inr hJx⟩
      · obtain rfl : j = X.ln := by omega
        gi_wp2
        go_end0
        exact ⟨⟨_, rfl⟩, .inl hJ2⟩
end Go.Proofs.Ythoenmggjbojoaa
/-
  Slices of whole numbers. No program in sight.
-/
namespace Go.Proofs.Ythoenmggjbojoaa
open Go.RowKit

/-- A whole number as a cell holds it. -/
def iv (x : Int) : Value := .int .i64 x
def nats (l : List Nat) : List Int := l.map fun (c : Nat) => (c : Int)
theorem nats_len (l : List Nat) : (nats l).length = l.length := by simp [nats]
theorem nats_snoc (l : List Nat) (c : Nat) : nats (l ++ [c]) = nats l ++ [(c : Int)] := by simp [nats]
theorem nats_inj : ∀ {l m : List Nat}, nats l = nats m → l = m
  | [], [], _ => rfl
  | [], _ :: _, h => by simp [nats] at h
  | _ :: _, [], h => by simp [nats] at h
  | a :: l, b :: m, h => by
    simp only [nats, List.map_cons, List.cons.injEq] at h
    obtain ⟨h1, h2⟩ := h
    rw [show a = b by omega, nats_inj (l := l) (m := m) h2]
theorem iv_one (l : List Int) : ∀ u ∈ l.map iv, u.oneCell' = true := by
  intro u hu
  obtain ⟨x, _, rfl⟩ := List.mem_map.1 hu
  rfl
def Ints (w : World) (B : Nat) (A : Option Addr) (n : Nat) (l : List Int) : Prop := Shows w B 1 A n (l.map iv)
section
variable {w w' : World} {B B' n : Nat} {A : Option Addr} {l : List Int}
theorem Ints.len (h : Ints w B A n l) : l.length = n := by have := h.1; simpa using this
theorem Ints.more (h : Ints w B A n l) (hB : B ≤ B') : Ints w B' A n l := Shows.more h hB
theorem Ints.below (h : Ints w B A n l) (hb : Below B w w') : Ints w' B A n l := Shows.below h hb
theorem Ints.drewN (h : Ints w B A n l) (k : Nat) : Ints (w.drewN k) B A n l := h
theorem Ints.drew (h : Ints w B A n l) : Ints w.drew B A n l := h
theorem Ints.alloc (h : Ints w B A n l) (hB : B ≤ w.heap.size) (o : Obj) : Ints (w.alloc o) B A n l := Shows.alloc h hB o
theorem Ints.first (h : Ints w B A n l) {k : Nat} (hk : k ≤ n) : Ints w B A k (l.take k) := by
  have := Shows.first h hk
  unfold Ints
  simpa [List.map_take] using this
theorem Ints.cell (h : Ints w B A n l) {k : Nat} (hk : k < n) : ∃ b off, A = some ⟨b, off, none⟩ ∧ b < B ∧ w.cell? ⟨b, off + k, none⟩ = some (.int .i64 (l.getD k 0)) := by
  obtain ⟨b, off, e, hb, hc⟩ := h.2 (by omega)
  refine ⟨b, off, e, hb, hc k _ ?_⟩
  have hl := h.len
  rw [List.getElem?_map, List.getElem?_eq_getElem (by omega), List.getD_eq_getElem?_getD, List.getElem?_eq_getElem (by omega)]
  rfl
theorem Ints.own {base : Nat} {e : TypeId} {c : Nat} (h : w.ownsRow base e 1 (.slice A n c) n (l.map iv)) : Ints w w.heap.size A n l := Shows.own h
theorem Ints.zero (A : Option Addr) : Ints w B A 0 [] := Shows.zero A
end
theorem ints_new (w : World) (l : List Int) (C : Array Value) (t : TypeId) (fr : Nat × Nat) (hC : C.toList = l.map iv) : Ints (w.alloc (.cells C t fr)) (w.heap.size + 1) (some ⟨w.heap.size, 0, none⟩) l.length l :=
  ⟨by simp, fun _ => ⟨w.heap.size, 0, rfl, by omega, fun j u hu => by
    rw [cell_of_row _ _ _ _ _ _ (heap_alloc_new w _), Nat.zero_add]
    rw [← hC] at hu
    simpa using hu⟩⟩
theorem takeI_snoc (l : List Int) (k : Nat) (h : k < l.length) : l.take (k + 1) = l.take k ++ [l.getD k 0] := by
  rw [List.take_succ_eq_append_getElem h, List.getD_eq_getElem?_getD, List.getElem?_eq_getElem h]
  rfl
theorem boxed_below {W W' : World} {B : Nat} {t : TypeId} {v : Value} (h : Boxed W B t v) (hb : Below W.heap.size W W') : Boxed W' B t v := (hb.block B h.lt).trans h
end Go.Proofs.Ythoenmggjbojoaa
/-
  A range over a function whose iterator writes a variable of its own: the statement opened into the iterator's one call, and a round into the body's walk; what the iterator may touch is the caller's to say. No program in sight.
-/
namespace Go.Proofs.Ythoenmggjbojoaa
open Go.RowKit Go.Shelf

variable {F : Fence} {n : Nat} {P : Program}

/-- The record that the statement lays. -/
def recOf (fn : FuncId) (tmps : Array Value) (ps : Array Tmp) (assign body : Code) (D : Nat) (st : LoopState) (pe : Option Code) : Loop :=
  { state := st, pending := pe, fn := fn, tmps := tmps, params := ps, assign := assign, body := body, defers := D }
/-- What follows the iterator's return, by the jump that waits. -/
def goesOn (F : Fence) (n : Nat) (P : Program) (Q : Exit → Act → World → Prop) (a : Act) (W : World) : Option Code → Prop
  | none => Q .normal a W
  | some c => c.wpIn F n P Q a W

theorem range_open {g : Operand} {ps : Array Tmp} {assign body : Code} {Q : Exit → Act → World → Prop} {a : Act} {w : World} {gf : Nat} {lb : Array Value}
    (hro : F.round = none) (h1 : 1 ≤ n) (hg : a.eval g = .func (.func gf) #[] lb) (hFg : F.fn gf) (eg : ∀ args w, (callFunc gf args).run P w = .ok (.enter gf args) w)
    (hcall : ∀ fn, F.fn fn → CallsIn F (n - 1) P gf (#[.func (.yield (w.heap.size + 1)) #[] #[]] ++ lb) ((w.alloc (.deferred (some []))).alloc (.loop (recOf fn a.tmps ps assign body w.heap.size .ready none)))
      fun e B => (∃ v, e = .returned v) ∧ ∃ st pe, B.heap[w.heap.size + 1]? = some (.loop (recOf fn a.tmps ps assign body w.heap.size st pe)) ∧ st ≠ .busy ∧
        goesOn F n P Q { a with defers := { target := .collected w.heap.size, args := #[] } :: a.defers } (B.putObj (w.heap.size + 1) (.loop (recOf fn a.tmps ps assign body w.heap.size .exhausted pe))) pe) :
    (Code.rangeFunc g ps assign body).wpIn F n P Q a w := by
  refine wpIn_rangeFunc fun fn hfn => ?_
  rw [hro]
  refine ⟨_, _, _, { target := .fn (.func gf) lb, args := #[.func (.yield (w.heap.size + 1)) #[] #[]] }, (w.alloc (.deferred (some []))).alloc (.loop (recOf fn a.tmps ps assign body w.heap.size .ready none)), gf, _, _, run_enterLoop_outer fn a.tmps ps assign body, ?_, ?_, ?_, fun _ => h1, (hcall fn hfn).mono ?_⟩
  · simp only [resolve, hg]
    simp [go_sem, recOf]
  · intro f' hf'
    simp [Target.leads] at hf'
    subst hf'
    exact hFg
  · simp [invoke, go_sem, eg]
  · rintro e B ⟨⟨v, rfl⟩, st, pe, hl, hb, hgo⟩
    refine ⟨pe, _, run_endLoop hl hb, ?_⟩
    cases pe <;> exact hgo

/-- How a round may be left, and what then holds. -/
def roundEnd (l : Nat) (r : Option Code → LoopState → Loop) (R : Ending → World → Prop) : Exit → Act → World → Prop
  | .normal, _, W => W.heap[l]? = some (.loop (r none .busy)) ∧ R (.returned (.bool true)) (W.putObj l (.loop (r none .ready)))
  | .exit id, _, W => W.heap[l]? = some (.loop (r none .busy)) ∧ R (.returned (.bool false)) (W.putObj l (.loop (r (some (.exit id)) .done)))
  | _, _, _ => False
theorem round_open {m l : Nat} {fn : FuncId} {tmps : Array Value} {ps : Array Tmp} {assign body : Code} {D : Nat} {args : Array Value} {W : World} {R : Ending → World → Prop} (hF : F.fn fn)
    (hl : W.heap[l]? = some (.loop (recOf fn tmps ps assign body D .ready none))) (hs : args.size = ps.size)
    (h : assign.wpIn (F.inRound l) m P (Exit.then (fun a' W2 => W2.heap[l]? = some (.loop (recOf fn tmps ps assign body D .ready none)) ∧
        body.wpIn (F.inRound l) m P (roundEnd l (fun pe st => recOf fn tmps ps assign body D st pe) R) a' (W2.putObj l (.loop (recOf fn tmps ps assign body D .busy none)))) (fun _ _ _ => False))
      { tmps := (ps.zip args).foldl (fun t (p, v) => t.setIfInBounds p v) tmps, defers := [] } W) :
    YieldAt F m P l args W R := by
  refine ⟨fn, _, assign, body, run_yield hl hs, roundIn_of_wpIn hF (wpIn_mono h ?_)⟩
  intro e a' W2 he
  cases e with
  | normal =>
    obtain ⟨h2, hb⟩ := he
    refine ⟨_, run_beginRound h2 rfl, wpIn_mono hb ?_⟩
    intro e3 a3 W3 h3
    cases e3 with
    | normal => exact ⟨_, _, run_endRound none h3.1, h3.2⟩
    | exit id => exact ⟨_, _, run_endRound (some (.exit id)) h3.1, h3.2⟩
    | ret => exact h3.elim
    | goto t => exact h3.elim
    | panic ch => exact h3.elim
    | outgrown => exact h3.elim
  | ret => exact he.elim
  | exit id => exact he.elim
  | goto t => exact he.elim
  | panic ch => exact he.elim
  | outgrown => exact he.elim
end Go.Proofs.Ythoenmggjbojoaa
/-
  A range over a function whose body may return: a round opened, as in Rf, with that way out too. No program in sight.
-/
namespace Go.Proofs.Ythoenmggjbojoaa
open Go.RowKit Go.Shelf

variable {F : Fence} {n : Nat} {P : Program}

/-- How a round may be left, and what then holds. -/
def roundEndR (l : Nat) (r : Option Code → LoopState → Loop) (R : Ending → World → Prop) : Exit → Act → World → Prop
  | .normal, _, W => W.heap[l]? = some (.loop (r none .busy)) ∧ R (.returned (.bool true)) (W.putObj l (.loop (r none .ready)))
  | .exit id, _, W => W.heap[l]? = some (.loop (r none .busy)) ∧ R (.returned (.bool false)) (W.putObj l (.loop (r (some (.exit id)) .done)))
  | .ret, _, W => W.heap[l]? = some (.loop (r none .busy)) ∧ R (.returned (.bool false)) (W.putObj l (.loop (r (some .ret) .done)))
  | _, _, _ => False
theorem round_openR {m l : Nat} {fn : FuncId} {tmps : Array Value} {ps : Array Tmp} {assign body : Code} {D : Nat} {args : Array Value} {W : World} {R : Ending → World → Prop} (hF : F.fn fn)
    (hl : W.heap[l]? = some (.loop (recOf fn tmps ps assign body D .ready none))) (hs : args.size = ps.size)
    (h : assign.wpIn (F.inRound l) m P (Exit.then (fun a' W2 => W2.heap[l]? = some (.loop (recOf fn tmps ps assign body D .ready none)) ∧
        body.wpIn (F.inRound l) m P (roundEndR l (fun pe st => recOf fn tmps ps assign body D st pe) R) a' (W2.putObj l (.loop (recOf fn tmps ps assign body D .busy none)))) (fun _ _ _ => False))
      { tmps := (ps.zip args).foldl (fun t (p, v) => t.setIfInBounds p v) tmps, defers := [] } W) :
    YieldAt F m P l args W R := by
  refine ⟨fn, _, assign, body, run_yield hl hs, roundIn_of_wpIn hF (wpIn_mono h ?_)⟩
  intro e a' W2 he
  cases e with
  | normal =>
    obtain ⟨h2, hb⟩ := he
    refine ⟨_, run_beginRound h2 rfl, wpIn_mono hb ?_⟩
    intro e3 a3 W3 h3
    cases e3 with
    | normal => exact ⟨_, _, run_endRound none h3.1, h3.2⟩
    | exit id => exact ⟨_, _, run_endRound (some (.exit id)) h3.1, h3.2⟩
    | ret => exact ⟨_, _, run_endRound (some .ret) h3.1, h3.2⟩
    | goto t => exact h3.elim
    | panic ch => exact h3.elim
    | outgrown => exact h3.elim
  | ret => exact he.elim
  | exit id => exact he.elim
  | goto t => exact he.elim
  | panic ch => exact he.elim
  | outgrown => exact he.elim
end Go.Proofs.Ythoenmggjbojoaa
/-
  Layer 10: how long a file is.
-/
namespace Go.Proofs.Ythoenmggjbojoaa
open Go.RowKit Go.Shelf
attribute [local go_sem] Oper.semAt_some
set_option linter.unusedVariables false

theorem lenGo_drop : ∀ (j : Nat) (L : List PcT) (n : Nat), n + sumN (L.take j) ≤ 524288 → lenGo L n = lenGo (L.drop j) (n + sumN (L.take j))
  | 0, L, n, h => by simp [sumN]
  | j + 1, [], n, h => by simp [sumN]
  | j + 1, p :: L, n, h => by
    have e : sumN ((p :: L).take (j + 1)) = p.n + sumN (L.take j) := by simp [sumN]
    rw [e] at h ⊢
    rw [List.drop_succ_cons, show lenGo (p :: L) n = lenGo L (n + p.n) by rw [lenGo, if_neg (by omega)], lenGo_drop j L (n + p.n) (by omega)]
    congr 1
    omega
theorem sumQ_succ {X : FileT} {k : Nat} {p : PcT} (h : X.Q[k]? = some p) : sumN (X.Q.take (k + 1)) = sumN (X.Q.take k) + p.n := by
  unfold sumN
  rw [List.take_add_one, h]
  simp
theorem long_over {X : FileT} {k : Nat} {p : PcT} (h : X.Q[k]? = some p) (h1 : sumN (X.Q.take k) ≤ 524288) (h2 : 524288 < sumN (X.Q.take k) + p.n) : X.long = sumN (X.Q.take k) + p.n := by
  unfold FileT.long
  cases k with
  | zero =>
    have : p = X.F := by unfold FileT.Q at h; simpa using h.symm
    subst this
    have e : sumN (X.Q.take 0) = 0 := rfl
    rw [e] at h2 ⊢
    rw [lenGo_over _ _ (by omega), Nat.zero_add]
  | succ j =>
    have hp : X.L[j]? = some p := by unfold FileT.Q at h; simpa using h
    have e : sumN (X.Q.take (j + 1)) = X.F.n + sumN (X.L.take j) := by unfold FileT.Q sumN; simp
    rw [e] at h1 h2 ⊢
    obtain ⟨hj, he⟩ := List.getElem?_eq_some_iff.1 hp
    rw [lenGo_drop j X.L X.F.n h1, List.drop_eq_getElem_cons hj, he, lenGo, if_neg (by omega), lenGo_over _ _ h2]
theorem long_all {X : FileT} {m : Nat} (hm : X.L.length = m) (h : sumN (X.Q.take (m + 1)) ≤ 524288) : X.long = sumN (X.Q.take (m + 1)) := by
  have e : sumN (X.Q.take (m + 1)) = X.F.n + sumN X.L := by
    unfold FileT.Q sumN
    rw [List.take_succ_cons, List.take_of_length_le (by omega)]
    simp
  rw [e] at h ⊢
  exact (lenGo_is X.L X.F.n).1 h
/-- The memory between two pieces: n blocks lay when length began. -/
structure LJ (n : Nat) (w : World) (X : FileT) (lp : Obj) (r e : Nat) (W : World) : Prop where
  b1 : Boxed W (n + 1) 3 (.int .i64 (r : Nat))
  b2 : Boxed W (n + 2) 3 (.int .i64 (e : Nat))
  f0 : W.cell? ⟨n + 3, 0, none⟩ = some (.slice X.F.A X.F.n X.F.c)
  f1 : W.cell? ⟨n + 3, 1, none⟩ = some (.slice X.lA X.ln X.lc)
  d : W.heap[n + 4]? = some (.deferred (some []))
  r : W.heap[n + 5]? = some lp
  bel : Below n w W
section
variable {n : Nat} {w : World} {X : FileT} {lp : Obj} {r e : Nat} {W W' : World}
theorem LJ.lt (h : LJ n w X lp r e W) : n + 5 < W.heap.size := (Array.getElem?_eq_some_iff.1 h.r).1
theorem LJ.turn (h : LJ n w X lp r e W) (hl : lp.isCells = false) (hw : lp.isWalk = false) (lp' : Obj) : LJ n w X lp' r e (W.putObj (n + 5) lp') := by
  have o : ∀ {k : Nat} {x : Obj}, W.heap[k]? = some x → k ≠ n + 5 → (W.putObj (n + 5) lp').heap[k]? = some x := fun hk hne => (World.putObj_heap_other hne).trans hk
  have c : ∀ {i : Nat} {x : Value}, W.cell? ⟨n + 3, i, none⟩ = some x → (W.putObj (n + 5) lp').cell? ⟨n + 3, i, none⟩ = some x := fun hk => (World.cell?_of_block (World.putObj_heap_other (by show n + 3 ≠ n + 5; omega))).trans hk
  have hlt := h.lt
  exact ⟨o h.b1 (by omega), o h.b2 (by omega), c h.f0, c h.f1, o h.d (by omega), World.putObj_heap_same hlt, h.bel.grown (grownBy_putObj' W (n + 5) lp') (by omega) (fun k e => by cases e; omega)⟩
theorem LJ.setE (h : LJ n w X lp r e W) (e' : Nat) : LJ n w X lp r e' (W.setCell ⟨n + 2, 0, none⟩ (.int .i64 (e' : Nat))) := by
  have f : ∀ {k : Nat} {o : Obj}, W.heap[k]? = some o → k ≠ n + 2 → (W.setCell ⟨n + 2, 0, none⟩ (.int .i64 (e' : Nat))).heap[k]? = some o := fun hX hne => (Below.heap_setCell W _ _ _ hne).trans hX
  have c : ∀ {i : Nat} {x : Value}, W.cell? ⟨n + 3, i, none⟩ = some x → (W.setCell ⟨n + 2, 0, none⟩ (.int .i64 (e' : Nat))).cell? ⟨n + 3, i, none⟩ = some x := fun hk => (World.cell?_of_block (Below.heap_setCell W _ _ _ (by show n + 3 ≠ n + 2; omega))).trans hk
  exact ⟨f h.b1 (by omega), Boxed.set _ h.b2, c h.f0, c h.f1, f h.d (by omega), f h.r (by omega), h.bel.setCell (by show n ≤ n + 2; omega) _⟩
theorem LJ.setR (h : LJ n w X lp r e W) (r' : Nat) : LJ n w X lp r' e (W.setCell ⟨n + 1, 0, none⟩ (.int .i64 (r' : Nat))) := by
  have f : ∀ {k : Nat} {o : Obj}, W.heap[k]? = some o → k ≠ n + 1 → (W.setCell ⟨n + 1, 0, none⟩ (.int .i64 (r' : Nat))).heap[k]? = some o := fun hX hne => (Below.heap_setCell W _ _ _ hne).trans hX
  have c : ∀ {i : Nat} {x : Value}, W.cell? ⟨n + 3, i, none⟩ = some x → (W.setCell ⟨n + 1, 0, none⟩ (.int .i64 (r' : Nat))).cell? ⟨n + 3, i, none⟩ = some x := fun hk => (World.cell?_of_block (Below.heap_setCell W _ _ _ (by show n + 3 ≠ n + 1; omega))).trans hk
  exact ⟨Boxed.set _ h.b1, f h.b2 (by omega), c h.f0, c h.f1, f h.d (by omega), f h.r (by omega), h.bel.setCell (by show n ≤ n + 1; omega) _⟩
end
set_option maxRecDepth 100000 in
set_option maxHeartbeats 4000000 in
theorem length_any (X : FileT) (B : Nat) (w : World) (hL : LieF w B X) (hB : B ≤ w.heap.size) (hN : ∀ p ∈ X.Q, p.n ≤ 1048576) :
    Calls Try.prog 41 #[X.agg] w fun e w' => e = .returned (.int .i64 (X.long : Nat)) ∧ Below w.heap.size w w' := by
  simp only [FileT.agg, PcT.val]
  refine (callsIn_wide (n := 6)).1 ?_
  refine callsIn_of_wp_marks Try.func41 rfl trivial ?_ rfl
  simp only [Try.ntmps41, List.size_toArray, List.length_cons, List.length_nil, Nat.reduceAdd, Nat.reduceSub, Array.replicate_succ, Array.replicate_zero, List.push_toArray, List.append_toArray, List.nil_append, List.cons_append]
  refine wpIn_wide.2 ?_
  go_wp2_with fail
  refine (pieces_any _ _ _ _ _ _ _ _ _ _).mono ?_
  rintro e W1 ⟨rfl, hW1⟩
  go_wp2
  refine (wpIn_wide (n := 6)).1 ?_
  refine range_open rfl (by omega) (gf := 58) (lb := #[.pointer (some ⟨w.heap.size + 1 + 1 + 1, 0, none⟩)]) rfl trivial (enters_of Try.func58 (by kernel_rfl) rfl) ?_
  have hsz : W1.heap.size = w.heap.size + 4 := by rw [← hW1]; simp
  have j1 : Boxed W1 (w.heap.size + 1) 3 (.int .i64 0) := by
    rw [← hW1]
    have h := Boxed.new (w.alloc (.cells #[.slice X.F.A X.F.n X.F.c, .slice X.lA X.ln X.lc, .int .i64 X.fuse, .int .i64 X.fault, .bool X.off] 25)) 3 (.int .i64 0)
    rw [World.size_alloc] at h
    exact (h.alloc _).alloc _
  have j2 : Boxed W1 (w.heap.size + 2) 3 (.int .i64 0) := by
    rw [← hW1]
    have h := Boxed.new ((w.alloc (.cells #[.slice X.F.A X.F.n X.F.c, .slice X.lA X.ln X.lc, .int .i64 X.fuse, .int .i64 X.fault, .bool X.off] 25)).alloc (.cells #[.int .i64 0] 3)) 3 (.int .i64 0)
    rw [World.size_alloc, World.size_alloc] at h
    exact h.alloc _
  have g0 : W1.cell? ⟨w.heap.size + 3, 0, none⟩ = some (.slice X.F.A X.F.n X.F.c) := by rw [← hW1]; simp [go_sem]
  have g1 : W1.cell? ⟨w.heap.size + 3, 1, none⟩ = some (.slice X.lA X.ln X.lc) := by rw [← hW1]; simp [go_sem]
  have hb1 : Below w.heap.size w W1 := by rw [← hW1]; exact bel_alloc (bel_alloc (bel_alloc (bel_alloc (Below.refl _ _) _) _) _) _
  clear hW1
  rw [hsz]
  intro fn hfn
  generalize hrec : recOf fn _ _ _ _ _ = rec
  have J0 : LJ w.heap.size w X (.loop (rec .ready none)) 0 0 ((W1.alloc (.deferred (some []))).alloc (.loop (rec .ready none))) := by
    refine ⟨(j1.alloc _).alloc _, (j2.alloc _).alloc _, cell_keep (cell_keep g0 _) _, cell_keep (cell_keep g1 _) _, ?_, ?_, bel_alloc (bel_alloc hb1 _) _⟩
    · have h := World.alloc_heap_new W1 (.deferred (some []))
      rw [hsz] at h
      exact (Below.heap_alloc _ _ _ (by simp [hsz])).trans h
    · have h := World.alloc_heap_new (W1.alloc (.deferred (some []))) (.loop (rec .ready none))
      rw [World.size_alloc, hsz] at h
      exact h
  have hcall := pieces1_in 5 (by omega) (w.heap.size + 5) (w.heap.size + 3) B X (fun k W => LJ w.heap.size w X (.loop (rec .ready none)) 0 (sumN (X.Q.take k)) W ∧ sumN (X.Q.take k) ≤ 524288) (fun W => ∃ e, LJ w.heap.size w X (.loop (rec .done (some .ret))) e e W ∧ X.long = e) _ (Nat.le_trans hL.fits hL.most)
    (fun k W h => ⟨h.1.f0, h.1.f1, hL.row.below (h.1.bel.mono hB)⟩) ?hY ⟨J0, by simp [sumN]⟩
  case hY =>
    rintro k p W ⟨hr, hbnd⟩ hp
    have hl5 := hr.r
    rw [← hrec] at hl5
    refine round_openR hfn hl5 rfl ?_
    simp only [hrec]
    have hpn := hN p (List.mem_of_getElem? hp)
    have HQ := Lib.hid (sumQ_succ hp)
    have HV := Lib.hid (long_over hp hbnd)
    generalize sumN (X.Q.take k) = m at *
    clear hl5 J0 j1 j2 g0 g1 hL hN hp
    gi_wp2
    refine ⟨hr.r, ?_⟩
    have hr3 := hr.turn rfl rfl (.loop (rec .busy none))
    generalize W.putObj (w.heap.size + 5) (.loop (rec .busy none)) = W3 at *
    have c1 : W3.cell? ⟨w.heap.size + 1, 0, none⟩ = some (.int .i64 0) := hr3.b1.cell
    have c1f : W3.frozen? ⟨w.heap.size + 1, 0, none⟩ = false := hr3.b1.frozen
    have c2 : W3.cell? ⟨w.heap.size + 1 + 1, 0, none⟩ = some (.int .i64 (m : Nat)) := hr3.b2.cell
    have c2f : W3.frozen? ⟨w.heap.size + 1 + 1, 0, none⟩ = false := hr3.b2.frozen
    have hr4 := hr3.setE (m + p.n)
    have hs1 : IntKind.i64.wrap ((m : Int) + (p.n : Int)) = (m : Int) + (p.n : Int) := by rw [IntKind.wrap_i64]; omega
    have hs2 : wrap64 ((m : Int) + (p.n : Int)) = (m : Int) + (p.n : Int) := by unfold wrap64; omega
    have hcast : ((m + p.n : Nat) : Int) = (m : Int) + (p.n : Int) := by omega
    by_cases ho : 524288 < m + p.n
    · have hgt : ((524288 : Int) < (m : Int) + (p.n : Int)) = True := by simp; omega
      have hr5 := hr4.setR (m + p.n)
      have HX := Lib.hid (HV.out ho)
      rw [hcast] at hr4 hr5
      clear ho hbnd hpn HQ HV hcast hr hr3
      gi_wp2
      exact ⟨hr5.r, .inr ⟨rfl, by rw [HX.out]; exact hr5.turn rfl rfl _⟩⟩
    · have hgt : ((524288 : Int) < (m : Int) + (p.n : Int)) = False := by simp; omega
      have hle : m + p.n ≤ 524288 := by omega
      have HL := Lib.hid hle
      rw [hcast] at hr4
      clear ho hbnd hpn HV hcast hr hr3 hle
      gi_wp2
      exact ⟨hr4.r, .inl ⟨rfl, by rw [HQ.out]; exact hr4.turn rfl rfl _, by rw [HQ.out]; exact HL.out⟩⟩
  refine hcall.mono ?_
  rintro e B1 ⟨hv, ⟨hr, hbd⟩ | ⟨m, hr, hlong⟩⟩
  · have HR := Lib.hid (long_all hL.len hbd)
    clear hcall J0 j1 j2 g0 g1 hrec hfn hb1 hL hN
    generalize sumN (X.Q.take (X.ln + 1)) = m at *
    refine ⟨hv, .ready, none, hr.r, by simp, ?_⟩
    have hr5 := hr.turn rfl rfl (.loop (rec .exhausted none))
    generalize B1.putObj (w.heap.size + 5) (.loop (rec .exhausted none)) = W5 at *
    have hr6 := hr5.setR m
    have hK := hr6.d
    have hbw := hr6.bel
    have c1 : W5.cell? ⟨w.heap.size + 1, 0, none⟩ = some (.int .i64 0) := hr5.b1.cell
    have c1f : W5.frozen? ⟨w.heap.size + 1, 0, none⟩ = false := hr5.b1.frozen
    have c2 : W5.cell? ⟨w.heap.size + 1 + 1, 0, none⟩ = some (.int .i64 (m : Nat)) := hr5.b2.cell
    have c9 : ((W5.setCell ⟨w.heap.size + 1, 0, none⟩ (.int .i64 (m : Nat))).putObj (w.heap.size + 4) (.deferred none)).cell? ⟨w.heap.size + 1, 0, none⟩ = some (.int .i64 (m : Nat)) := (World.cell?_of_block (World.putObj_heap_other (by show w.heap.size + 1 ≠ w.heap.size + 4; omega))).trans hr6.b1.cell
    have C9 := Lib.hid c9
    clear hr hv hbd hr5 hr6 c9
    unfold goesOn
    dsimp only
    go_wp2
    refine ⟨by simp, .inl ⟨_, _, rfl, run_takeDeferred hK, ?_⟩⟩
    refine ⟨_, ?_, by rw [HR.out], hbw.trans (belowK_b (w := w) (Nat.le_refl _) _ (w.heap.size + 4) _ _ (by omega) hK rfl rfl)⟩
    have c9 := C9.out
    clear C9 HR hbw hK
    simp [results, Try.results41, go_sem, *]
  · have HR := Lib.hid hlong
    clear hcall J0 j1 j2 g0 g1 hrec hfn hb1 hL hN
    refine ⟨hv, .done, _, hr.r, by simp, ?_⟩
    have hr5 := hr.turn rfl rfl (.loop (rec .exhausted (some .ret)))
    generalize B1.putObj (w.heap.size + 5) (.loop (rec .exhausted (some .ret))) = W5 at *
    have hK := hr5.d
    have hbw := hr5.bel
    have C9 := Lib.hid (show (W5.putObj (w.heap.size + 4) (.deferred none)).cell? ⟨w.heap.size + 1, 0, none⟩ = some (.int .i64 (m : Nat)) from (World.cell?_of_block (World.putObj_heap_other (by show w.heap.size + 1 ≠ w.heap.size + 4; omega))).trans hr5.b1.cell)
    clear hr hr5 hv hlong
    unfold goesOn
    refine wpIn_wide.2 ?_
    go_wp2
    refine ⟨by simp, .inl ⟨_, _, rfl, run_takeDeferred hK, ?_⟩⟩
    refine ⟨_, ?_, by rw [HR.out], hbw.trans (belowK_b (w := w) (Nat.le_refl _) _ (w.heap.size + 4) _ _ (by omega) hK rfl rfl)⟩
    have c9 := C9.out
    clear C9 HR hbw hK
    simp [results, Try.results41, go_sem, *]
end Go.Proofs.Ythoenmggjbojoaa
/-
  Layer 10: the reference's Long; which files may be.
-/
namespace Go.Proofs.Ythoenmggjbojoaa
open Go.RowKit
set_option linter.unusedVariables false

/-- A file in a box of its own. -/
def FBox (W : World) (g : Nat) (X : FileT) : Prop :=
  W.cell? ⟨g, 0, none⟩ = some (.slice X.F.A X.F.n X.F.c) ∧ W.cell? ⟨g, 1, none⟩ = some (.slice X.lA X.ln X.lc) ∧ W.cell? ⟨g, 2, none⟩ = some (.int .i64 X.fuse) ∧ W.cell? ⟨g, 3, none⟩ = some (.int .i64 X.fault) ∧ W.cell? ⟨g, 4, none⟩ = some (.bool X.off)
theorem FBox.later {W W' : World} {g : Nat} {X : FileT} (h : FBox W g X) (hb : Below W.heap.size W W') : FBox W' g X :=
  ⟨kept_later hb h.1, kept_later hb h.2.1, kept_later hb h.2.2.1, kept_later hb h.2.2.2.1, kept_later hb h.2.2.2.2⟩
theorem FBox.new (w : World) (X : FileT) (t : TypeId) : FBox (w.alloc (.cells #[.slice X.F.A X.F.n X.F.c, .slice X.lA X.ln X.lc, .int .i64 X.fuse, .int .i64 X.fault, .bool X.off] t)) w.heap.size X :=
  ⟨by simp [go_sem], by simp [go_sem], by simp [go_sem], by simp [go_sem], by simp [go_sem]⟩
set_option maxRecDepth 20000 in
set_option maxHeartbeats 2000000 in
theorem refLong_any (X : FileT) (B : Nat) (w : World) (hL : LieF w B X) (hB : B ≤ w.heap.size) (hN : ∀ p ∈ X.Q, p.n ≤ 1048576) :
    Calls Try.prog 38 #[X.agg] w fun e w' => e = .returned (.int .i64 (X.long : Nat)) ∧ Below w.heap.size w w' := by
  simp only [FileT.agg, PcT.val]
  have hb1 := bel_alloc (Below.refl w.heap.size w) (.cells #[.slice X.F.A X.F.n X.F.c, .slice X.lA X.ln X.lc, .int .i64 X.fuse, .int .i64 X.fault, .bool X.off] 25)
  have HX := Lib.hid (FBox.new w X 25)
  have hln := Nat.le_trans hL.fits hL.most
  unfold maxLen at hln
  have Hrow := Lib.hid (fun W (h : Below w.heap.size w W) => hL.row.below (h.mono hB))
  have HlL := Lib.hid hL.len
  have HNl := Lib.hid (fun p (hp : p ∈ X.L) => hN p (List.mem_cons_of_mem _ hp))
  have hF := hN X.F (List.mem_cons_self ..)
  have HG := Lib.hid (show lenGo (X.L.drop 0) X.F.n = X.long from rfl)
  clear hL hN
  go_enter Try.func38, Try.ntmps38
  go_upto_region 1 with fail
  generalize (w.alloc (.cells #[.slice X.F.A X.F.n X.F.c, .slice X.lA X.ln X.lc, .int .i64 X.fuse, .int .i64 X.fault, .bool X.off] 25)) = W1 at *
  obtain ⟨f0, f1, f2, f3, f4⟩ := HX.out
  go_wp2
  go_loopw [3, 4] (fun a i wr => ∃ j m : Nat, j ≤ X.ln ∧ i = .int .i64 j ∧ a = .int .i64 m ∧ m ≤ 1572864 ∧ Hid (lenGo (X.L.drop j) m = X.long) ∧ W1 = wr) (fun _ i _ => X.ln - (intOf i).toNat)
  case atStart => exact ⟨0, X.F.n, Nat.zero_le _, rfl, rfl, by omega, HG, rfl⟩
  case round =>
    obtain ⟨j, m, hj, rfl, rfl, hm, HM, rfl⟩ := hrel
    by_cases hlt : j < X.ln
    · obtain ⟨b, off, p, hA, _, hp, hc⟩ := pc_at (Hrow.out W1 hb1) hlt
      have hpn := HNl.out p (List.mem_of_getElem? hp)
      have hlt' : (j : Int) < X.ln := by omega
      obtain ⟨hj2, he⟩ := List.getElem?_eq_some_iff.1 hp
      have hdr : X.L.drop j = p :: X.L.drop (j + 1) := by rw [List.drop_eq_getElem_cons hj2, he]
      by_cases hle : m ≤ 524288
      · have hle' : ((m : Int) ≤ 524288) = True := by simp; omega
        have HM2 := Lib.hid (show lenGo (X.L.drop (j + 1)) (m + p.n) = X.long by rw [← HM.out, hdr, lenGo, if_neg (by omega)])
        rw [hA] at f1
        have hb2 : m + p.n ≤ 1572864 := by omega
        clear HM hp hj2 he hdr hle HG HX
        go_wp2
        go_roundw
        case rel => exact ⟨j + 1, m + p.n, by omega, by go_num, by go_num, hb2, HM2, by first | exact trivial | rfl⟩
        case measure => simp [intOf]; omega
      · have hle' : ((m : Int) ≤ 524288) = False := by simp; omega
        have HM2 := Lib.hid (show m = X.long by rw [← HM.out, hdr, lenGo, if_pos (by omega)])
        clear HM hp hj2 he hdr hle hc hpn HG HX
        go_wp2
        go_ret
        exact ⟨by rw [HM2.out]; rfl, hb1⟩
    · obtain rfl : j = X.ln := by omega
      have HM2 := Lib.hid (show m = X.long by rw [← HM.out, List.drop_eq_nil_of_le (by rw [HlL.out]; exact Nat.le_refl _)]; rfl)
      clear HM HG HX
      go_wp2
      go_ret
      exact ⟨by rw [HM2.out]; rfl, hb1⟩
end Go.Proofs.Ythoenmggjbojoaa
