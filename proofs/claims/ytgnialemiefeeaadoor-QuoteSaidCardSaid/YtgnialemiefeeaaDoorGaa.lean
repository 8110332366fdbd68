import Derived.WalkKit
import Derived.WalkSpells
import Derived.WalkLawsBesides
import Derived.Laws.CopyOwn
import Derived.Maps.AppendAt
import Derived.Deep.AppendLies
import Derived.Deep.Draws
import Derived.Test.YtgnialemiefeeaaDoorRows
import Derived.ProofKit
import Derived.OpenShut
import Derived.ShutString
import Derived.ChangeOld
import Derived.Below
import Derived.Laws.IdiomArrays
/-
  Words for memory used by all contracts of this seat: what a slice shows, kept over draws, new blocks, stores elsewhere; byte slices; small facts on worlds. No program in sight.
-/
namespace Go.Proofs.YtgnialemiefeeaaDoor
open Go.RowKit

theorem addr_add (b off j : Nat) : (⟨b, off, none⟩ : Addr).add j = ⟨b, off + j, none⟩ := by
  unfold Addr.add; split <;> simp_all

theorem cell_set {w : World} {p : Addr} {v : Value} (h : w.cell? p = some v) (u : Value) : (w.setCell p u).cell? p = some u := World.cell?_setCell_same w p u h
theorem frozen_set (w : World) (p q : Addr) (u : Value) : (w.setCell p u).frozen? q = w.frozen? q := by simp
theorem size_set (w : World) (p : Addr) (u : Value) : (w.setCell p u).heap.size = w.heap.size := by simp [World.setCell]

theorem cell_keep {w : World} {a : Addr} {v : Value} (h : w.cell? a = some v) (o : Obj) : (w.alloc o).cell? a = some v := by
  rw [World.cell?_alloc_lt _ _ _ (World.block_lt_of_cell? w _ h)]
  exact h
theorem frozen_keep {w : World} {a : Addr} {v : Value} (h : w.cell? a = some v) (o : Obj) : (w.alloc o).frozen? a = w.frozen? a :=
  World.frozen?_alloc_old w o a (Nat.ne_of_lt (World.block_lt_of_cell? w _ h))
theorem below_undrew {B : Nat} {w w' : World} (h : Below B w.drew w') : Below B w w' := ⟨h.os, h.tape, h.output, h.size, h.block⟩
theorem below_drewN {B : Nat} {w w' : World} (h : Below B w w') (k : Nat) : Below B w (w'.drewN k) := ⟨h.os, h.tape, h.output, h.size, h.block⟩
theorem below_undrewN {B k : Nat} {w w' : World} (h : Below B (w.drewN k) w') : Below B w w' := ⟨h.os, h.tape, h.output, h.size, h.block⟩

/-- The slice value with address A and n elements of 'size' cells each shows the cells xs, in a block below B. -/
def Shows (w : World) (B size : Nat) (A : Option Addr) (n : Nat) (xs : List Value) : Prop :=
  xs.length = n * size ∧ (0 < n → ∃ b off, A = some ⟨b, off, none⟩ ∧ b < B ∧ ∀ j u, xs[j]? = some u → w.cell? ⟨b, off + j, none⟩ = some u)

section
variable {w w' : World} {B B' size n : Nat} {A : Option Addr} {xs : List Value}
theorem Shows.zero (A : Option Addr) : Shows w B size A 0 [] := ⟨by simp, fun h => absurd h (by omega)⟩
theorem Shows.keep (h : Shows w B size A n xs) (hk : ∀ p : Addr, p.block < B → w'.cell? p = w.cell? p) : Shows w' B size A n xs :=
  ⟨h.1, fun hn => by
    obtain ⟨b, off, e, hb, hc⟩ := h.2 hn
    exact ⟨b, off, e, hb, fun j u hu => (hk _ hb).trans (hc j u hu)⟩⟩
theorem Shows.more (h : Shows w B size A n xs) (hB : B ≤ B') : Shows w B' size A n xs :=
  ⟨h.1, fun hn => by
    obtain ⟨b, off, e, hb, hc⟩ := h.2 hn
    exact ⟨b, off, e, by omega, hc⟩⟩
theorem Shows.below (h : Shows w B size A n xs) (hb : Below B w w') : Shows w' B size A n xs := h.keep fun _ hp => hb.cell hp
theorem Shows.drew (h : Shows w B size A n xs) : Shows w.drew B size A n xs := h
theorem Shows.drewN (h : Shows w B size A n xs) (k : Nat) : Shows (w.drewN k) B size A n xs := h
theorem Shows.alloc (h : Shows w B size A n xs) (hB : B ≤ w.heap.size) (o : Obj) : Shows (w.alloc o) B size A n xs := h.keep fun p hp => World.cell?_alloc_lt w o p (by omega)
theorem Shows.setCell (h : Shows w B size A n xs) {p : Addr} (hB : B ≤ p.block) (u : Value) : Shows (w.setCell p u) B size A n xs :=
  h.keep fun q hq => World.cell?_setCell_other w p q u (fun e => by subst e; omega)
theorem Shows.cut (h : Shows w B size A n xs) {k cap : Nat} (hk : k ≤ n) (hc : n ≤ cap) :
    Shows w B size (if cap = k then A else A.map (·.add (k * size))) (n - k) (xs.drop (k * size)) := by
  refine ⟨by rw [List.length_drop, h.1, Nat.sub_mul], fun hn => ?_⟩
  obtain ⟨b, off, rfl, hb, hcell⟩ := h.2 (by omega)
  rw [if_neg (by omega)]
  refine ⟨b, off + k * size, by rw [Option.map_some, addr_add], hb, fun j u hu => ?_⟩
  rw [Nat.add_assoc]
  exact hcell _ u (by rw [← hu, List.getElem?_drop])
theorem Shows.first (h : Shows w B size A n xs) {k : Nat} (hk : k ≤ n) : Shows w B size A k (xs.take (k * size)) := by
  refine ⟨by rw [List.length_take, h.1]; exact Nat.min_eq_left (Nat.mul_le_mul_right _ hk), fun hn => ?_⟩
  obtain ⟨b, off, rfl, hb, hcell⟩ := h.2 (by omega)
  refine ⟨b, off, rfl, hb, fun j u hu => hcell j u ?_⟩
  rw [List.getElem?_take] at hu
  split at hu
  · exact hu
  · cases hu
theorem Shows.own {base : Nat} {e : TypeId} {c : Nat} (h : w.ownsRow base e size (.slice A n c) n xs) : Shows w w.heap.size size A n xs := by
  refine ⟨h.1, fun hn => ?_⟩
  obtain ⟨g, cap, hv, _, hlt⟩ := h.form hn
  have hA : A = some ⟨g, 0, none⟩ := by injection hv
  subst hA
  refine ⟨g, 0, rfl, hlt, fun j u hu => ?_⟩
  have := h.cells (g := g) rfl j u hu
  rwa [addr_add] at this
end

/-- A byte as a cell holds it. -/
def bv (x : UInt8) : Value := .int .u8 (x.toNat : Int)
/-- The byte at a place, as a number. -/
def at8 (l : List UInt8) (k : Nat) : Int := ((l.getD k 0).toNat : Int)
theorem at8_lo (l : List UInt8) (k : Nat) : 0 ≤ at8 l k := by unfold at8; omega
theorem at8_hi (l : List UInt8) (k : Nat) : at8 l k ≤ 255 := by unfold at8; have := (l.getD k 0).toNat_lt; omega
theorem at8_bv {l : List UInt8} {k : Nat} (h : k < l.length) : (l.map bv)[k]? = some (.int .u8 (at8 l k)) := by
  rw [List.getElem?_map, List.getElem?_eq_getElem h]
  unfold at8
  rw [List.getD_eq_getElem?_getD, List.getElem?_eq_getElem h]
  rfl
theorem at8_inj {l m : List UInt8} {k j : Nat} (h : at8 l k = at8 m j) : l.getD k 0 = m.getD j 0 := UInt8.toNat_inj.1 (Int.ofNat_inj.1 h)
theorem take_snoc (l : List UInt8) (k : Nat) (h : k < l.length) : l.take (k + 1) = l.take k ++ [l.getD k 0] := by
  rw [List.take_succ_eq_append_getElem h, List.getD_eq_getElem?_getD, List.getElem?_eq_getElem h]
  rfl
/-- A slice of bytes. -/
def Bytes (w : World) (B : Nat) (A : Option Addr) (n : Nat) (l : List UInt8) : Prop := Shows w B 1 A n (l.map bv)

section
variable {w w' : World} {B B' n : Nat} {A : Option Addr} {l : List UInt8}
theorem Bytes.len (h : Bytes w B A n l) : l.length = n := by have := h.1; simpa using this
theorem Bytes.zero (A : Option Addr) : Bytes w B A 0 [] := Shows.zero A
theorem Bytes.keep (h : Bytes w B A n l) (hk : ∀ p : Addr, p.block < B → w'.cell? p = w.cell? p) : Bytes w' B A n l := Shows.keep h hk
theorem Bytes.more (h : Bytes w B A n l) (hB : B ≤ B') : Bytes w B' A n l := Shows.more h hB
theorem Bytes.below (h : Bytes w B A n l) (hb : Below B w w') : Bytes w' B A n l := Shows.below h hb
theorem Bytes.drew (h : Bytes w B A n l) : Bytes w.drew B A n l := h
theorem Bytes.drewN (h : Bytes w B A n l) (k : Nat) : Bytes (w.drewN k) B A n l := h
theorem Bytes.alloc (h : Bytes w B A n l) (hB : B ≤ w.heap.size) (o : Obj) : Bytes (w.alloc o) B A n l := Shows.alloc h hB o
theorem Bytes.setCell (h : Bytes w B A n l) {p : Addr} (hB : B ≤ p.block) (u : Value) : Bytes (w.setCell p u) B A n l := Shows.setCell h hB u
theorem Bytes.cut (h : Bytes w B A n l) {k cap : Nat} (hk : k ≤ n) (hc : n ≤ cap) : Bytes w B (if cap = k then A else A.map (·.add k)) (n - k) (l.drop k) := by
  have := Shows.cut h hk hc
  unfold Bytes
  simpa [List.map_drop] using this
theorem Bytes.first (h : Bytes w B A n l) {k : Nat} (hk : k ≤ n) : Bytes w B A k (l.take k) := by
  have := Shows.first h hk
  unfold Bytes
  simpa [List.map_take] using this
theorem Bytes.cell (h : Bytes w B A n l) {k : Nat} (hk : k < n) : ∃ b off, A = some ⟨b, off, none⟩ ∧ b < B ∧ w.cell? ⟨b, off + k, none⟩ = some (.int .u8 (at8 l k)) := by
  obtain ⟨b, off, e, hb, hc⟩ := h.2 (by omega)
  exact ⟨b, off, e, hb, hc k _ (at8_bv (by have := h.len; omega))⟩
theorem Bytes.own {base : Nat} {e : TypeId} {c : Nat} (h : w.ownsRow base e 1 (.slice A n c) n (l.map bv)) : Bytes w w.heap.size A n l := Shows.own h
end

theorem bytes_new (w : World) (l : List UInt8) (C : Array Value) (t : TypeId) (fr : Nat × Nat) (hC : C.toList = l.map bv) : Bytes (w.alloc (.cells C t fr)) (w.heap.size + 1) (some ⟨w.heap.size, 0, none⟩) l.length l :=
  ⟨by simp, fun _ => ⟨w.heap.size, 0, rfl, by omega, fun j u hu => by
    rw [cell_of_row _ _ _ _ _ _ (heap_alloc_new w _), Nat.zero_add]
    rw [← hC] at hu
    simpa using hu⟩⟩

/-- What a call that gives a slice of bytes of its own hands back. -/
def GivesBytes (e8 : TypeId) (l : List UInt8) (W : World) (e : Ending) (w' : World) : Prop :=
  ∃ A n c, e = .returned (.slice A n c) ∧ w'.ownsRow W.heap.size e8 1 (.slice A n c) n (l.map bv) ∧ Below W.heap.size W w'
theorem own_form {w : World} {base : Nat} {e : TypeId} {v : Value} {n : Nat} {xs : List Value} {size : Nat} (h : w.ownsRow base e size v n xs) : ∃ A c, v = .slice A n c ∧ n ≤ c ∧ c ≤ maxLen := by
  rcases h.2 with ⟨rfl, rfl⟩ | ⟨g, cap, cur, rfl, _, _, h1, h2, _⟩
  · exact ⟨none, 0, rfl, Nat.le_refl _, by unfold maxLen; omega⟩
  · exact ⟨_, cap, rfl, h1, h2⟩
theorem own_below {w w' : World} {base : Nat} {e : TypeId} {v : Value} {n : Nat} {xs : List Value} {size : Nat} (h : w.ownsRow base e size v n xs) (hb : Below w.heap.size w w') : w'.ownsRow base e size v n xs :=
  h.kept (row := none) ⟨hb.os, hb.tape, hb.output, hb.size, fun k hk _ => hb.block k hk⟩ (by cases hv : v.ownBlock <;> simp)
theorem own_base {w : World} {base base' : Nat} {e : TypeId} {v : Value} {n : Nat} {xs : List Value} {size : Nat} (h : w.ownsRow base e size v n xs) (hb : base' ≤ base) : w.ownsRow base' e size v n xs := by
  refine ⟨h.1, ?_⟩
  rcases h.2 with h2 | ⟨g, cap, cur, hv, hg, r⟩
  · exact .inl h2
  · exact .inr ⟨g, cap, cur, hv, Nat.le_trans hb hg, r⟩
theorem bv_one (l : List UInt8) : ∀ u ∈ l.map bv, u.oneCell' = true := by
  intro u hu
  obtain ⟨x, _, rfl⟩ := List.mem_map.1 hu
  rfl
end Go.Proofs.YtgnialemiefeeaaDoor
/-
  What the rows' proofs share: an argument that is a slice of bytes, opened.
-/
namespace Go.Proofs.YtgnialemiefeeaaDoor
open Go.ChangeShapes Go.WideShapes Go.ChangeAt Go.RowKit

theorem own : ownKnob Tryd.prog.godebug = none := by kernel_rfl
theorem laidOut : laidOutB Tryd.prog = true := by kernel_rfl

theorem wf_u8 {z : Int} (h : (Lit.int .u8 z).wf = true) : 0 ≤ z ∧ z < 256 := by
  simp [Lit.wf, IntKind.min, IntKind.max, IntKind.bits, IntKind.signed] at h
  omega
theorem wf_u32 {z : Int} (h : (Lit.int .u32 z).wf = true) : 0 ≤ z ∧ z < 4294967296 := by
  simp [Lit.wf, IntKind.min, IntKind.max, IntKind.bits, IntKind.signed] at h
  omega
theorem wf_u64 {z : Int} (h : (Lit.int .u64 z).wf = true) : 0 ≤ z ∧ z < 18446744073709551616 := by
  simp [Lit.wf, IntKind.min, IntKind.max, IntKind.bits, IntKind.signed] at h
  omega
theorem wf_i64 {z : Int} (h : (Lit.int .i64 z).wf = true) : -9223372036854775808 ≤ z ∧ z < 9223372036854775808 := by
  simp [Lit.wf, IntKind.min, IntKind.max, IntKind.bits, IntKind.signed] at h
  omega

/-- A slice of bytes that came in. -/
theorem came_bytes {W : World} {a : Addr} {n c : Nat} {zs : List Int} (hn : n ≤ c) (hz : zs.length = c) (hcell : ∀ i, i < zs.length → W.cell? (a.add i) = some (.int .u8 (zs.getD i 0))) (hw : ∀ z ∈ zs, (Lit.int .u8 z).wf = true) :
    ∃ l : List UInt8, Bytes W W.heap.size (some a) n l := by
  refine ⟨(zs.take n).map fun z => UInt8.ofNat z.toNat, by simp; omega, fun hn0 => ?_⟩
  obtain ⟨b, off, spot⟩ := a
  have hc0 := hcell 0 (by omega)
  have hspot : spot = none := by simpa [Addr.add] using World.cell?_spot hc0
  subst hspot
  have hlt : b < W.heap.size := World.block_lt_of_cell? W _ (by simpa [Addr.add] using hc0)
  refine ⟨b, off, rfl, hlt, fun j u hu => ?_⟩
  simp only [List.map_map, List.getElem?_map, Option.map_eq_some_iff] at hu
  obtain ⟨z, hz1, rfl⟩ := hu
  rw [List.getElem?_take] at hz1
  split at hz1
  · have hj : j < zs.length := (List.getElem?_eq_some_iff.1 hz1).1
    have hcj := hcell j hj
    rw [addr_add] at hcj
    rw [hcj, List.getD_eq_getElem?_getD, hz1]
    have := wf_u8 (hw z (List.mem_of_getElem? hz1))
    simp [bv]
    omega
  · cases hz1

/-- An array of four bytes, by value. -/
theorem list4 {α : Type} (l : List α) (h : (⟨l⟩ : Array α).size = 4) : ∃ a b c d, l = [a, b, c, d] := by
  match l, h with
  | [a, b, c, d], _ => exact ⟨a, b, c, d, rfl⟩
theorem bv_of {z : Int} (h : (Lit.int .u8 z).wf = true) : ∃ x : UInt8, Value.int .u8 z = bv x := by
  have := wf_u8 h
  refine ⟨UInt8.ofNat z.toNat, ?_⟩
  unfold bv
  rw [UInt8.toNat_ofNat']
  congr 1
  omega
theorem came_arr4 {H : Type} {enc : TypeId × Value → H} {P : Program} {w W : World} {base b0 : Nat} {spare : Nat → Bool} {held : Bool} {r : Reach} {t e : TypeId} {v : Value} {d : DataW H} {p : List MemPlace}
    (ht : P.underlying t = some (.array 4 e)) (he : P.underlying e = some (.int .u8)) (hce : P.cellsOf e = 1) (hct : P.cellsOf t = 4)
    (hv : Value.okWide P W r b0 t v) (h : DataW.Trod enc P w base spare held t v d p) : ∃ x0 x1 x2 x3 : UInt8, v = .agg #[bv x0, bv x1, bv x2, bv x3] := by
  obtain ⟨cs, rfl, hsz, _⟩ : ∃ cs, v = .agg cs ∧ cs.size = P.cellsOf t ∧ Row.okWide P W r b0 t cs := by
    simpa [Value.okWide, ht] using hv
  rw [hct] at hsz
  obtain ⟨l⟩ := cs
  obtain ⟨c0, c1, c2, c3, rfl⟩ := list4 l hsz
  obtain ⟨fuel, hf⟩ := h
  obtain ⟨y0, y1, y2, y3, m, hx, hy0, hy1, hy2, hy3⟩ := trod_array4 ht hce hf
  obtain ⟨x0, e0, rfl, w0⟩ := DataW.trod_int he hy0
  obtain ⟨x1, e1, rfl, w1⟩ := DataW.trod_int he hy1
  obtain ⟨x2, e2, rfl, w2⟩ := DataW.trod_int he hy2
  obtain ⟨x3, e3, rfl, w3⟩ := DataW.trod_int he hy3
  simp at e0 e1 e2 e3
  subst e0 e1 e2 e3
  obtain ⟨a0, h0⟩ := bv_of w0
  obtain ⟨a1, h1⟩ := bv_of w1
  obtain ⟨a2, h2⟩ := bv_of w2
  obtain ⟨a3, h3⟩ := bv_of w3
  exact ⟨a0, a1, a2, a3, by rw [h0, h1, h2, h3]⟩
end Go.Proofs.YtgnialemiefeeaaDoor
/-
  Layer 1, plain: code points, their bytes, and the reading of them. No program in sight.
-/
namespace Go.Proofs.YtgnialemiefeeaaDoor

/-- Is a number a code point? -/
def isCp (n : Int) : Bool := decide (0 ≤ n) && decide (n ≤ 1114111) && !(decide (55296 ≤ n) && decide (n ≤ 57343))
theorem isCp_iff (n : Int) : isCp n = true ↔ (0 ≤ n ∧ n ≤ 1114111) ∧ (n < 55296 ∨ 57343 < n) := by
  unfold isCp; simp
def b8 (n : Nat) : UInt8 := UInt8.ofNat n
theorem b8_toNat (n : Nat) (h : n < 256) : (b8 n).toNat = n := by unfold b8; rw [UInt8.toNat_ofNat']; omega
theorem b8_of (x : UInt8) : b8 x.toNat = x := by unfold b8; simp
/-- A code point's bytes. -/
def encL (c : Nat) : List UInt8 :=
  if c < 128 then [b8 c]
  else if c < 2048 then [b8 (192 + c / 64), b8 (128 + c % 64)]
  else if c < 65536 then [b8 (224 + c / 4096), b8 (128 + c / 64 % 64), b8 (128 + c % 64)]
  else [b8 (240 + c / 262144), b8 (128 + c / 4096 % 64), b8 (128 + c / 64 % 64), b8 (128 + c % 64)]
/-- Is a byte one that goes on? -/
def cont (x : UInt8) : Bool := decide (128 ≤ x.toNat) && decide (x.toNat < 192)
theorem cont_iff (x : UInt8) : cont x = true ↔ 128 ≤ x.toNat ∧ x.toNat < 192 := by unfold cont; simp
def okIf (b : Bool) (c n : Nat) : Nat × Nat := if b then (c, n) else (0, 0)
/-- The code point whose bytes begin a row, and how many they are; (0, 0): none's do. -/
def decL (l : List UInt8) : Nat × Nat :=
  match l with
  | [] => (0, 0)
  | a :: r =>
    if a.toNat < 128 then (a.toNat, 1)
    else if a.toNat < 192 then (0, 0)
    else if a.toNat < 224 then
      match r with
      | b :: _ => let c := (a.toNat - 192) * 64 + (b.toNat - 128); okIf (cont b && decide (128 ≤ c)) c 2
      | _ => (0, 0)
    else if a.toNat < 240 then
      match r with
      | b :: d :: _ => let c := ((a.toNat - 224) * 64 + (b.toNat - 128)) * 64 + (d.toNat - 128); okIf (cont b && cont d && decide (2048 ≤ c) && isCp c) c 3
      | _ => (0, 0)
    else if a.toNat < 248 then
      match r with
      | b :: d :: e :: _ => let c := (((a.toNat - 240) * 64 + (b.toNat - 128)) * 64 + (d.toNat - 128)) * 64 + (e.toNat - 128); okIf (cont b && cont d && cont e && decide (65536 ≤ c) && isCp c) c 4
      | _ => (0, 0)
    else (0, 0)

theorem encL_len (c : Nat) : (encL c).length = if c < 128 then 1 else if c < 2048 then 2 else if c < 65536 then 3 else 4 := by
  unfold encL; split
  · rfl
  · split
    · rfl
    · split <;> rfl
theorem encL_len_pos (c : Nat) : 1 ≤ (encL c).length ∧ (encL c).length ≤ 4 := by rw [encL_len]; split <;> (try split) <;> (try split) <;> omega

theorem okIf_yes {b : Bool} {c n c' n' : Nat} (h : okIf b c n = (c', n')) (h0 : n' ≠ 0) : b = true ∧ c = c' ∧ n = n' := by
  unfold okIf at h
  cases b
  · rw [if_neg (by simp)] at h; injection h with h1 h2; omega
  · rw [if_pos rfl] at h; injection h with h1 h2; exact ⟨rfl, h1, h2⟩
theorem okIf_true (c n : Nat) : okIf true c n = (c, n) := rfl
theorem okIf_zero {b : Bool} {c n : Nat} (h : (okIf b c n).2 = 0) (hn : n ≠ 0) : okIf b c n = (0, 0) := by
  cases b
  · rfl
  · rw [okIf_true] at h; exact absurd h hn

/-- The bytes of a code point, whatever stands behind them, are read as it. -/
theorem dec_enc (c : Nat) (h : isCp c = true) (r : List UInt8) : decL (encL c ++ r) = (c, (encL c).length) := by
  have hc := (isCp_iff _).1 h
  rw [encL_len]
  unfold encL
  by_cases h1 : c < 128
  · rw [if_pos h1, if_pos h1]
    show decL (b8 c :: r) = _
    simp only [decL]
    rw [b8_toNat _ (by omega), if_pos h1]
  · rw [if_neg h1, if_neg h1]
    by_cases h2 : c < 2048
    · rw [if_pos h2, if_pos h2]
      show decL (b8 _ :: b8 _ :: r) = _
      simp only [decL]
      simp only [b8_toNat (192 + c / 64) (by omega), b8_toNat (128 + c % 64) (by omega), cont]
      rw [if_neg (by omega), if_neg (by omega), if_pos (by omega)]
      have e : (192 + c / 64 - 192) * 64 + (128 + c % 64 - 128) = c := by omega
      rw [e]
      simp only [okIf]
      rw [if_pos (by simp; omega)]
    · rw [if_neg h2, if_neg h2]
      by_cases h3 : c < 65536
      · rw [if_pos h3, if_pos h3]
        show decL (b8 _ :: b8 _ :: b8 _ :: r) = _
        simp only [decL]
        simp only [b8_toNat (224 + c / 4096) (by omega), b8_toNat (128 + c % 64) (by omega), b8_toNat (128 + c / 64 % 64) (by omega), cont]
        rw [if_neg (by omega), if_neg (by omega), if_neg (by omega), if_pos (by omega)]
        have e : ((224 + c / 4096 - 224) * 64 + (128 + c / 64 % 64 - 128)) * 64 + (128 + c % 64 - 128) = c := by omega
        rw [e, h]
        simp only [okIf]
        rw [if_pos (by simp; omega)]
      · rw [if_neg h3, if_neg h3]
        show decL (b8 _ :: b8 _ :: b8 _ :: b8 _ :: r) = _
        simp only [decL]
        simp only [b8_toNat (240 + c / 262144) (by omega), b8_toNat (128 + c % 64) (by omega), b8_toNat (128 + c / 64 % 64) (by omega), b8_toNat (128 + c / 4096 % 64) (by omega), cont]
        rw [if_neg (by omega), if_neg (by omega), if_neg (by omega), if_neg (by omega), if_pos (by omega)]
        have e : (((240 + c / 262144 - 240) * 64 + (128 + c / 4096 % 64 - 128)) * 64 + (128 + c / 64 % 64 - 128)) * 64 + (128 + c % 64 - 128) = c := by omega
        rw [e, h]
        simp only [okIf]
        rw [if_pos (by simp; omega)]

theorem b8_eq {x : UInt8} {n : Nat} (h : x.toNat = n) : x = b8 n := by rw [← h, b8_of]
/-- What is read is a code point, and what it was read from are its bytes. -/
theorem enc_dec {l : List UInt8} {c n : Nat} (h : decL l = (c, n)) (hn : n ≠ 0) : isCp c = true ∧ ∃ r, l = encL c ++ r ∧ n = (encL c).length := by
  rcases l with _ | ⟨a, r⟩
  · injection h with _ h2; omega
  simp only [decL] at h
  have ha := a.toNat_lt
  by_cases h1 : a.toNat < 128
  · rw [if_pos h1] at h
    injection h with h2 h3
    subst h2
    refine ⟨by rw [isCp_iff]; omega, r, ?_, by rw [encL_len, if_pos h1]; omega⟩
    unfold encL
    rw [if_pos h1, b8_of]
    rfl
  · rw [if_neg h1] at h
    by_cases h2 : a.toNat < 192
    · rw [if_pos h2] at h; injection h with _ h3; omega
    rw [if_neg h2] at h
    by_cases h3 : a.toNat < 224
    · rw [if_pos h3] at h
      rcases r with _ | ⟨b, r⟩
      · injection h with _ h4; omega
      obtain ⟨k, e, e2⟩ := okIf_yes h hn
      simp only [Bool.and_eq_true, cont_iff, decide_eq_true_eq] at k
      have hc : c < 2048 := by omega
      have hc0 : ¬ c < 128 := by omega
      refine ⟨by rw [isCp_iff]; omega, r, ?_, by rw [encL_len, if_neg hc0, if_pos hc]; omega⟩
      unfold encL
      rw [if_neg hc0, if_pos hc, b8_eq (x := a) (n := 192 + c / 64) (by omega), b8_eq (x := b) (n := 128 + c % 64) (by omega)]
      rfl
    · rw [if_neg h3] at h
      by_cases h4 : a.toNat < 240
      · rw [if_pos h4] at h
        rcases r with _ | ⟨b, _ | ⟨d, r⟩⟩
        · injection h with _ h4; omega
        · injection h with _ h4; omega
        obtain ⟨k, e, e2⟩ := okIf_yes h hn
        simp only [Bool.and_eq_true, cont_iff, decide_eq_true_eq] at k
        rw [e] at k
        have hc : c < 65536 := by omega
        have hc0 : ¬ c < 2048 := by omega
        refine ⟨k.2, r, ?_, by rw [encL_len, if_neg (by omega), if_neg hc0, if_pos hc]; omega⟩
        unfold encL
        rw [if_neg (by omega), if_neg hc0, if_pos hc, b8_eq (x := a) (n := 224 + c / 4096) (by omega), b8_eq (x := b) (n := 128 + c / 64 % 64) (by omega), b8_eq (x := d) (n := 128 + c % 64) (by omega)]
        rfl
      · rw [if_neg h4] at h
        by_cases h5 : a.toNat < 248
        · rw [if_pos h5] at h
          rcases r with _ | ⟨b, _ | ⟨d, _ | ⟨e, r⟩⟩⟩
          · injection h with _ h4; omega
          · injection h with _ h4; omega
          · injection h with _ h4; omega
          obtain ⟨k, e1, e2⟩ := okIf_yes h hn
          simp only [Bool.and_eq_true, cont_iff, decide_eq_true_eq] at k
          rw [e1] at k
          have hc0 : ¬ c < 65536 := by omega
          have hcp := (isCp_iff _).1 k.2
          refine ⟨k.2, r, ?_, by rw [encL_len, if_neg (by omega), if_neg (by omega), if_neg hc0]; omega⟩
          unfold encL
          rw [if_neg (by omega), if_neg (by omega), if_neg hc0, b8_eq (x := a) (n := 240 + c / 262144) (by omega), b8_eq (x := b) (n := 128 + c / 4096 % 64) (by omega), b8_eq (x := d) (n := 128 + c / 64 % 64) (by omega), b8_eq (x := e) (n := 128 + c % 64) (by omega)]
          rfl
        · rw [if_neg h5] at h; injection h with _ h6; omega

theorem dec_zero {l : List UInt8} (h : (decL l).2 = 0) : decL l = (0, 0) := by
  rcases l with _ | ⟨a, r⟩
  · rfl
  simp only [decL] at h ⊢
  by_cases h1 : a.toNat < 128
  · rw [if_pos h1] at h; simp at h
  · rw [if_neg h1] at h ⊢
    by_cases h2 : a.toNat < 192
    · rw [if_pos h2]
    rw [if_neg h2] at h ⊢
    by_cases h3 : a.toNat < 224
    · rw [if_pos h3] at h ⊢
      rcases r with _ | ⟨b, r⟩
      · rfl
      exact okIf_zero h (by omega)
    · rw [if_neg h3] at h ⊢
      by_cases h4 : a.toNat < 240
      · rw [if_pos h4] at h ⊢
        rcases r with _ | ⟨b, _ | ⟨d, r⟩⟩
        · rfl
        · rfl
        exact okIf_zero h (by omega)
      · rw [if_neg h4] at h ⊢
        by_cases h5 : a.toNat < 248
        · rw [if_pos h5] at h ⊢
          rcases r with _ | ⟨b, _ | ⟨d, _ | ⟨e, r⟩⟩⟩
          · rfl
          · rfl
          · rfl
          exact okIf_zero h (by omega)
        · rw [if_neg h5]
theorem dec_nil : decL [] = (0, 0) := rfl
theorem dec_le (l : List UInt8) : (decL l).2 ≤ l.length := by
  by_cases h : (decL l).2 = 0
  · omega
  · obtain ⟨_, r, e, e2⟩ := enc_dec (l := l) (c := (decL l).1) (n := (decL l).2) rfl h
    rw [e2]
    have : l.length = (encL (decL l).1).length + r.length := by rw [← List.length_append, ← e]
    omega
theorem dec_le4 (l : List UInt8) : (decL l).2 ≤ 4 := by
  by_cases h : (decL l).2 = 0
  · omega
  · obtain ⟨_, r, _, e2⟩ := enc_dec (l := l) (c := (decL l).1) (n := (decL l).2) rfl h
    have := encL_len_pos (decL l).1
    omega

/-- The code points of a row, as far as it is right, and how many bytes they take. -/
def ptsL (l : List UInt8) : List Nat × Nat :=
  if (decL l).2 = 0 then ([], 0)
  else ((decL l).1 :: (ptsL (l.drop (decL l).2)).1, (decL l).2 + (ptsL (l.drop (decL l).2)).2)
termination_by l.length
decreasing_by
  all_goals
    have := dec_le l
    rw [List.length_drop]
    omega
theorem pts_zero {l : List UInt8} (h : (decL l).2 = 0) : ptsL l = ([], 0) := by rw [ptsL, if_pos h]
theorem pts_step {l : List UInt8} (h : (decL l).2 ≠ 0) : ptsL l = ((decL l).1 :: (ptsL (l.drop (decL l).2)).1, (decL l).2 + (ptsL (l.drop (decL l).2)).2) := by rw [ptsL, if_neg h]
def textL (cps : List Nat) : List UInt8 := (cps.map encL).flatten
theorem textL_nil : textL [] = [] := rfl
theorem textL_cons (c : Nat) (l : List Nat) : textL (c :: l) = encL c ++ textL l := by simp [textL]
theorem textL_append (l m : List Nat) : textL (l ++ m) = textL l ++ textL m := by simp [textL]
theorem textL_one (c : Nat) : textL [c] = encL c := by simp [textL]
def allCp (l : List Nat) : Prop := ∀ c ∈ l, isCp c = true

theorem pts_text : ∀ (cps : List Nat) (r : List UInt8), allCp cps → ptsL (textL cps ++ r) = (cps ++ (ptsL r).1, (textL cps).length + (ptsL r).2)
  | [], r, _ => by simp [textL_nil]
  | c :: cps, r, h => by
    have hc := h c (by simp)
    have hp := encL_len_pos c
    have hd := dec_enc c hc (textL cps ++ r)
    rw [textL_cons, List.append_assoc, pts_step (by rw [hd]; simp only; omega), hd]
    simp only [List.drop_left]
    rw [pts_text cps r (fun x hx => h x (by simp [hx]))]
    simp only [List.cons_append, List.length_append]
    rw [Nat.add_assoc]
/-- What was read: a text, and behind it nothing that begins one. -/
theorem pts_is : ∀ (n : Nat) (l : List UInt8), l.length ≤ n → allCp (ptsL l).1 ∧ l = textL (ptsL l).1 ++ l.drop (ptsL l).2 ∧ (ptsL l).2 = (textL (ptsL l).1).length ∧ (decL (l.drop (ptsL l).2)).2 = 0
  | n, l, hl => by
    by_cases h : (decL l).2 = 0
    · rw [pts_zero h]
      exact ⟨fun _ hx => by simp at hx, by simp [textL_nil], by simp [textL_nil], by simpa using h⟩
    · obtain ⟨hc, r, e, e2⟩ := enc_dec (l := l) (c := (decL l).1) (n := (decL l).2) rfl h
      have hle := dec_le l
      match n, hl with
      | 0, hl => omega
      | n + 1, hl =>
        obtain ⟨i1, i2, i3, i4⟩ := pts_is n (l.drop (decL l).2) (by rw [List.length_drop]; omega)
        have hd : l.drop (decL l).2 = r := by
          generalize hk : (decL l).2 = k at e2
          generalize (decL l).1 = c at e e2
          rw [e2, e]
          exact List.drop_left
        rw [pts_step h]
        simp only
        refine ⟨?_, ?_, ?_, ?_⟩
        · intro x hx
          rcases List.mem_cons.1 hx with rfl | hx
          · exact hc
          · exact i1 x hx
        · rw [textL_cons, ← List.drop_drop, List.append_assoc, ← i2, hd, ← e]
        · rw [textL_cons, List.length_append, ← i3, ← e2]
        · rw [← List.drop_drop]; exact i4
theorem pts_le (l : List UInt8) : (ptsL l).2 ≤ l.length := by
  obtain ⟨_, h, h2, _⟩ := pts_is l.length l (Nat.le_refl _)
  have := congrArg List.length h
  rw [List.length_append] at this
  omega
theorem enc_inj {c d : Nat} (hc : isCp c = true) (hd : isCp d = true) (h : encL c = encL d) : c = d := by
  have h1 := dec_enc c hc []
  have h2 := dec_enc d hd []
  rw [h] at h1
  rw [h1] at h2
  injection h2
theorem text_inj {l m : List Nat} (hl : allCp l) (hm : allCp m) (h : textL l = textL m) : l = m := by
  have h1 := pts_text l [] hl
  have h2 := pts_text m [] hm
  rw [h] at h1
  rw [h1] at h2
  simp only [pts_zero (l := []) rfl, List.append_nil] at h2
  injection h2
end Go.Proofs.YtgnialemiefeeaaDoor
/-
  Layer 2, plain: what a quoted text says, sign by sign, and how a text is quoted. No program in sight.
-/
namespace Go.Proofs.YtgnialemiefeeaaDoor

/-- The number of a digit to the base 16; 16: it is none. -/
def hexD (c : Nat) : Nat := if 48 ≤ c ∧ c ≤ 57 then c - 48 else if 97 ≤ c ∧ c ≤ 102 then c - 87 else if 65 ≤ c ∧ c ≤ 70 then c - 55 else 16
theorem hexD_le (c : Nat) : hexD c ≤ 16 := by unfold hexD; split <;> (try split) <;> (try split) <;> omega
/-- A byte of a row. -/
def at0 (l : List UInt8) (k : Nat) : Nat := (l.getD k 0).toNat
theorem at0_lt (l : List UInt8) (k : Nat) : at0 l k < 256 := (l.getD k 0).toNat_lt
theorem at0_drop (l : List UInt8) (p k : Nat) : at0 (l.drop p) k = at0 l (p + k) := by
  unfold at0; simp [List.getD_eq_getElem?_getD, List.getElem?_drop]
theorem at0_app (l r : List UInt8) (k : Nat) (h : k < l.length) : at0 (l ++ r) k = at0 l k := by
  unfold at0; simp [List.getD_eq_getElem?_getD, List.getElem?_append_left h]
theorem at0_take (l : List UInt8) (m k : Nat) (h : k < m) : at0 (l.take m) k = at0 l k := by
  unfold at0; simp [List.getD_eq_getElem?_getD, h]
/-- The number of the four digits at the front of a row. -/
def hexL (l : List UInt8) : Option Nat :=
  if 4 ≤ l.length ∧ hexD (at0 l 0) < 16 ∧ hexD (at0 l 1) < 16 ∧ hexD (at0 l 2) < 16 ∧ hexD (at0 l 3) < 16 then
    some (((hexD (at0 l 0) * 16 + hexD (at0 l 1)) * 16 + hexD (at0 l 2)) * 16 + hexD (at0 l 3)) else none
theorem hexL_lt {l : List UInt8} {n : Nat} (h : hexL l = some n) : n ≤ 65535 := by
  unfold hexL at h
  split at h
  · injection h; omega
  · cases h
/-- The number that backslash, u and four digits say. -/
def fourL (l : List UInt8) : Option Nat := if 2 ≤ l.length ∧ at0 l 0 = 92 ∧ at0 l 1 = 117 then hexL (l.drop 2) else none
theorem fourL_lt {l : List UInt8} {n : Nat} (h : fourL l = some n) : n ≤ 65535 := by
  unfold fourL at h
  split at h
  · exact hexL_lt h
  · cases h
theorem fourL_len {l : List UInt8} {n : Nat} (h : fourL l = some n) : 6 ≤ l.length := by
  unfold fourL hexL at h
  split at h
  · split at h
    · rename_i h1 h2
      rw [List.length_drop] at h2
      omega
    · cases h
  · cases h
/-- What a letter behind a backslash says. -/
def letL (c : Nat) : Option Nat :=
  if c = 34 then some 34 else if c = 92 then some 92 else if c = 47 then some 47 else if c = 98 then some 8 else if c = 102 then some 12
  else if c = 110 then some 10 else if c = 114 then some 13 else if c = 116 then some 9 else none
theorem letL_cases {c n : Nat} (h : letL c = some n) : n = 34 ∨ n = 92 ∨ n = 47 ∨ n = 8 ∨ n = 12 ∨ n = 10 ∨ n = 13 ∨ n = 9 := by
  unfold letL at h
  repeat' split at h
  all_goals first | (injection h; omega) | cases h
/-- An escape at the front of a row: what it says, and how long it is. -/
def escL (l : List UInt8) : Nat × Nat :=
  if l.length < 2 then (0, 0) else
  match letL (at0 l 1) with
  | some c => (c, 2)
  | none =>
    match fourL l with
    | none => (0, 0)
    | some n =>
      if n < 55296 ∨ 57343 < n then (n, 6)
      else if 56320 ≤ n then (0, 0)
      else
        match fourL (l.drop 6) with
        | none => (0, 0)
        | some m => if 56320 ≤ m ∧ m ≤ 57343 then (65536 + (n - 55296) * 1024 + (m - 56320), 12) else (0, 0)
/-- The sign at the front of a row. -/
def begL (l : List UInt8) : Nat × Nat :=
  if at0 l 0 = 92 then escL l
  else if (decL l).2 = 0 ∨ at0 l 0 < 32 ∨ at0 l 0 = 34 then (0, 0) else decL l

theorem esc_cases (l : List UInt8) : escL l = (0, 0) ∨
    (2 ≤ l.length ∧ letL (at0 l 1) = some (escL l).1 ∧ (escL l).2 = 2) ∨
    (letL (at0 l 1) = none ∧ fourL l = some (escL l).1 ∧ ((escL l).1 < 55296 ∨ 57343 < (escL l).1) ∧ (escL l).2 = 6) ∨
    (letL (at0 l 1) = none ∧ ∃ n m, fourL l = some n ∧ fourL (l.drop 6) = some m ∧ 55296 ≤ n ∧ n < 56320 ∧ 56320 ≤ m ∧ m ≤ 57343 ∧ escL l = (65536 + (n - 55296) * 1024 + (m - 56320), 12)) := by
  unfold escL
  split
  · exact .inl rfl
  · rename_i hl
    cases h1 : letL (at0 l 1) with
    | some c => exact .inr (.inl ⟨by omega, rfl, rfl⟩)
    | none =>
      cases h2 : fourL l with
      | none => exact .inl rfl
      | some n =>
        simp only
        by_cases h3 : n < 55296 ∨ 57343 < n
        · rw [if_pos h3]; exact .inr (.inr (.inl ⟨trivial, rfl, h3, rfl⟩))
        · rw [if_neg h3]
          by_cases h4 : 56320 ≤ n
          · rw [if_pos h4]; exact .inl rfl
          · rw [if_neg h4]
            cases h5 : fourL (l.drop 6) with
            | none => exact .inl rfl
            | some m =>
              simp only
              by_cases h6 : 56320 ≤ m ∧ m ≤ 57343
              · rw [if_pos h6]; exact .inr (.inr (.inr ⟨trivial, n, m, rfl, rfl, by omega, by omega, h6.1, h6.2, rfl⟩))
              · rw [if_neg h6]; exact .inl rfl
theorem isCp_of (n : Nat) (h : n ≤ 1114111) (h2 : n < 55296 ∨ 57343 < n) : isCp (n : Int) = true := (isCp_iff _).2 ⟨⟨by omega, by omega⟩, by omega⟩
theorem esc_cp (l : List UInt8) (h : (escL l).2 ≠ 0) : isCp (escL l).1 = true := by
  rcases esc_cases l with e | ⟨_, e, _⟩ | ⟨_, e, e2, _⟩ | ⟨_, n, m, e1, e2, h1, h2, h3, h4, e⟩
  · rw [e] at h; exact absurd rfl h
  · have := letL_cases e; exact isCp_of _ (by omega) (by omega)
  · have := fourL_lt e; exact isCp_of _ (by omega) e2
  · rw [e]; exact isCp_of _ (by simp only; omega) (by simp only; omega)
theorem esc_le (l : List UInt8) : (escL l).2 ≤ l.length := by
  rcases esc_cases l with e | ⟨h, _, e⟩ | ⟨_, e, _, e2⟩ | ⟨_, n, m, e1, e2, h1, h2, h3, h4, e⟩
  · rw [e]; exact Nat.zero_le _
  · rw [e]; exact h
  · rw [e2]; exact fourL_len e
  · rw [e]; have := fourL_len e2; rw [List.length_drop] at this; simp only; omega
theorem esc_zero {l : List UInt8} (h : (escL l).2 = 0) : escL l = (0, 0) := by
  rcases esc_cases l with e | ⟨_, _, e⟩ | ⟨_, _, _, e⟩ | ⟨_, n, m, _, _, _, _, _, _, e⟩
  · exact e
  all_goals (rw [e] at h; cases h)
theorem beg_esc {l : List UInt8} (h : at0 l 0 = 92) : begL l = escL l := by unfold begL; rw [if_pos h]
theorem beg_dec {l : List UInt8} (h : at0 l 0 ≠ 92) (h1 : 32 ≤ at0 l 0) (h2 : at0 l 0 ≠ 34) : begL l = decL l := by
  unfold begL
  rw [if_neg h]
  by_cases h3 : (decL l).2 = 0
  · rw [if_pos (.inl h3), dec_zero h3]
  · rw [if_neg (by omega)]
theorem beg_bad {l : List UInt8} (h : at0 l 0 < 32 ∨ at0 l 0 = 34) : begL l = (0, 0) := by
  unfold begL
  rw [if_neg (by omega), if_pos (by omega)]
theorem beg_zero {l : List UInt8} (h : (begL l).2 = 0) : begL l = (0, 0) := by
  by_cases h1 : at0 l 0 = 92
  · rw [beg_esc h1] at h ⊢; exact esc_zero h
  · by_cases h2 : at0 l 0 < 32 ∨ at0 l 0 = 34
    · exact beg_bad h2
    · rw [beg_dec h1 (by omega) (by omega)] at h ⊢; exact dec_zero h
theorem beg_cp (l : List UInt8) (h : (begL l).2 ≠ 0) : isCp (begL l).1 = true := by
  by_cases h1 : at0 l 0 = 92
  · rw [beg_esc h1] at h ⊢; exact esc_cp l h
  · by_cases h2 : at0 l 0 < 32 ∨ at0 l 0 = 34
    · rw [beg_bad h2] at h; exact absurd rfl h
    · rw [beg_dec h1 (by omega) (by omega)] at h ⊢
      exact (enc_dec (l := l) (c := (decL l).1) (n := (decL l).2) rfl h).1
theorem beg_le (l : List UInt8) : (begL l).2 ≤ l.length := by
  by_cases h1 : at0 l 0 = 92
  · rw [beg_esc h1]; exact esc_le l
  · by_cases h2 : at0 l 0 < 32 ∨ at0 l 0 = 34
    · rw [beg_bad h2]; exact Nat.zero_le _
    · rw [beg_dec h1 (by omega) (by omega)]; exact dec_le l

/-- The signs of a row, as far as it is right, and how many bytes they take. -/
def sgsL (l : List UInt8) : List Nat × Nat :=
  if (begL l).2 = 0 then ([], 0)
  else ((begL l).1 :: (sgsL (l.drop (begL l).2)).1, (begL l).2 + (sgsL (l.drop (begL l).2)).2)
termination_by l.length
decreasing_by
  all_goals
    have := beg_le l
    rw [List.length_drop]
    omega
theorem sgs_zero {l : List UInt8} (h : (begL l).2 = 0) : sgsL l = ([], 0) := by rw [sgsL, if_pos h]
theorem sgs_step {l : List UInt8} (h : (begL l).2 ≠ 0) : sgsL l = ((begL l).1 :: (sgsL (l.drop (begL l).2)).1, (begL l).2 + (sgsL (l.drop (begL l).2)).2) := by rw [sgsL, if_neg h]
theorem sgs_is : ∀ (n : Nat) (l : List UInt8), l.length ≤ n → allCp (sgsL l).1 ∧ (sgsL l).2 ≤ l.length ∧ (sgsL l).1.length ≤ (sgsL l).2 ∧ (begL (l.drop (sgsL l).2)).2 = 0
  | n, l, hl => by
    by_cases h : (begL l).2 = 0
    · rw [sgs_zero h]
      exact ⟨fun _ hx => by simp at hx, Nat.zero_le _, Nat.le_refl _, by simpa using h⟩
    · have hc := beg_cp l h
      have hle := beg_le l
      match n, hl with
      | 0, hl => omega
      | n + 1, hl =>
        obtain ⟨i1, i2, i3, i4⟩ := sgs_is n (l.drop (begL l).2) (by rw [List.length_drop]; omega)
        rw [List.length_drop] at i2
        rw [sgs_step h]
        simp only
        refine ⟨?_, by omega, ?_, ?_⟩
        · intro x hx
          rcases List.mem_cons.1 hx with rfl | hx
          · exact hc
          · exact i1 x hx
        · rw [List.length_cons]; omega
        · rw [← List.drop_drop]; exact i4
end Go.Proofs.YtgnialemiefeeaaDoor
/-
  append onto a row of the call's own, the source given by 'Shows': nil, empty or not. No program in sight.
-/
namespace Go.Proofs.YtgnialemiefeeaaDoor
open Go.RowKit

section
variable {P : Program} (w : World)

theorem run_append_shows (base : Nat) (t ty e : TypeId) (i : TypeInfo) (z : Value) (size bytes : Nat) (ht : P.underlying t = some (.slice e)) (hi : P.info? e = some i) (hz : i.zero = some z)
    (hsize : i.size = size) (hby : i.bytes = bytes) (hzs : z.cells.size = size) (hsz : 0 < size)
    (v : Value) (n : Nat) (xs : List Value) (hown : w.ownsRow base e size v n xs)
    (B : Nat) (A : Option Addr) (m c : Nat) (news : List Value) (hr : Shows w B size A m news) (h1 : ∀ u ∈ news, u.oneCell' = true)
    (h63 : n + m ≤ maxLen) (hbytes : (n + m) * bytes ≤ 140737488355328) (hbase : base ≤ w.heap.size) :
    ∃ A' c' w', (Builtin.append_ #[t, t] ty #[v, .slice A m c]).run P w = .ok (.slice A' (n + m) c') w' ∧ w'.ownsRow base e size (.slice A' (n + m) c') (n + m) (xs ++ news) ∧ w.grownBy w' v.ownBlock ∧ Below base w w' := by
  have key : ∃ v' w', (Builtin.append_ #[t, t] ty #[v, .slice A m c]).run P w = .ok v' w' ∧ w'.ownsRow base e size v' (n + m) (xs ++ news) ∧ w.grownBy w' v.ownBlock := by
    rcases A with _ | ad
    · have hm : m = 0 := by
        rcases Nat.eq_zero_or_pos m with h0 | h0
        · exact h0
        · obtain ⟨_, _, h, _⟩ := hr.2 h0
          cases h
      subst hm
      have hn : news = [] := List.eq_nil_of_length_eq_zero (by simpa using hr.1)
      subst hn
      refine ⟨v, w, ?_, by simpa using hown, World.grownBy.refl w _⟩
      rcases hown.2 with ⟨rfl, rfl⟩ | ⟨g, cap, cur, rfl, _, _, hnc, _⟩
      · simp [Builtin.append_, run_underlying ht, sizeOf, typeInfo, hi, Builtin.lenOf, Builtin.firstCells]
      · simp [Builtin.append_, run_underlying ht, sizeOf, typeInfo, hi, Builtin.lenOf, Builtin.firstCells, hnc, storeCells]
    · have hcells : ∀ j u, news[j]? = some u → w.cell? (ad.add j) = some u := by
        intro j u hu
        rcases Nat.eq_zero_or_pos m with h0 | h0
        · subst h0
          have hn : news = [] := List.eq_nil_of_length_eq_zero (by simpa using hr.1)
          subst hn
          simp at hu
        · obtain ⟨b, off, h, _, hc⟩ := hr.2 h0
          injection h with h
          subst h
          rw [addr_add]
          exact hc j u hu
      obtain ⟨v', w', hrun, h2, h3, _, _⟩ := run_append_own_at (P := P) w base t ty e i z size bytes ht hi hz hsize hby hzs hsz v n xs hown ad m c news hr.1 hcells h1 h63 hbytes hbase
      exact ⟨v', w', hrun, h2, h3⟩
  obtain ⟨v', w', hrun, h2, h3⟩ := key
  obtain ⟨A', c', rfl, _, _⟩ := own_form h2
  exact ⟨A', c', w', hrun, h2, h3, (Below.refl base w).grown h3 hbase fun k hk => (hown.lt k hk).1⟩

theorem wp_append_shows {o : Oper} {a : Act} {K : Act → World → Prop} {Q : Exit → Act → World → Prop} (s x : Operand) (t : TypeId)
    (ho : o.op = .call { callee := .builtin .append, args := #[s, x], argTypes := #[t, t] })
    (base : Nat) (e : TypeId) (i : TypeInfo) (z : Value) (size bytes : Nat) (ht : P.underlying t = some (.slice e)) (hi : P.info? e = some i) (hz : i.zero = some z)
    (hsize : i.size = size) (hby : i.bytes = bytes) (hzs : z.cells.size = size) (hsz : 0 < size)
    (v : Value) (n : Nat) (xs : List Value) (hs : a.eval s = v) (hown : w.ownsRow base e size v n xs)
    (B : Nat) (A : Option Addr) (m c : Nat) (news : List Value) (hx : a.eval x = .slice A m c) (hr : Shows w B size A m news) (h1 : ∀ u ∈ news, u.oneCell' = true)
    (h63 : n + m ≤ maxLen) (hbytes : (n + m) * bytes ≤ 140737488355328) (hbase : base ≤ w.heap.size)
    (h : ∀ A' c' w', w'.ownsRow base e size (.slice A' (n + m) c') (n + m) (xs ++ news) → w.grownBy w' v.ownBlock → Below base w w' → K (a.put o.dst (.slice A' (n + m) c')) w') :
    o.wp P a w K Q := by
  obtain ⟨A', c', w', hrun, h2, h3, h4⟩ := run_append_shows (P := P) w base t o.type e i z size bytes ht hi hz hsize hby hzs hsz v n xs hown B A m c news hr h1 h63 hbytes hbase
  unfold Oper.wp execOp
  simp only [ho, resolve, invoke, builtin, Sem.run_bind, Sem.run_pure, Result.andThen_ok, List.map_toArray, List.map_cons, List.map_nil, hs, hx, hrun]
  exact h A' c' w' h2 h3 h4

theorem wpList_append_shows {ops : Array Oper} {rest : List Oper} {o : Oper} {a : Act} {Q : Exit → Act → World → Prop} (hgd : o.guard = none) (s x : Operand) (t : TypeId)
    (ho : o.op = .call { callee := .builtin .append, args := #[s, x], argTypes := #[t, t] })
    (base : Nat) (e : TypeId) (i : TypeInfo) (z : Value) (size bytes : Nat) (ht : P.underlying t = some (.slice e)) (hi : P.info? e = some i) (hz : i.zero = some z)
    (hsize : i.size = size) (hby : i.bytes = bytes) (hzs : z.cells.size = size) (hsz : 0 < size)
    (v : Value) (n : Nat) (xs : List Value) (hs : a.eval s = v) (hown : w.ownsRow base e size v n xs)
    (B : Nat) (A : Option Addr) (m c : Nat) (news : List Value) (hx : a.eval x = .slice A m c) (hr : Shows w B size A m news) (h1 : ∀ u ∈ news, u.oneCell' = true)
    (h63 : n + m ≤ maxLen) (hbytes : (n + m) * bytes ≤ 140737488355328) (hbase : base ≤ w.heap.size)
    (h : ∀ A' c' w', w'.ownsRow base e size (.slice A' (n + m) c') (n + m) (xs ++ news) → w.grownBy w' v.ownBlock → Below base w w' → wpList P ops Q rest (a.put o.dst (.slice A' (n + m) c')) w') :
    wpList P ops Q (o :: rest) a w :=
  wpList_plain hgd fun _ hK => wp_append_shows w s x t ho base e i z size bytes ht hi hz hsize hby hzs hsz v n xs hs hown B A m c news hx hr h1 h63 hbytes hbase fun A' c' w' h2 h3 h4 => hK _ _ (h A' c' w' h2 h3 h4)

theorem step_append_shows {ops : Array Oper} {o : Oper} {a : Act} {K : Act → World → Prop} {Q : Exit → Act → World → Prop} {E : Prop} (hgd : o.guard = none) (s x : Operand) (t : TypeId)
    (ho : o.op = .call { callee := .builtin .append, args := #[s, x], argTypes := #[t, t] })
    (base : Nat) (e : TypeId) (i : TypeInfo) (z : Value) (size bytes : Nat) (ht : P.underlying t = some (.slice e)) (hi : P.info? e = some i) (hz : i.zero = some z)
    (hsize : i.size = size) (hby : i.bytes = bytes) (hzs : z.cells.size = size) (hsz : 0 < size)
    (v : Value) (n : Nat) (xs : List Value) (hs : a.eval s = v) (hown : w.ownsRow base e size v n xs)
    (B : Nat) (A : Option Addr) (m c : Nat) (news : List Value) (hx : a.eval x = .slice A m c) (hr : Shows w B size A m news) (h1 : ∀ u ∈ news, u.oneCell' = true)
    (h63 : n + m ≤ maxLen) (hbytes : (n + m) * bytes ≤ 140737488355328) (hbase : base ≤ w.heap.size)
    (h : ∀ A' c' w', w'.ownsRow base e size (.slice A' (n + m) c') (n + m) (xs ++ news) → w.grownBy w' v.ownBlock → Below base w w' → K (a.put o.dst (.slice A' (n + m) c')) w') :
    if Region.wanted o (yielded ops a.tmps) = true then Oper.wp P o a w K Q else E := by
  have hw : Region.wanted o (yielded ops a.tmps) = true := by simp [Region.wanted, hgd]
  rw [if_pos hw]
  exact wp_append_shows w s x t ho base e i z size bytes ht hi hz hsize hby hzs hsz v n xs hs hown B A m c news hx hr h1 h63 hbytes hbase h
end
end Go.Proofs.YtgnialemiefeeaaDoor
