import Derived.WalkKit
import Derived.WalkSpells
import Derived.WalkLawsBesides
import Derived.Laws.CopyOwn
import Derived.Maps.AppendAt
import Derived.Deep.AppendLies
import Derived.Deep.Draws
import Derived.Test.YtghmehfmchadoaaDoorRows
import Derived.ProofKit
import Derived.OpenShut
import Derived.ShutString
import Derived.ChangeOld
import Derived.Below
import Derived.Laws.IdiomArrays
/-
  Words for memory used by all contracts of this seat: what a slice shows, kept over draws, new blocks, stores elsewhere; byte slices; small facts on worlds. No program in sight.
-/
namespace Go.Proofs.YtghmehfmchadoaaDoor
open Go.RowKit

theorem addr_add (b off j : Nat) : (⟨b, off, none⟩ : Addr).add j = ⟨b, off + j, none⟩ := by
  unfold Addr.add; split <;> simp_all

theorem cell_set {w : World} {p : Addr} {v : Value} (h : w.cell? p = some v) (u : Value) : (w.setCell p u).cell? p = some u := World.cell?_setCell_same w p u h
theorem frozen_set (w : World) (p q : Addr) (u : Value) : (w.setCell p u).frozen? q = w.frozen? q := by simp
theorem size_set (w : World) (p : Addr) (u : Value) : (w.setCell p u).heap.size = w.heap.size := by simp [World.setCell]

theorem cell_keep {w : World} {a : Addr} {v : Value} (h : w.cell? a = some v) (o : Obj) : (w.alloc o).cell? a = some v := by
  rw [World.cell?_alloc_lt _ _ _ (World.block_lt_of_cell? w _ h)]
  exact h
theorem frozen_keep {w : World} {a : Addr} {v : Value} (h : w.cell? a = some v) (o : Obj) : (w.alloc o).frozen? a = w.frozen? a :=
  World.frozen?_alloc_old w o a (Nat.ne_of_lt (World.block_lt_of_cell? w _ h))
theorem below_undrew {B : Nat} {w w' : World} (h : Below B w.drew w') : Below B w w' := ⟨h.os, h.tape, h.output, h.size, h.block⟩
theorem below_drewN {B : Nat} {w w' : World} (h : Below B w w') (k : Nat) : Below B w (w'.drewN k) := ⟨h.os, h.tape, h.output, h.size, h.block⟩
theorem below_undrewN {B k : Nat} {w w' : World} (h : Below B (w.drewN k) w') : Below B w w' := ⟨h.os, h.tape, h.output, h.size, h.block⟩

/-- The slice value with address A and n elements of 'size' cells each shows the cells xs, in a block below B. -/
def Shows (w : World) (B size : Nat) (A : Option Addr) (n : Nat) (xs : List Value) : Prop :=
  xs.length = n * size ∧ (0 < n → ∃ b off, A = some ⟨b, off, none⟩ ∧ b < B ∧ ∀ j u, xs[j]? = some u → w.cell? ⟨b, off + j, none⟩ = some u)

section
variable {w w' : World} {B B' size n : Nat} {A : Option Addr} {xs : List Value}
theorem Shows.zero (A : Option Addr) : Shows w B size A 0 [] := ⟨by simp, fun h => absurd h (by omega)⟩
theorem Shows.keep (h : Shows w B size A n xs) (hk : ∀ p : Addr, p.block < B → w'.cell? p = w.cell? p) : Shows w' B size A n xs :=
  ⟨h.1, fun hn => by
    obtain ⟨b, off, e, hb, hc⟩ := h.2 hn
    exact ⟨b, off, e, hb, fun j u hu => (hk _ hb).trans (hc j u hu)⟩⟩
theorem Shows.more (h : Shows w B size A n xs) (hB : B ≤ B') : Shows w B' size A n xs :=
  ⟨h.1, fun hn => by
    obtain ⟨b, off, e, hb, hc⟩ := h.2 hn
    exact ⟨b, off, e, by omega, hc⟩⟩
theorem Shows.below (h : Shows w B size A n xs) (hb : Below B w w') : Shows w' B size A n xs := h.keep fun _ hp => hb.cell hp
theorem Shows.drew (h : Shows w B size A n xs) : Shows w.drew B size A n xs := h
theorem Shows.drewN (h : Shows w B size A n xs) (k : Nat) : Shows (w.drewN k) B size A n xs := h
theorem Shows.alloc (h : Shows w B size A n xs) (hB : B ≤ w.heap.size) (o : Obj) : Shows (w.alloc o) B size A n xs := h.keep fun p hp => World.cell?_alloc_lt w o p (by omega)
theorem Shows.setCell (h : Shows w B size A n xs) {p : Addr} (hB : B ≤ p.block) (u : Value) : Shows (w.setCell p u) B size A n xs :=
  h.keep fun q hq => World.cell?_setCell_other w p q u (fun e => by subst e; omega)
theorem Shows.cut (h : Shows w B size A n xs) {k cap : Nat} (hk : k ≤ n) (hc : n ≤ cap) :
    Shows w B size (if cap = k then A else A.map (·.add (k * size))) (n - k) (xs.drop (k * size)) := by
  refine ⟨by rw [List.length_drop, h.1, Nat.sub_mul], fun hn => ?_⟩
  obtain ⟨b, off, rfl, hb, hcell⟩ := h.2 (by omega)
  rw [if_neg (by omega)]
  refine ⟨b, off + k * size, by rw [Option.map_some, addr_add], hb, fun j u hu => ?_⟩
  rw [Nat.add_assoc]
  exact hcell _ u (by rw [← hu, List.getElem?_drop])
theorem Shows.first (h : Shows w B size A n xs) {k : Nat} (hk : k ≤ n) : Shows w B size A k (xs.take (k * size)) := by
  refine ⟨by rw [List.length_take, h.1]; exact Nat.min_eq_left (Nat.mul_le_mul_right _ hk), fun hn => ?_⟩
  obtain ⟨b, off, rfl, hb, hcell⟩ := h.2 (by omega)
  refine ⟨b, off, rfl, hb, fun j u hu => hcell j u ?_⟩
  rw [List.getElem?_take] at hu
  split at hu
  · exact hu
  · cases hu
theorem Shows.own {base : Nat} {e : TypeId} {c : Nat} (h : w.ownsRow base e size (.slice A n c) n xs) : Shows w w.heap.size size A n xs := by
  refine ⟨h.1, fun hn => ?_⟩
  obtain ⟨g, cap, hv, _, hlt⟩ := h.form hn
  have hA : A = some ⟨g, 0, none⟩ := by injection hv
  subst hA
  refine ⟨g, 0, rfl, hlt, fun j u hu => ?_⟩
  have := h.cells (g := g) rfl j u hu
  rwa [addr_add] at this
end

/-- A byte as a cell holds it. -/
def bv (x : UInt8) : Value := .int .u8 (x.toNat : Int)
/-- The byte at a place, as a number. -/
def at8 (l : List UInt8) (k : Nat) : Int := ((l.getD k 0).toNat : Int)
theorem at8_lo (l : List UInt8) (k : Nat) : 0 ≤ at8 l k := by unfold at8; omega
theorem at8_hi (l : List UInt8) (k : Nat) : at8 l k ≤ 255 := by unfold at8; have := (l.getD k 0).toNat_lt; omega
theorem at8_bv {l : List UInt8} {k : Nat} (h : k < l.length) : (l.map bv)[k]? = some (.int .u8 (at8 l k)) := by
  rw [List.getElem?_map, List.getElem?_eq_getElem h]
  unfold at8
  rw [List.getD_eq_getElem?_getD, List.getElem?_eq_getElem h]
  rfl
theorem at8_inj {l m : List UInt8} {k j : Nat} (h : at8 l k = at8 m j) : l.getD k 0 = m.getD j 0 := UInt8.toNat_inj.1 (Int.ofNat_inj.1 h)
theorem take_snoc (l : List UInt8) (k : Nat) (h : k < l.length) : l.take (k + 1) = l.take k ++ [l.getD k 0] := by
  rw [List.take_succ_eq_append_getElem h, List.getD_eq_getElem?_getD, List.getElem?_eq_getElem h]
  rfl
/-- A slice of bytes. -/
def Bytes (w : World) (B : Nat) (A : Option Addr) (n : Nat) (l : List UInt8) : Prop := Shows w B 1 A n (l.map bv)

section
variable {w w' : World} {B B' n : Nat} {A : Option Addr} {l : List UInt8}
theorem Bytes.len (h : Bytes w B A n l) : l.length = n := by have := h.1; simpa using this
theorem Bytes.zero (A : Option Addr) : Bytes w B A 0 [] := Shows.zero A
theorem Bytes.keep (h : Bytes w B A n l) (hk : ∀ p : Addr, p.block < B → w'.cell? p = w.cell? p) : Bytes w' B A n l := Shows.keep h hk
theorem Bytes.more (h : Bytes w B A n l) (hB : B ≤ B') : Bytes w B' A n l := Shows.more h hB
theorem Bytes.below (h : Bytes w B A n l) (hb : Below B w w') : Bytes w' B A n l := Shows.below h hb
theorem Bytes.drew (h : Bytes w B A n l) : Bytes w.drew B A n l := h
theorem Bytes.drewN (h : Bytes w B A n l) (k : Nat) : Bytes (w.drewN k) B A n l := h
theorem Bytes.alloc (h : Bytes w B A n l) (hB : B ≤ w.heap.size) (o : Obj) : Bytes (w.alloc o) B A n l := Shows.alloc h hB o
theorem Bytes.setCell (h : Bytes w B A n l) {p : Addr} (hB : B ≤ p.block) (u : Value) : Bytes (w.setCell p u) B A n l := Shows.setCell h hB u
theorem Bytes.cut (h : Bytes w B A n l) {k cap : Nat} (hk : k ≤ n) (hc : n ≤ cap) : Bytes w B (if cap = k then A else A.map (·.add k)) (n - k) (l.drop k) := by
  have := Shows.cut h hk hc
  unfold Bytes
  simpa [List.map_drop] using this
theorem Bytes.first (h : Bytes w B A n l) {k : Nat} (hk : k ≤ n) : Bytes w B A k (l.take k) := by
  have := Shows.first h hk
  unfold Bytes
  simpa [List.map_take] using this
theorem Bytes.cell (h : Bytes w B A n l) {k : Nat} (hk : k < n) : ∃ b off, A = some ⟨b, off, none⟩ ∧ b < B ∧ w.cell? ⟨b, off + k, none⟩ = some (.int .u8 (at8 l k)) := by
  obtain ⟨b, off, e, hb, hc⟩ := h.2 (by omega)
  exact ⟨b, off, e, hb, hc k _ (at8_bv (by have := h.len; omega))⟩
theorem Bytes.own {base : Nat} {e : TypeId} {c : Nat} (h : w.ownsRow base e 1 (.slice A n c) n (l.map bv)) : Bytes w w.heap.size A n l := Shows.own h
end

theorem bytes_new (w : World) (l : List UInt8) (C : Array Value) (t : TypeId) (fr : Nat × Nat) (hC : C.toList = l.map bv) : Bytes (w.alloc (.cells C t fr)) (w.heap.size + 1) (some ⟨w.heap.size, 0, none⟩) l.length l :=
  ⟨by simp, fun _ => ⟨w.heap.size, 0, rfl, by omega, fun j u hu => by
    rw [cell_of_row _ _ _ _ _ _ (heap_alloc_new w _), Nat.zero_add]
    rw [← hC] at hu
    simpa using hu⟩⟩

/-- What a call that gives a slice of bytes of its own hands back. -/
def GivesBytes (e8 : TypeId) (l : List UInt8) (W : World) (e : Ending) (w' : World) : Prop :=
  ∃ A n c, e = .returned (.slice A n c) ∧ w'.ownsRow W.heap.size e8 1 (.slice A n c) n (l.map bv) ∧ Below W.heap.size W w'
theorem own_form {w : World} {base : Nat} {e : TypeId} {v : Value} {n : Nat} {xs : List Value} {size : Nat} (h : w.ownsRow base e size v n xs) : ∃ A c, v = .slice A n c ∧ n ≤ c ∧ c ≤ maxLen := by
  rcases h.2 with ⟨rfl, rfl⟩ | ⟨g, cap, cur, rfl, _, _, h1, h2, _⟩
  · exact ⟨none, 0, rfl, Nat.le_refl _, by unfold maxLen; omega⟩
  · exact ⟨_, cap, rfl, h1, h2⟩
theorem own_below {w w' : World} {base : Nat} {e : TypeId} {v : Value} {n : Nat} {xs : List Value} {size : Nat} (h : w.ownsRow base e size v n xs) (hb : Below w.heap.size w w') : w'.ownsRow base e size v n xs :=
  h.kept (row := none) ⟨hb.os, hb.tape, hb.output, hb.size, fun k hk _ => hb.block k hk⟩ (by cases hv : v.ownBlock <;> simp)
theorem own_base {w : World} {base base' : Nat} {e : TypeId} {v : Value} {n : Nat} {xs : List Value} {size : Nat} (h : w.ownsRow base e size v n xs) (hb : base' ≤ base) : w.ownsRow base' e size v n xs := by
  refine ⟨h.1, ?_⟩
  rcases h.2 with h2 | ⟨g, cap, cur, hv, hg, r⟩
  · exact .inl h2
  · exact .inr ⟨g, cap, cur, hv, Nat.le_trans hb hg, r⟩
theorem bv_one (l : List UInt8) : ∀ u ∈ l.map bv, u.oneCell' = true := by
  intro u hu
  obtain ⟨x, _, rfl⟩ := List.mem_map.1 hu
  rfl
end Go.Proofs.YtghmehfmchadoaaDoor
/-
  What the rows' proofs share: an argument that is a slice of bytes, opened.
-/
namespace Go.Proofs.YtghmehfmchadoaaDoor
open Go.ChangeShapes Go.WideShapes Go.ChangeAt Go.RowKit

theorem own : ownKnob Tryd.prog.godebug = none := by kernel_rfl
theorem laidOut : laidOutB Tryd.prog = true := by kernel_rfl

theorem wf_u8 {z : Int} (h : (Lit.int .u8 z).wf = true) : 0 ≤ z ∧ z < 256 := by
  simp [Lit.wf, IntKind.min, IntKind.max, IntKind.bits, IntKind.signed] at h
  omega
theorem wf_u32 {z : Int} (h : (Lit.int .u32 z).wf = true) : 0 ≤ z ∧ z < 4294967296 := by
  simp [Lit.wf, IntKind.min, IntKind.max, IntKind.bits, IntKind.signed] at h
  omega
theorem wf_u64 {z : Int} (h : (Lit.int .u64 z).wf = true) : 0 ≤ z ∧ z < 18446744073709551616 := by
  simp [Lit.wf, IntKind.min, IntKind.max, IntKind.bits, IntKind.signed] at h
  omega
theorem wf_i64 {z : Int} (h : (Lit.int .i64 z).wf = true) : -9223372036854775808 ≤ z ∧ z < 9223372036854775808 := by
  simp [Lit.wf, IntKind.min, IntKind.max, IntKind.bits, IntKind.signed] at h
  omega

/-- A slice of bytes that came in. -/
theorem came_bytes {W : World} {a : Addr} {n c : Nat} {zs : List Int} (hn : n ≤ c) (hz : zs.length = c) (hcell : ∀ i, i < zs.length → W.cell? (a.add i) = some (.int .u8 (zs.getD i 0))) (hw : ∀ z ∈ zs, (Lit.int .u8 z).wf = true) :
    ∃ l : List UInt8, Bytes W W.heap.size (some a) n l := by
  refine ⟨(zs.take n).map fun z => UInt8.ofNat z.toNat, by simp; omega, fun hn0 => ?_⟩
  obtain ⟨b, off, spot⟩ := a
  have hc0 := hcell 0 (by omega)
  have hspot : spot = none := by simpa [Addr.add] using World.cell?_spot hc0
  subst hspot
  have hlt : b < W.heap.size := World.block_lt_of_cell? W _ (by simpa [Addr.add] using hc0)
  refine ⟨b, off, rfl, hlt, fun j u hu => ?_⟩
  simp only [List.map_map, List.getElem?_map, Option.map_eq_some_iff] at hu
  obtain ⟨z, hz1, rfl⟩ := hu
  rw [List.getElem?_take] at hz1
  split at hz1
  · have hj : j < zs.length := (List.getElem?_eq_some_iff.1 hz1).1
    have hcj := hcell j hj
    rw [addr_add] at hcj
    rw [hcj, List.getD_eq_getElem?_getD, hz1]
    have := wf_u8 (hw z (List.mem_of_getElem? hz1))
    simp [bv]
    omega
  · cases hz1

/-- An array of four bytes, by value. -/
theorem list4 {α : Type} (l : List α) (h : (⟨l⟩ : Array α).size = 4) : ∃ a b c d, l = [a, b, c, d] := by
  match l, h with
  | [a, b, c, d], _ => exact ⟨a, b, c, d, rfl⟩
theorem bv_of {z : Int} (h : (Lit.int .u8 z).wf = true) : ∃ x : UInt8, Value.int .u8 z = bv x := by
  have := wf_u8 h
  refine ⟨UInt8.ofNat z.toNat, ?_⟩
  unfold bv
  rw [UInt8.toNat_ofNat']
  congr 1
  omega
theorem came_arr4 {H : Type} {enc : TypeId × Value → H} {P : Program} {w W : World} {base b0 : Nat} {spare : Nat → Bool} {held : Bool} {r : Reach} {t e : TypeId} {v : Value} {d : DataW H} {p : List MemPlace}
    (ht : P.underlying t = some (.array 4 e)) (he : P.underlying e = some (.int .u8)) (hce : P.cellsOf e = 1) (hct : P.cellsOf t = 4)
    (hv : Value.okWide P W r b0 t v) (h : DataW.Trod enc P w base spare held t v d p) : ∃ x0 x1 x2 x3 : UInt8, v = .agg #[bv x0, bv x1, bv x2, bv x3] := by
  obtain ⟨cs, rfl, hsz, _⟩ : ∃ cs, v = .agg cs ∧ cs.size = P.cellsOf t ∧ Row.okWide P W r b0 t cs := by
    simpa [Value.okWide, ht] using hv
  rw [hct] at hsz
  obtain ⟨l⟩ := cs
  obtain ⟨c0, c1, c2, c3, rfl⟩ := list4 l hsz
  obtain ⟨fuel, hf⟩ := h
  obtain ⟨y0, y1, y2, y3, m, hx, hy0, hy1, hy2, hy3⟩ := trod_array4 ht hce hf
  obtain ⟨x0, e0, rfl, w0⟩ := DataW.trod_int he hy0
  obtain ⟨x1, e1, rfl, w1⟩ := DataW.trod_int he hy1
  obtain ⟨x2, e2, rfl, w2⟩ := DataW.trod_int he hy2
  obtain ⟨x3, e3, rfl, w3⟩ := DataW.trod_int he hy3
  simp at e0 e1 e2 e3
  subst e0 e1 e2 e3
  obtain ⟨a0, h0⟩ := bv_of w0
  obtain ⟨a1, h1⟩ := bv_of w1
  obtain ⟨a2, h2⟩ := bv_of w2
  obtain ⟨a3, h3⟩ := bv_of w3
  exact ⟨a0, a1, a2, a3, by rw [h0, h1, h2, h3]⟩
end Go.Proofs.YtghmehfmchadoaaDoor
/-
  The mathematics of the checksum: a register of 32 bits that consumes bits, over the natural numbers. No program in sight.
-/
namespace Go.Proofs.YtghmehfmchadoaaDoor.Crc

def pol : Nat := 2197175160
/-- A zero bit is consumed. -/
def st (s : Nat) : Nat := if s % 2 = 1 then (s / 2) ^^^ pol else s / 2
/-- A bit x is consumed. -/
def bit (s x : Nat) : Nat := if s % 2 = x then s / 2 else (s / 2) ^^^ pol
def stN : Nat → Nat → Nat
  | 0, s => s
  | n + 1, s => stN n (st s)

theorem xor_half (a b : Nat) : (a ^^^ b) / 2 = a / 2 ^^^ b / 2 := by
  have h := Nat.shiftRight_xor_distrib (a := a) (b := b) (i := 1)
  simpa [Nat.shiftRight_eq_div_pow] using h
theorem xor_16 (a b : Nat) : (a ^^^ b) / 16 = a / 16 ^^^ b / 16 := by
  have h := Nat.shiftRight_xor_distrib (a := a) (b := b) (i := 4)
  simpa [Nat.shiftRight_eq_div_pow] using h
theorem xor_odd (a b : Nat) : (a ^^^ b) % 2 = (a + b) % 2 := by
  have h := Nat.xor_mod_two_pow (a := a) (b := b) (n := 1)
  simp only [Nat.pow_one] at h
  rw [h]
  rcases Nat.mod_two_eq_zero_or_one a with ha | ha <;> rcases Nat.mod_two_eq_zero_or_one b with hb | hb <;> rw [ha, hb] <;> first | (show 0 = _; omega) | (show 1 = _; omega)
theorem xor_swap (a b c d : Nat) : (a ^^^ b) ^^^ (c ^^^ d) = (a ^^^ c) ^^^ (b ^^^ d) := by
  rw [Nat.xor_assoc, ← Nat.xor_assoc b c d, Nat.xor_comm b c, Nat.xor_assoc c b d, ← Nat.xor_assoc]
theorem st_xor (a b : Nat) : st (a ^^^ b) = st a ^^^ st b := by
  unfold st
  rw [xor_half, xor_odd]
  rcases Nat.mod_two_eq_zero_or_one a with ha | ha <;> rcases Nat.mod_two_eq_zero_or_one b with hb | hb
  · rw [if_neg (by omega), if_neg (by omega), if_neg (by omega)]
  · rw [if_pos (by omega), if_neg (by omega), if_pos (by omega), Nat.xor_assoc]
  · rw [if_pos (by omega), if_pos (by omega), if_neg (by omega), Nat.xor_assoc, Nat.xor_comm (b / 2) pol, ← Nat.xor_assoc]
  · rw [if_neg (by omega), if_pos (by omega), if_pos (by omega), xor_swap, Nat.xor_self, Nat.xor_zero]
theorem st_lt {s : Nat} (h : s < 4294967296) : st s < 4294967296 := by
  unfold st
  split
  · exact Nat.xor_lt_two_pow (n := 32) (by omega) (by decide)
  · omega
theorem st_double (s : Nat) : st (2 * s) = s := by
  unfold st
  rw [if_neg (by omega)]
  omega
theorem bit_st (s c : Nat) : bit s (c % 2) ^^^ (c / 2) = st (s ^^^ c) := by
  unfold st bit
  rw [xor_half, xor_odd]
  by_cases h : s % 2 = c % 2
  · rw [if_pos h, if_neg (by omega)]
  · rw [if_neg h, if_pos (by omega), Nat.xor_assoc, Nat.xor_comm pol, ← Nat.xor_assoc]
theorem bit_lt {s : Nat} (x : Nat) (h : s < 4294967296) : bit s x < 4294967296 := by
  unfold bit
  split
  · omega
  · exact Nat.xor_lt_two_pow (n := 32) (by omega) (by decide)
theorem stN_xor (n : Nat) : ∀ a b : Nat, stN n (a ^^^ b) = stN n a ^^^ stN n b := by
  induction n with
  | zero => intro a b; rfl
  | succ n ih => intro a b; show stN n (st (a ^^^ b)) = _; rw [st_xor, ih]; rfl
theorem stN_lt (n : Nat) : ∀ {s : Nat}, s < 4294967296 → stN n s < 4294967296 := by
  induction n with
  | zero => intro s h; exact h
  | succ n ih => intro s h; exact ih (st_lt h)
theorem stN_add (m n : Nat) : ∀ s, stN (m + n) s = stN n (stN m s) := by
  induction m with
  | zero => intro s; rw [Nat.zero_add]; rfl
  | succ m ih => intro s; rw [show m + 1 + n = (m + n) + 1 by omega]; exact ih (st s)
theorem stN_succ (n s : Nat) : stN (n + 1) s = st (stN n s) := by rw [stN_add]; rfl
theorem stN_zero (n : Nat) : stN n 0 = 0 := by
  induction n with
  | zero => rfl
  | succ n ih => exact ih
theorem stN_pow (k : Nat) : ∀ s, stN k (2 ^ k * s) = s := by
  induction k with
  | zero => intro s; show 1 * s = s; omega
  | succ k ih => intro s; show stN k (st (2 ^ (k + 1) * s)) = s; rw [show 2 ^ (k + 1) * s = 2 * (2 ^ k * s) by rw [Nat.pow_succ, Nat.mul_comm (2 ^ k) 2, Nat.mul_assoc], st_double, ih]

/-- What four zero bits make of the lowest four. -/
def tab : List Nat := [0, 274646895, 549293790, 820201905, 1098587580, 1361435347, 1640403810, 1905808397, 2197175160, 2460548119, 2722870694, 2987750089, 3280807620, 3553878443, 3811616794, 4084100981]
def tb (i : Nat) : Nat := tab.getD i 0
theorem tb_st (i : Nat) (h : i < 16) : tb i = stN 4 i := by
  have : ∀ i < 16, tb i = stN 4 i := by decide
  exact this i h
theorem tb_lt (i : Nat) (h : i < 16) : tb i < 4294967296 := by rw [tb_st i h]; exact stN_lt 4 (by omega)
theorem split16 (u : Nat) : u = 2 ^ 4 * (u / 16) ^^^ u % 16 := by
  have h1 : 2 ^ 4 * (u / 16) ^^^ u % 16 = 2 ^ 4 * (u / 16) + u % 16 := by
    apply Nat.eq_of_testBit_eq
    intro i
    rw [Nat.testBit_xor, Nat.testBit_two_pow_mul_add _ (by omega), Nat.testBit_two_pow_mul]
    by_cases hi : i < 4
    · rw [if_pos hi, decide_eq_false (by omega)]; simp
    · rw [if_neg hi, decide_eq_true (by omega : i ≥ 4), Nat.testBit_lt_two_pow (x := u % 16) (i := i) (by have := Nat.pow_le_pow_right (n := 2) (by decide) (show 4 ≤ i by omega); omega)]
      simp
  rw [h1]; omega
theorem stN4 (u : Nat) : stN 4 u = u / 16 ^^^ tb (u % 16) := by
  conv => lhs; rw [split16 u]
  rw [stN_xor, stN_pow 4, tb_st _ (by omega)]
/-- A quarter of two bytes. -/
def quarter (s x : Nat) : Nat := s / 16 ^^^ tb ((s ^^^ x) % 16)
theorem quarter_st (s x : Nat) : quarter s x = stN 4 (s ^^^ x % 16) := by
  rw [stN4, xor_16, show x % 16 / 16 = 0 by omega, Nat.xor_zero]
  unfold quarter
  have h1 := Nat.xor_mod_two_pow (a := s) (b := x) (n := 4)
  have h2 := Nat.xor_mod_two_pow (a := s) (b := x % 16) (n := 4)
  simp only [Nat.reducePow] at h1 h2
  rw [h1, h2, Nat.mod_mod]
theorem quarter_lt {s : Nat} (x : Nat) (h : s < 4294967296) : quarter s x < 4294967296 := by
  rw [quarter_st]; exact stN_lt 4 (Nat.xor_lt_two_pow (n := 32) h (by omega))
/-- A byte is consumed. -/
def eat (s : Nat) (c : UInt8) : Nat := stN 8 (s ^^^ c.toNat)
theorem eat_lt {s : Nat} (c : UInt8) (h : s < 4294967296) : eat s c < 4294967296 := stN_lt 8 (Nat.xor_lt_two_pow (n := 32) h (by have := c.toNat_lt; omega))
theorem quarters (s : Nat) (c : UInt8) : quarter (quarter s c.toNat) (c.toNat / 16) = eat s c := by
  have hc := c.toNat_lt
  unfold eat
  rw [quarter_st, quarter_st, show c.toNat / 16 % 16 = c.toNat / 16 by omega, stN_add 4 4]
  conv => rhs; rw [split16 c.toNat]
  rw [Nat.xor_comm (2 ^ 4 * _), ← Nat.xor_assoc, stN_xor 4 (s ^^^ c.toNat % 16), stN_pow 4]
def take (s : Nat) (l : List UInt8) : Nat := l.foldl eat s
theorem take_lt (l : List UInt8) : ∀ {s : Nat}, s < 4294967296 → take s l < 4294967296 := by
  induction l with
  | nil => intro s h; exact h
  | cons c l ih => intro s h; exact ih (eat_lt c h)
theorem take_append (s : Nat) (l m : List UInt8) : take s (l ++ m) = take (take s l) m := List.foldl_append
theorem take_one (s : Nat) (c : UInt8) : take s [c] = eat s c := by unfold take; rw [List.foldl_cons, List.foldl_nil]
/-- A sum that goes on. -/
def more (s : Nat) (l : List UInt8) : Nat := 4294967295 - take (4294967295 - s) l
theorem more_lt (s : Nat) (l : List UInt8) : more s l < 4294967296 := Nat.lt_of_le_of_lt (Nat.sub_le _ _) (by decide)
def laid (s : Nat) : List UInt8 := [UInt8.ofNat s, UInt8.ofNat (s / 256), UInt8.ofNat (s / 65536), UInt8.ofNat (s / 16777216)]

/-- The complement is an exclusive or. -/
theorem comp (s : Nat) (h : s < 4294967296) : 4294967295 - s = 4294967295 ^^^ s := by
  apply Nat.eq_of_testBit_eq
  intro i
  have h1 := Nat.testBit_two_pow_sub_succ (x := s) (n := 32) (by simpa using h) i
  have h2 := Nat.testBit_two_pow_sub_one 32 i
  simp only [Nat.reducePow, Nat.reduceSub] at h1 h2
  rw [Nat.testBit_xor, h2, show 4294967295 - s = 4294967296 - (s + 1) by omega, h1]
  by_cases hi : i < 32
  · simp [hi]
  · rw [Nat.testBit_lt_two_pow (x := s) (i := i) (by have := Nat.pow_le_pow_right (n := 2) (by decide) (show 32 ≤ i by omega); omega)]
    simp [hi]
/-- A linear map of the register. -/
structure Lin (f : Nat → Nat) : Prop where
  zero : f 0 = 0
  xor : ∀ a b, f (a ^^^ b) = f a ^^^ f b
  lt : ∀ a, a < 4294967296 → f a < 4294967296
theorem Lin.stN (n : Nat) : Lin (stN n) := ⟨stN_zero n, stN_xor n, fun _ h => stN_lt n h⟩
theorem Lin.twice {f : Nat → Nat} (h : Lin f) : Lin (fun s => f (f s)) := ⟨by rw [h.zero, h.zero], fun a b => by rw [h.xor, h.xor], fun a ha => h.lt _ (h.lt a ha)⟩
theorem split_bit (s k : Nat) : s % 2 ^ (k + 1) = s % 2 ^ k ^^^ s / 2 ^ k % 2 * 2 ^ k := by
  have h1 : s % 2 ^ k ^^^ s / 2 ^ k % 2 * 2 ^ k = s / 2 ^ k % 2 * 2 ^ k + s % 2 ^ k := by
    rw [Nat.xor_comm]
    apply Nat.eq_of_testBit_eq
    intro i
    rw [Nat.mul_comm, Nat.testBit_xor, Nat.testBit_two_pow_mul_add _ (Nat.mod_lt _ (Nat.two_pow_pos k)), Nat.testBit_two_pow_mul]
    by_cases hi : i < k
    · rw [if_pos hi, decide_eq_false (by omega)]; simp
    · rw [if_neg hi, decide_eq_true (by omega : i ≥ k), Nat.testBit_lt_two_pow (x := s % 2 ^ k) (i := i) (Nat.lt_of_lt_of_le (Nat.mod_lt _ (Nat.two_pow_pos k)) (Nat.pow_le_pow_right (by decide) (by omega)))]
      simp
  rw [h1, Nat.mod_pow_succ, Nat.mul_comm, Nat.add_comm]
theorem Lin.next {f : Nat → Nat} (h : Lin f) (s k : Nat) : f (s % 2 ^ (k + 1)) = if s / 2 ^ k % 2 = 1 then f (s % 2 ^ k) ^^^ f (2 ^ k) else f (s % 2 ^ k) := by
  rw [split_bit, h.xor]
  split
  · rename_i h1
    rw [h1, Nat.one_mul]
  · rename_i h1
    rw [show s / 2 ^ k % 2 = 0 by omega, Nat.zero_mul, h.zero, Nat.xor_zero]
end Go.Proofs.YtghmehfmchadoaaDoor.Crc
/-
  Layer 11, plain: records laid past the marks of blocks, and read again. No program in sight.
-/
namespace Go.Proofs.YtghmehfmchadoaaDoor.Fra
set_option linter.unusedVariables false

/-- The length of a record, in two bytes. -/
def sizeL (n : Nat) : List UInt8 := [UInt8.ofNat (n / 256), UInt8.ofNat n]
/-- What goes out for a record. -/
def encL (l : List UInt8) : List UInt8 := sizeL l.length ++ (Crc.laid (Crc.more 0 (sizeL l.length ++ l)) ++ l)
theorem encL_len (l : List UInt8) : (encL l).length = 6 + l.length := by simp [encL, sizeL, Crc.laid]; omega
/-- Bytes past the marks, from an offset on. -/
def layP : Nat → List UInt8 → List UInt8
  | _, [] => []
  | n, x :: l => if n % 64 = 0 then 0 :: x :: layP (n + 2) l else x :: layP (n + 1) l
/-- The offsets behind them. -/
def posP : Nat → List UInt8 → List (UInt8 × Nat)
  | _, [] => []
  | n, x :: l => if n % 64 = 0 then (x, n + 2) :: posP (n + 2) l else (x, n + 1) :: posP (n + 1) l
/-- The bytes past the marks, up to a block that is not for data, with the offsets behind them. -/
def pastP : Nat → List UInt8 → List (UInt8 × Nat)
  | _, [] => []
  | n, x :: l => if n % 64 = 0 then (if x = 0 then pastP (n + 1) l else []) else (x, n + 1) :: pastP (n + 1) l

theorem layP_nil (n : Nat) : layP n [] = [] := by unfold layP; rfl
theorem posP_nil (n : Nat) : posP n [] = [] := by unfold posP; rfl
theorem pastP_nil (n : Nat) : pastP n [] = [] := by unfold pastP; rfl
theorem layP_at {n : Nat} (x : UInt8) (l : List UInt8) (h : n % 64 = 0) : layP n (x :: l) = 0 :: x :: layP (n + 2) l := by
  rw [layP, if_pos h]
theorem layP_in {n : Nat} (x : UInt8) (l : List UInt8) (h : n % 64 ≠ 0) : layP n (x :: l) = x :: layP (n + 1) l := by
  rw [layP, if_neg h]
theorem posP_at {n : Nat} (x : UInt8) (l : List UInt8) (h : n % 64 = 0) : posP n (x :: l) = (x, n + 2) :: posP (n + 2) l := by
  rw [posP, if_pos h]
theorem posP_in {n : Nat} (x : UInt8) (l : List UInt8) (h : n % 64 ≠ 0) : posP n (x :: l) = (x, n + 1) :: posP (n + 1) l := by
  rw [posP, if_neg h]
theorem pastP_at {n : Nat} (l : List UInt8) (h : n % 64 = 0) : pastP n (0 :: l) = pastP (n + 1) l := by
  rw [pastP, if_pos h, if_pos rfl]
theorem pastP_off {n : Nat} {x : UInt8} (l : List UInt8) (h : n % 64 = 0) (hx : x ≠ 0) : pastP n (x :: l) = [] := by
  rw [pastP, if_pos h, if_neg hx]
theorem pastP_in {n : Nat} (x : UInt8) (l : List UInt8) (h : n % 64 ≠ 0) : pastP n (x :: l) = (x, n + 1) :: pastP (n + 1) l := by
  rw [pastP, if_neg h]
theorem posP_fst : ∀ (l : List UInt8) (n : Nat), (posP n l).map Prod.fst = l
  | [], n => by rw [posP_nil]; rfl
  | x :: l, n => by
    by_cases h : n % 64 = 0
    · rw [posP_at x l h, List.map_cons, posP_fst l]
    · rw [posP_in x l h, List.map_cons, posP_fst l]
theorem posP_len (l : List UInt8) (n : Nat) : (posP n l).length = l.length := by
  have h := congrArg List.length (posP_fst l n)
  rwa [List.length_map] at h
theorem layP_append : ∀ (l m : List UInt8) (n : Nat), layP n (l ++ m) = layP n l ++ layP (n + (layP n l).length) m
  | [], m, n => by rw [layP_nil]; rfl
  | x :: l, m, n => by
    by_cases h : n % 64 = 0
    · rw [List.cons_append, layP_at x _ h, layP_at x _ h, layP_append l m]
      simp only [List.cons_append, List.length_cons]
      rw [show n + ((layP (n + 2) l).length + 1 + 1) = n + 2 + (layP (n + 2) l).length by omega]
    · rw [List.cons_append, layP_in x _ h, layP_in x _ h, layP_append l m]
      simp only [List.cons_append, List.length_cons]
      rw [show n + ((layP (n + 1) l).length + 1) = n + 1 + (layP (n + 1) l).length by omega]
theorem posP_append : ∀ (l m : List UInt8) (n : Nat), posP n (l ++ m) = posP n l ++ posP (n + (layP n l).length) m
  | [], m, n => by rw [layP_nil, posP_nil]; rfl
  | x :: l, m, n => by
    by_cases h : n % 64 = 0
    · rw [List.cons_append, posP_at x _ h, posP_at x _ h, layP_at x _ h, posP_append l m]
      simp only [List.cons_append, List.length_cons]
      rw [show n + ((layP (n + 2) l).length + 1 + 1) = n + 2 + (layP (n + 2) l).length by omega]
    · rw [List.cons_append, posP_in x _ h, posP_in x _ h, layP_in x _ h, posP_append l m]
      simp only [List.cons_append, List.length_cons]
      rw [show n + ((layP (n + 1) l).length + 1) = n + 1 + (layP (n + 1) l).length by omega]
theorem layP_ge : ∀ (l : List UInt8) (n : Nat), l.length ≤ (layP n l).length ∧ (layP n l).length ≤ 2 * l.length
  | [], n => by rw [layP_nil]; simp
  | x :: l, n => by
    by_cases h : n % 64 = 0
    · rw [layP_at x l h]; have := layP_ge l (n + 2); simp only [List.length_cons]; omega
    · rw [layP_in x l h]; have := layP_ge l (n + 1); simp only [List.length_cons]; omega
/-- What was laid is read. -/
theorem past_lay : ∀ (l r : List UInt8) (n : Nat), pastP n (layP n l ++ r) = posP n l ++ pastP (n + (layP n l).length) r
  | [], r, n => by rw [layP_nil, posP_nil]; rfl
  | x :: l, r, n => by
    by_cases h : n % 64 = 0
    · rw [layP_at x l h, posP_at x l h, List.cons_append, List.cons_append, pastP_at _ h, pastP_in x _ (by omega), past_lay l r (n + 2)]
      simp only [List.cons_append, List.length_cons]
      rw [show n + ((layP (n + 2) l).length + 1 + 1) = n + 2 + (layP (n + 2) l).length by omega]
    · rw [layP_in x l h, posP_in x l h, List.cons_append, pastP_in x _ h, past_lay l r (n + 1)]
      simp only [List.cons_append, List.length_cons]
      rw [show n + ((layP (n + 1) l).length + 1) = n + 1 + (layP (n + 1) l).length by omega]
/-- The last of them ends where what was laid ends. -/
theorem pos_last : ∀ (l : List UInt8) (n : Nat) (h : l ≠ []), ((posP n l).getD (l.length - 1) (0, 0)).2 = n + (layP n l).length
  | [], _, h => absurd rfl h
  | [x], n, _ => by
    by_cases h : n % 64 = 0
    · rw [posP_at x [] h, layP_at x [] h, posP_nil, layP_nil]; rfl
    · rw [posP_in x [] h, layP_in x [] h, posP_nil, layP_nil]; rfl
  | x :: y :: l, n, _ => by
    by_cases h : n % 64 = 0
    · have ih := pos_last (y :: l) (n + 2) (by simp)
      rw [posP_at x _ h, layP_at x _ h]
      simp only [List.length_cons, Nat.add_sub_cancel] at ih ⊢
      rw [List.getD_cons_succ, ih]; omega
    · have ih := pos_last (y :: l) (n + 1) (by simp)
      rw [posP_in x _ h, layP_in x _ h]
      simp only [List.length_cons, Nat.add_sub_cancel] at ih ⊢
      rw [List.getD_cons_succ, ih]; omega
/-- What is cut off gives the beginning, less at least a byte. -/
theorem past_cut : ∀ (l : List UInt8) (n k : Nat), k < (layP n l).length → ∃ j, j < l.length ∧ pastP n ((layP n l).take k) = (posP n l).take j
  | [], n, k, hk => by rw [layP_nil] at hk; simp at hk
  | x :: l, n, k, hk => by
    by_cases h : n % 64 = 0
    · rw [layP_at x l h] at hk ⊢
      rw [posP_at x l h]
      match k with
      | 0 => exact ⟨0, by simp, by rw [List.take_zero, pastP_nil]; rfl⟩
      | 1 => exact ⟨0, by simp, by rw [List.take_succ_cons, List.take_zero, pastP_at _ h, pastP_nil]; rfl⟩
      | k + 2 =>
        simp only [List.length_cons] at hk
        obtain ⟨j, hj, e⟩ := past_cut l (n + 2) k (by omega)
        refine ⟨j + 1, by simp; omega, ?_⟩
        rw [List.take_succ_cons, List.take_succ_cons, pastP_at _ h, pastP_in x _ (by omega), e]
        rfl
    · rw [layP_in x l h] at hk ⊢
      rw [posP_in x l h]
      match k with
      | 0 => exact ⟨0, by simp, by rw [List.take_zero, pastP_nil]; rfl⟩
      | k + 1 =>
        simp only [List.length_cons] at hk
        obtain ⟨j, hj, e⟩ := past_cut l (n + 1) k (by omega)
        refine ⟨j + 1, by simp; omega, ?_⟩
        rw [List.take_succ_cons, pastP_in x _ h, e]
        rfl

/-- The record that bytes past the marks begin with, and the offset behind it. -/
def getP (p : List (UInt8 × Nat)) : Option (List UInt8 × Nat) :=
  let b := p.map Prod.fst
  let n := (b.getD 0 0).toNat * 256 + (b.getD 1 0).toNat
  if p.length < 7 ∨ n < 1 ∨ 4096 < n ∨ p.length < 6 + n then none
  else if encL ((b.drop 6).take n) = b.take (6 + n) then some ((b.drop 6).take n, (p.getD (5 + n) (0, 0)).2) else none
/-- Does an offset lie within a data block, past its mark? -/
def startB (all : List UInt8) (at' : Nat) : Bool := decide (at' < all.length) && (!(at' % 64 == 0) && (all.getD (at' - at' % 64) 0 == 0))
/-- The record at an offset. -/
def getL (all : List UInt8) (at' : Nat) : Option (List UInt8 × Nat) := if startB all at' = true then getP (pastP at' (all.drop at')) else none

theorem size_back {n : Nat} (h : n ≤ 4096) : ((sizeL n).getD 0 0).toNat * 256 + ((sizeL n).getD 1 0).toNat = n := by
  show (UInt8.ofNat (n / 256)).toNat * 256 + (UInt8.ofNat n).toNat = n
  rw [UInt8.toNat_ofNat', UInt8.toNat_ofNat']
  omega
theorem encL_head (l : List UInt8) (h : l.length ≤ 4096) (r : List UInt8) : ((encL l ++ r).getD 0 0).toNat * 256 + ((encL l ++ r).getD 1 0).toNat = l.length := size_back h
theorem encL_drop (l r : List UInt8) : ((encL l ++ r).drop 6).take l.length = l := by
  have e : encL l ++ r = (sizeL l.length ++ Crc.laid (Crc.more 0 (sizeL l.length ++ l))) ++ (l ++ r) := by unfold encL; simp
  rw [e, List.drop_left' (by rfl), List.take_left]
theorem encL_take (l r : List UInt8) : (encL l ++ r).take (6 + l.length) = encL l := by rw [← encL_len l, List.take_left]
/-- A record that was laid is read. -/
theorem get_lay (l : List UInt8) (h1 : 1 ≤ l.length) (h2 : l.length ≤ 4096) (n : Nat) (r : List UInt8) : getP (pastP n (layP n (encL l) ++ r)) = some (l, n + (layP n (encL l)).length) := by
  rw [past_lay]
  unfold getP
  have hm : ((posP n (encL l) ++ pastP (n + (layP n (encL l)).length) r).map Prod.fst) = encL l ++ (pastP (n + (layP n (encL l)).length) r).map Prod.fst := by rw [List.map_append, posP_fst]
  have hlen : (posP n (encL l)).length = 6 + l.length := by rw [posP_len, encL_len]
  simp only [hm]
  rw [encL_head l h2, encL_drop, encL_take]
  rw [if_neg (by rw [List.length_append, hlen]; omega), if_pos rfl]
  have hp := pos_last (encL l) n (by intro e; have := congrArg List.length e; rw [encL_len] at this; simp at this)
  rw [encL_len, show 6 + l.length - 1 = 5 + l.length by omega] at hp
  rw [← hp, List.getD_eq_getElem?_getD, List.getD_eq_getElem?_getD, List.getElem?_append_left (by omega)]
/-- A record that is cut off is not read. -/
theorem get_cut (l : List UInt8) (h1 : 1 ≤ l.length) (h2 : l.length ≤ 4096) (n k : Nat) (hk : k < (layP n (encL l)).length) : getP (pastP n ((layP n (encL l)).take k)) = none := by
  obtain ⟨j, hj, e⟩ := past_cut (encL l) n k hk
  rw [e]
  rw [encL_len] at hj
  unfold getP
  have hlen : ((posP n (encL l)).take j).length = j := by rw [List.length_take, posP_len, encL_len]; omega
  have hm : ((posP n (encL l)).take j).map Prod.fst = (encL l).take j := by rw [List.map_take, posP_fst]
  simp only [hm, hlen]
  by_cases h7 : j < 7
  · rw [if_pos (.inl h7)]
  · have h0 : ((encL l).take j).getD 0 0 = (encL l).getD 0 0 := by rw [List.getD_eq_getElem?_getD, List.getElem?_take_of_lt (by omega), ← List.getD_eq_getElem?_getD]
    have h1' : ((encL l).take j).getD 1 0 = (encL l).getD 1 0 := by rw [List.getD_eq_getElem?_getD, List.getElem?_take_of_lt (by omega), ← List.getD_eq_getElem?_getD]
    have hh := encL_head l h2 []
    rw [List.append_nil] at hh
    rw [h0, h1', hh, if_pos (.inr (.inr (.inr hj)))]
/-- Where blocks begin within what was laid, there are marks. -/
theorem lay_marks : ∀ (l : List UInt8) (n k : Nat), (n + k) % 64 = 0 → k < (layP n l).length → (layP n l)[k]? = some 0
  | [], n, k, _, hk => by rw [layP_nil] at hk; simp at hk
  | x :: l, n, k, h64, hk => by
    by_cases h : n % 64 = 0
    · rw [layP_at x l h] at hk ⊢
      match k with
      | 0 => rfl
      | 1 => omega
      | k + 2 =>
        simp only [List.length_cons] at hk
        rw [List.getElem?_cons_succ, List.getElem?_cons_succ]
        exact lay_marks l (n + 2) k (by omega) (by omega)
    · rw [layP_in x l h] at hk ⊢
      match k with
      | 0 => omega
      | k + 1 =>
        simp only [List.length_cons] at hk
        rw [List.getElem?_cons_succ]
        exact lay_marks l (n + 1) k (by omega) (by omega)
end Go.Proofs.YtghmehfmchadoaaDoor.Fra
/-
  Layer 11, plain: how the program reads a record: within a window, and no further than it must.
-/
namespace Go.Proofs.YtghmehfmchadoaaDoor.Fra
set_option linter.unusedVariables false

/-- How many of k offsets from n on are no marks. -/
def dataC (n k : Nat) : Nat := k - ((n + k + 63) / 64 - (n + 63) / 64)
theorem dataC_zero (n : Nat) : dataC n 0 = 0 := by unfold dataC; omega
theorem dataC_at {n : Nat} (k : Nat) (h : n % 64 = 0) : dataC n (k + 1) = dataC (n + 1) k := by unfold dataC; omega
theorem dataC_in {n : Nat} (k : Nat) (h : n % 64 ≠ 0) : dataC n (k + 1) = dataC (n + 1) k + 1 := by unfold dataC; omega
theorem past_take : ∀ (r : List UInt8) (n k : Nat), pastP n (r.take k) = (pastP n r).take (dataC n k)
  | [], n, k => by rw [List.take_nil, pastP_nil, List.take_nil]
  | x :: r, n, 0 => by rw [List.take_zero, pastP_nil, dataC_zero, List.take_zero]
  | x :: r, n, k + 1 => by
    rw [List.take_succ_cons]
    by_cases h : n % 64 = 0
    · by_cases hx : x = 0
      · subst hx
        rw [pastP_at _ h, pastP_at _ h, past_take r (n + 1) k, dataC_at k h]
      · rw [pastP_off _ h hx, pastP_off _ h hx, List.take_nil]
    · rw [pastP_in x _ h, pastP_in x _ h, past_take r (n + 1) k, dataC_in k h, List.take_succ_cons]
/-- What is beyond the longest record does not matter. -/
theorem getP_take (p : List (UInt8 × Nat)) (j : Nat) (hj : 4102 ≤ j) : getP (p.take j) = getP p := by
  by_cases hp : p.length ≤ j
  · rw [List.take_of_length_le hp]
  · have hl : (p.take j).length = j := by rw [List.length_take]; omega
    have hm : (p.take j).map Prod.fst = (p.map Prod.fst).take j := List.map_take
    have h0 : ((p.map Prod.fst).take j).getD 0 0 = (p.map Prod.fst).getD 0 0 := by rw [List.getD_eq_getElem?_getD, List.getElem?_take_of_lt (by omega), ← List.getD_eq_getElem?_getD]
    have h1 : ((p.map Prod.fst).take j).getD 1 0 = (p.map Prod.fst).getD 1 0 := by rw [List.getD_eq_getElem?_getD, List.getElem?_take_of_lt (by omega), ← List.getD_eq_getElem?_getD]
    unfold getP
    simp only [hm, hl, h0, h1]
    generalize ((p.map Prod.fst).getD 0 0).toNat * 256 + ((p.map Prod.fst).getD 1 0).toNat = n
    by_cases hn : n < 1 ∨ 4096 < n
    · rw [if_pos (show j < 7 ∨ n < 1 ∨ 4096 < n ∨ j < 6 + n by omega), if_pos (show p.length < 7 ∨ n < 1 ∨ 4096 < n ∨ p.length < 6 + n by omega)]
    · rw [if_neg (show ¬ (j < 7 ∨ n < 1 ∨ 4096 < n ∨ j < 6 + n) by omega), if_neg (show ¬ (p.length < 7 ∨ n < 1 ∨ 4096 < n ∨ p.length < 6 + n) by omega)]
      rw [List.drop_take, List.take_take, List.take_take, show min n (j - 6) = n by omega, show min (6 + n) j = 6 + n by omega]
      rw [List.getD_eq_getElem?_getD, List.getElem?_take_of_lt (by omega), ← List.getD_eq_getElem?_getD]
/-- The window in which the program reads. -/
theorem window (all : List UInt8) (a m : Nat) (h64 : a % 64 ≠ 0) (hm : m = min 4288 (all.length - (a - a % 64))) (ha : a < all.length) : getP (pastP a (((all.drop (a - a % 64)).take m).drop (a % 64))) = getP (pastP a (all.drop a)) := by
  rw [List.drop_take, List.drop_drop, show a - a % 64 + a % 64 = a by omega]
  by_cases h : m = 4288
  · rw [past_take, getP_take]
    unfold dataC
    omega
  · rw [List.take_of_length_le]
    rw [List.length_drop]
    omega

/-- What the program reads: the bytes, the offset behind them; as long as more is wanted. -/
def rdGo : List (UInt8 × Nat) → List UInt8 → Nat → Nat → List UInt8 × Nat
  | [], out, next, _ => (out, next)
  | (b, e) :: p, out, next, size =>
    let out' := out ++ [b]
    let size' := if out'.length = 2 then 6 + ((out'.getD 0 0).toNat * 256 + (out'.getD 1 0).toNat) else size
    if 4102 < size' ∨ out'.length = size' then (out', e) else rdGo p out' e size'
theorem rdGo_nil (out : List UInt8) (next size : Nat) : rdGo [] out next size = (out, next) := rfl
/-- Behind the second byte. -/
theorem rdGo_more : ∀ (p : List (UInt8 × Nat)) (out : List UInt8) (next size : Nat), 2 ≤ out.length → out.length < size → size ≤ 4102 → rdGo p out next size = (out ++ (p.map Prod.fst).take (size - out.length), if p = [] then next else (p.getD (min (size - out.length) p.length - 1) (0, 0)).2)
  | [], out, next, size, h2, hs, hm => by simp [rdGo]
  | (b, e) :: p, out, next, size, h2, hs, hm => by
    have hl : (out ++ [b]).length = out.length + 1 := by simp
    unfold rdGo
    simp only [hl]
    rw [if_neg (show ¬ out.length + 1 = 2 by omega)]
    by_cases he : out.length + 1 = size
    · rw [if_pos (.inr he)]
      rw [show size - out.length = 1 by omega, List.map_cons, List.take_succ_cons, List.take_zero]
      simp only [List.length_cons]
      rw [show min 1 (p.length + 1) - 1 = 0 by omega]
      rfl
    · rw [if_neg (by omega), rdGo_more p _ _ _ (by omega) (by omega) hm, hl]
      rw [show size - out.length = size - (out.length + 1) + 1 by omega, List.map_cons, List.take_succ_cons, List.append_assoc]
      congr 1
      simp only [List.length_cons]
      cases p with
      | nil =>
        rw [if_pos rfl, if_neg (List.cons_ne_nil _ _)]
        simp only [List.length_nil]
        rw [show min (size - (out.length + 1) + 1) (0 + 1) - 1 = 0 by omega]
        rfl
      | cons q p =>
        rw [if_neg (List.cons_ne_nil _ _), if_neg (List.cons_ne_nil _ _)]
        simp only [List.length_cons]
        rw [show min (size - (out.length + 1) + 1) (p.length + 1 + 1) - 1 = (min (size - (out.length + 1)) (p.length + 1) - 1) + 1 by omega, List.getD_cons_succ]
/-- What the program makes of what it has read. -/
def takenL (b : List UInt8) (next : Nat) : Option (List UInt8 × Nat) :=
  let n := (b.getD 0 0).toNat * 256 + (b.getD 1 0).toNat
  if b.length ≤ 6 ∨ n < 1 ∨ 4096 < n ∨ b.length ≠ 6 + n then none
  else if (b.drop 2).take 4 = Crc.laid (Crc.more 0 (b.take 2 ++ b.drop 6)) then some (b.drop 6, next) else none
theorem encL_eq {b : List UInt8} {n : Nat} (hl : b.length = 6 + n) (hn : (b.getD 0 0).toNat * 256 + (b.getD 1 0).toNat = n) (h4 : n ≤ 4096) : (encL (b.drop 6) = b) ↔ ((b.drop 2).take 4 = Crc.laid (Crc.more 0 (b.take 2 ++ b.drop 6))) := by
  have hd : (b.drop 6).length = n := by rw [List.length_drop]; omega
  rcases b with _ | ⟨b0, _ | ⟨b1, _ | ⟨b2, _ | ⟨b3, _ | ⟨b4, _ | ⟨b5, r⟩⟩⟩⟩⟩⟩
  · simp at hl; omega
  · simp at hl; omega
  · simp at hl; omega
  · simp at hl; omega
  · simp at hl; omega
  · simp at hl; omega
  · have hs : sizeL n = [b0, b1] := by
      unfold sizeL
      have e : b0.toNat * 256 + b1.toNat = n := hn
      have l0 := b0.toNat_lt
      have l1 := b1.toNat_lt
      have e0 : UInt8.ofNat (n / 256) = b0 := by apply UInt8.toNat_inj.1; rw [UInt8.toNat_ofNat']; omega
      have e1 : UInt8.ofNat n = b1 := by apply UInt8.toNat_inj.1; rw [UInt8.toNat_ofNat']; omega
      rw [e0, e1]
    have hr : r.length = n := by simpa using hd
    show encL r = _ ↔ [b2, b3, b4, b5] = Crc.laid (Crc.more 0 ([b0, b1] ++ r))
    unfold encL
    rw [hr, hs]
    unfold Crc.laid
    constructor
    · intro h
      simp at h
      simp [h]
    · intro h
      simp at h
      simp [h]
theorem rd_get (p : List (UInt8 × Nat)) (a : Nat) : takenL (rdGo p [] a 7).1 (rdGo p [] a 7).2 = getP p := by
  match p with
  | [] => rfl
  | [(b0, e0)] =>
    have h : rdGo [(b0, e0)] [] a 7 = ([b0], e0) := by simp [rdGo]
    rw [h]; unfold takenL getP; simp
  | (b0, e0) :: (b1, e1) :: p =>
    obtain ⟨n, hn⟩ : ∃ n, b0.toNat * 256 + b1.toNat = n := ⟨_, rfl⟩
    have h1 : rdGo ((b0, e0) :: (b1, e1) :: p) [] a 7 = if 4102 < 6 + n ∨ 2 = 6 + n then ([b0, b1], e1) else rdGo p [b0, b1] e1 (6 + n) := by
      rw [rdGo]
      simp only [List.nil_append, List.length_cons, List.length_nil]
      rw [if_neg (show ¬ 0 + 1 = 2 by omega), if_neg (show ¬ (4102 < 7 ∨ 0 + 1 = 7) by omega), rdGo]
      simp only [List.cons_append, List.nil_append, List.length_cons, List.length_nil, List.getD_cons_zero, List.getD_cons_succ, hn]
      rw [if_pos trivial]
    have hg : getP ((b0, e0) :: (b1, e1) :: p) = if p.length + 2 < 7 ∨ n < 1 ∨ 4096 < n ∨ p.length + 2 < 6 + n then none
        else if encL (((b0 :: b1 :: p.map Prod.fst).drop 6).take n) = (b0 :: b1 :: p.map Prod.fst).take (6 + n) then some (((b0 :: b1 :: p.map Prod.fst).drop 6).take n, (((b0, e0) :: (b1, e1) :: p).getD (5 + n) (0, 0)).2) else none := by
      unfold getP
      simp only [List.map_cons, List.getD_cons_zero, List.getD_cons_succ, hn, List.length_cons]
    rw [h1, hg]
    by_cases hbig : 4096 < n
    · rw [if_pos (show 4102 < 6 + n ∨ 2 = 6 + n by omega), if_pos (show p.length + 2 < 7 ∨ n < 1 ∨ 4096 < n ∨ p.length + 2 < 6 + n by omega)]
      unfold takenL; simp
    · rw [if_neg (show ¬ (4102 < 6 + n ∨ 2 = 6 + n) by omega), rdGo_more p _ _ _ (by simp) (by simp; omega) (by omega)]
      simp only [List.length_cons, List.length_nil]
      rw [show 6 + n - (0 + 1 + 1) = 4 + n by omega]
      have hb0 : ([b0, b1] ++ (p.map Prod.fst).take (4 + n)) = (b0 :: b1 :: p.map Prod.fst).take (6 + n) := by
        rw [show 6 + n = 4 + n + 1 + 1 by omega, List.take_succ_cons, List.take_succ_cons]; rfl
      rw [hb0]
      have hlen : ((b0 :: b1 :: p.map Prod.fst).take (6 + n)).length = min (6 + n) (p.length + 2) := by rw [List.length_take]; simp
      have hd0 : ((b0 :: b1 :: p.map Prod.fst).take (6 + n)).getD 0 0 = b0 := by rw [show 6 + n = 5 + n + 1 by omega, List.take_succ_cons]; rfl
      have hd1 : ((b0 :: b1 :: p.map Prod.fst).take (6 + n)).getD 1 0 = b1 := by rw [show 6 + n = 4 + n + 1 + 1 by omega, List.take_succ_cons, List.take_succ_cons]; rfl
      unfold takenL
      simp only [hd0, hd1, hn, hlen]
      by_cases hok : p.length + 2 < 7 ∨ n < 1 ∨ p.length + 2 < 6 + n
      · rw [if_pos (show min (6 + n) (p.length + 2) ≤ 6 ∨ n < 1 ∨ 4096 < n ∨ min (6 + n) (p.length + 2) ≠ 6 + n by omega), if_pos (show p.length + 2 < 7 ∨ n < 1 ∨ 4096 < n ∨ p.length + 2 < 6 + n by omega)]
      · rw [if_neg (show ¬ (min (6 + n) (p.length + 2) ≤ 6 ∨ n < 1 ∨ 4096 < n ∨ min (6 + n) (p.length + 2) ≠ 6 + n) by omega), if_neg (show ¬ (p.length + 2 < 7 ∨ n < 1 ∨ 4096 < n ∨ p.length + 2 < 6 + n) by omega)]
        have hdr : ((b0 :: b1 :: p.map Prod.fst).drop 6).take n = ((b0 :: b1 :: p.map Prod.fst).take (6 + n)).drop 6 := by rw [List.drop_take, show 6 + n - 6 = n by omega]
        rw [hdr]
        have hq := encL_eq (b := (b0 :: b1 :: p.map Prod.fst).take (6 + n)) (n := n) (by rw [hlen]; omega) (by rw [hd0, hd1, hn]) (by omega)
        have hp : p ≠ [] := by rintro rfl; simp only [List.length_nil] at hok; omega
        rw [if_neg hp]
        have hnx : (p.getD (min (4 + n) p.length - 1) (0, 0)) = (((b0, e0) :: (b1, e1) :: p).getD (5 + n) (0, 0)) := by
          rw [show 5 + n = 3 + n + 1 + 1 by omega, List.getD_cons_succ, List.getD_cons_succ, show min (4 + n) p.length - 1 = 3 + n by omega]
        rw [hnx]
        by_cases he : encL (((b0 :: b1 :: p.map Prod.fst).take (6 + n)).drop 6) = (b0 :: b1 :: p.map Prod.fst).take (6 + n)
        · rw [if_pos he, if_pos (hq.1 he)]
        · rw [if_neg he, if_neg (fun h => he (hq.2 h))]
end Go.Proofs.YtghmehfmchadoaaDoor.Fra
/-
  Layer 11, plain: a record appended to the bytes of a file.
-/
namespace Go.Proofs.YtghmehfmchadoaaDoor.Fra
set_option linter.unusedVariables false

/-- How many bytes are passed to leave a block that is not for data. -/
def padN (all : List UInt8) : Nat := if all.length % 64 ≠ 0 ∧ all.getD (all.length - all.length % 64) 0 ≠ 0 then 64 - all.length % 64 else 0
/-- Where the first mark or byte goes. -/
def frontN (all : List UInt8) : Nat := all.length + padN all
/-- Where the record begins. -/
def atN (all : List UInt8) : Nat := if frontN all % 64 = 0 then frontN all + 1 else frontN all
/-- What is appended ahead of the record. -/
def aheadL (all : List UInt8) : List UInt8 := List.replicate (atN all - all.length) 0
/-- What is appended. -/
def pieceL (all b : List UInt8) : List UInt8 := aheadL all ++ layP (atN all) b
theorem atN_in (all : List UInt8) : atN all % 64 ≠ 0 := by
  unfold atN
  split
  · omega
  · assumption
theorem atN_ge (all : List UInt8) : all.length ≤ atN all := by unfold atN frontN; split <;> omega
theorem aheadL_len (all : List UInt8) : (aheadL all).length = atN all - all.length := by unfold aheadL; rw [List.length_replicate]
theorem piece_at (all b : List UInt8) : (all ++ aheadL all).length = atN all := by rw [List.length_append, aheadL_len]; have := atN_ge all; omega
theorem pad_case (all : List UInt8) : (padN all = 0 ∧ (all.length % 64 = 0 ∨ all.getD (all.length - all.length % 64) 0 = 0)) ∨ (all.length % 64 ≠ 0 ∧ padN all = 64 - all.length % 64) := by
  unfold padN
  by_cases h : all.length % 64 ≠ 0 ∧ all.getD (all.length - all.length % 64) 0 ≠ 0
  · rw [if_pos h]; exact .inr ⟨h.1, rfl⟩
  · rw [if_neg h]
    refine .inl ⟨rfl, ?_⟩
    by_cases h0 : all.length % 64 = 0
    · exact .inl h0
    · refine .inr (Classical.byContradiction fun h1 => h ⟨h0, h1⟩)
/-- The block in which the record begins is for data. -/
theorem start_mark (all r : List UInt8) : (all ++ aheadL all ++ r).getD (atN all - atN all % 64) 0 = 0 := by
  have hge := atN_ge all
  have hlen := piece_at all r
  rcases pad_case all with ⟨h0, h1⟩ | ⟨h0, h1⟩
  · by_cases h64 : all.length % 64 = 0
    · have ha : atN all = all.length + 1 := by unfold atN frontN; rw [h0, if_pos (by omega), Nat.add_zero]
      rw [ha, show all.length + 1 - (all.length + 1) % 64 = all.length by omega, List.getD_eq_getElem?_getD, List.append_assoc, List.getElem?_append_right (Nat.le_refl _), Nat.sub_self]
      unfold aheadL
      rw [ha, show all.length + 1 - all.length = 0 + 1 by omega, List.replicate_succ]
      rfl
    · have ha : atN all = all.length := by unfold atN frontN; rw [h0, if_neg (by omega)]; rfl
      have h2 := h1.resolve_left h64
      rw [ha, List.getD_eq_getElem?_getD, List.append_assoc, List.getElem?_append_left (by omega), ← List.getD_eq_getElem?_getD]
      exact h2
  · have hf : frontN all = all.length + (64 - all.length % 64) := by unfold frontN; rw [h1]
    have ha : atN all = all.length + (64 - all.length % 64) + 1 := by unfold atN; rw [hf, if_pos (by omega)]
    rw [ha, show all.length + (64 - all.length % 64) + 1 - (all.length + (64 - all.length % 64) + 1) % 64 = all.length + (64 - all.length % 64) by omega, List.getD_eq_getElem?_getD, List.append_assoc, List.getElem?_append_right (by omega)]
    unfold aheadL
    rw [ha, List.getElem?_append_left (by rw [List.length_replicate]; omega), List.getElem?_replicate]
    split <;> rfl
theorem start_yes (all b r : List UInt8) (hb : b ≠ []) : startB (all ++ (pieceL all b ++ r)) (atN all) = true := by
  have h1 := atN_in all
  have h2 := start_mark all (layP (atN all) b ++ r)
  have e : all ++ (pieceL all b ++ r) = all ++ aheadL all ++ (layP (atN all) b ++ r) := by unfold pieceL; simp
  rw [e]
  unfold startB
  rw [h2]
  have h3 : atN all < (all ++ aheadL all ++ (layP (atN all) b ++ r)).length := by
    rw [List.length_append, piece_at all [], List.length_append]
    have := (layP_ge b (atN all)).1
    have : 0 < b.length := List.length_pos_iff.2 hb
    omega
  have h4 : (atN all % 64 == 0) = false := beq_eq_false_iff_ne.2 h1
  rw [decide_eq_true h3, h4]
  rfl
theorem drop_at (all b r : List UInt8) : (all ++ (pieceL all b ++ r)).drop (atN all) = layP (atN all) b ++ r := by
  have e : all ++ (pieceL all b ++ r) = all ++ aheadL all ++ (layP (atN all) b ++ r) := by unfold pieceL; simp
  rw [e, ← piece_at all [], List.drop_left]
theorem piece_end (all b : List UInt8) : (all ++ pieceL all b).length = atN all + (layP (atN all) b).length := by
  have e : all ++ pieceL all b = all ++ aheadL all ++ layP (atN all) b := by unfold pieceL; simp
  rw [e, List.length_append, piece_at all []]
theorem encL_ne (l : List UInt8) : encL l ≠ [] := fun e => by have := congrArg List.length e; rw [encL_len] at this; simp at this
/-- What was appended is read, whatever is appended later. -/
theorem get_put (all l r : List UInt8) (h1 : 1 ≤ l.length) (h2 : l.length ≤ 4096) : getL (all ++ (pieceL all (encL l) ++ r)) (atN all) = some (l, (all ++ pieceL all (encL l)).length) := by
  unfold getL
  rw [if_pos (start_yes all _ r (encL_ne l)), drop_at, get_lay l h1 h2, piece_end]
/-- What is cut off is not read. -/
theorem get_torn (all l : List UInt8) (h1 : 1 ≤ l.length) (h2 : l.length ≤ 4096) (n : Nat) (ha : all.length ≤ n) (hn : n < (all ++ pieceL all (encL l)).length) : getL ((all ++ pieceL all (encL l)).take n) (atN all) = none := by
  have hl : ((all ++ pieceL all (encL l)).take n).length = n := by rw [List.length_take]; omega
  unfold getL
  by_cases hs : startB ((all ++ pieceL all (encL l)).take n) (atN all) = true
  · rw [if_pos hs]
    have hlt : atN all < n := by
      unfold startB at hs
      rw [hl] at hs
      simp only [Bool.and_eq_true, decide_eq_true_eq] at hs
      exact hs.1
    rw [List.drop_take]
    have hd := drop_at all (encL l) []
    rw [List.append_nil, List.append_nil] at hd
    rw [hd]
    rw [piece_end] at hn
    exact get_cut l h1 h2 _ _ (by omega)
  · rw [if_neg hs]
/-- Blocks that begin within what was appended are for data. -/
theorem piece_marks (all b : List UInt8) (i : Nat) (h1 : all.length ≤ i) (h64 : i % 64 = 0) (h2 : i < (all ++ pieceL all b).length) : (all ++ pieceL all b)[i]? = some 0 := by
  have e : all ++ pieceL all b = all ++ aheadL all ++ layP (atN all) b := by unfold pieceL; simp
  rw [piece_end] at h2
  rw [e]
  by_cases ha : i < atN all
  · rw [List.getElem?_append_left (by rw [piece_at all []]; exact ha), List.getElem?_append_right h1]
    unfold aheadL
    rw [List.getElem?_replicate, if_pos (by omega)]
  · rw [List.getElem?_append_right (by rw [piece_at all []]; omega), piece_at all []]
    exact lay_marks b (atN all) (i - atN all) (by omega) (by omega)
/-- How many bytes are appended at most. -/
theorem piece_len (all b : List UInt8) (hb : b.length ≤ 4102) : (pieceL all b).length ≤ 8300 := by
  have h1 := (layP_ge b (atN all)).2
  have h2 := aheadL_len all
  have h3 : atN all - all.length ≤ 65 := by
    unfold atN frontN padN
    split <;> split <;> omega
  unfold pieceL
  rw [List.length_append]
  omega
end Go.Proofs.YtghmehfmchadoaaDoor.Fra
/-
  Cells of new blocks in later worlds; the steps of 'nothing below has turned'. No program in sight.
-/
namespace Go.Proofs.YtghmehfmchadoaaDoor
open Go.RowKit
theorem new_later {w w1 : World} {C : Array Value} {t : TypeId} (hb : Below (w.alloc (.cells C t)).heap.size (w.alloc (.cells C t)) w1) (k : Nat) {v : Value} (hk : C[k]? = some v) : w1.cell? ⟨w.heap.size, k, none⟩ = some v :=
  (hb.cell (p := ⟨w.heap.size, k, none⟩) (by simp)).trans ((World.cell?_alloc_new w C t k).trans hk)
theorem kept_later {w w1 : World} (hb : Below w.heap.size w w1) {p : Addr} {v : Value} (h : w.cell? p = some v) : w1.cell? p = some v :=
  (hb.cell (p := p) (World.block_lt_of_cell? w _ h)).trans h
theorem froz_later {w w1 : World} (hb : Below w.heap.size w w1) {p : Addr} {v : Value} (h : w.cell? p = some v) {b : Bool} (hf : w.frozen? p = b) : w1.frozen? p = b :=
  (hb.frozen (World.block_lt_of_cell? w _ h)).trans hf
theorem S_call {W0 w1 w2 : World} {B : Nat} (hb : Below B w1 w2) (h : Below W0.heap.size W0 w1) (hB : B = w1.heap.size) : Below W0.heap.size W0 w2 := h.trans (hb.mono (by rw [hB]; exact h.size))
theorem S_alloc {W0 w1 : World} {o : Obj} (h : Below W0.heap.size W0 w1) : Below W0.heap.size W0 (w1.alloc o) := h.alloc h.size _
theorem bel_next {a b c : World} (h : Below a.heap.size a b) (k : Below b.heap.size b c) : Below a.heap.size a c := h.trans (k.mono h.size)
theorem bel_alloc {a b : World} (h : Below a.heap.size a b) (o : Obj) : Below a.heap.size a (b.alloc o) := h.alloc h.size o

/-- Block b holds these cells, and they may be written. -/
def Box (W : World) (b : Nat) (C : List Value) : Prop := ∀ k v, C[k]? = some v → W.cell? ⟨b, k, none⟩ = some v ∧ W.frozen? ⟨b, k, none⟩ = false
theorem Box.new (w : World) (C : Array Value) (t : TypeId) : Box (w.alloc (.cells C t)) w.heap.size C.toList := fun k v h => by
  refine ⟨(World.cell?_alloc_new w C t k).trans (by simpa using h), ?_⟩
  go_simp
theorem Box.new' (w : World) (C : Array Value) (t : TypeId) {b : Nat} (hb : b = w.heap.size) : Box (w.alloc (.cells C t)) b C.toList := by subst hb; exact Box.new w C t
theorem Box.later {W W' : World} {b : Nat} {C : List Value} (h : Box W b C) (hb : Below W.heap.size W W') : Box W' b C := fun k v hk =>
  ⟨kept_later hb (h k v hk).1, froz_later hb (h k v hk).1 (h k v hk).2⟩
theorem Box.alloc {W : World} {b : Nat} {C : List Value} (h : Box W b C) (o : Obj) : Box (W.alloc o) b C := h.later ((Below.refl _ _).alloc (Nat.le_refl _) o)
theorem Box.drewN {W : World} {b : Nat} {C : List Value} (h : Box W b C) (n : Nat) : Box (W.drewN n) b C := h
theorem Box.lt {W : World} {b : Nat} {C : List Value} (h : Box W b C) (hC : 0 < C.length) : b < W.heap.size :=
  World.block_lt_of_cell? W _ (h 0 (C[0]) (List.getElem?_eq_getElem hC)).1
/-- A store into another block. -/
theorem Box.setCell {W : World} {b : Nat} {C : List Value} (h : Box W b C) {p : Addr} (hp : p.block ≠ b) (u : Value) : Box (W.setCell p u) b C := fun k v hk =>
  ⟨(World.cell?_setCell_other W p ⟨b, k, none⟩ u (fun e => hp (by rw [e]))).trans (h k v hk).1, by rw [World.frozen?_setCell]; exact (h k v hk).2⟩
/-- Four stores, cell by cell. -/
def set4 (W : World) (b : Nat) (x0 x1 x2 x3 : Value) : World := (((W.setCell ⟨b, 0, none⟩ x0).setCell ⟨b, 1, none⟩ x1).setCell ⟨b, 2, none⟩ x2).setCell ⟨b, 3, none⟩ x3
theorem Box.set4 {W : World} {b : Nat} {y0 y1 y2 y3 : Value} (h : Box W b [y0, y1, y2, y3]) (x0 x1 x2 x3 : Value) : Box (set4 W b x0 x1 x2 x3) b [x0, x1, x2, x3] := by
  have h0 := h 0 _ rfl
  have h1 := h 1 _ rfl
  have h2 := h 2 _ rfl
  have h3 := h 3 _ rfl
  have ne : ∀ i j : Nat, i ≠ j → (⟨b, i, none⟩ : Addr) ≠ ⟨b, j, none⟩ := fun i j e h => e (by injection h)
  intro k v hk
  unfold Proofs.YtghmehfmchadoaaDoor.set4
  simp only [World.frozen?_setCell]
  match k, hk with
  | 0, hk =>
    cases hk
    refine ⟨?_, h0.2⟩
    rw [World.cell?_setCell_other _ _ _ _ (ne _ _ (by omega)), World.cell?_setCell_other _ _ _ _ (ne _ _ (by omega)), World.cell?_setCell_other _ _ _ _ (ne _ _ (by omega))]
    exact cell_set h0.1 _
  | 1, hk =>
    cases hk
    refine ⟨?_, h1.2⟩
    rw [World.cell?_setCell_other _ _ _ _ (ne _ _ (by omega)), World.cell?_setCell_other _ _ _ _ (ne _ _ (by omega))]
    exact cell_set ((World.cell?_setCell_other _ _ _ _ (ne _ _ (by omega))).trans h1.1) _
  | 2, hk =>
    cases hk
    refine ⟨?_, h2.2⟩
    rw [World.cell?_setCell_other _ _ _ _ (ne _ _ (by omega))]
    exact cell_set ((World.cell?_setCell_other _ _ _ _ (ne _ _ (by omega))).trans ((World.cell?_setCell_other _ _ _ _ (ne _ _ (by omega))).trans h2.1)) _
  | 3, hk =>
    cases hk
    refine ⟨?_, h3.2⟩
    exact cell_set ((World.cell?_setCell_other _ _ _ _ (ne _ _ (by omega))).trans ((World.cell?_setCell_other _ _ _ _ (ne _ _ (by omega))).trans ((World.cell?_setCell_other _ _ _ _ (ne _ _ (by omega))).trans h3.1))) _
theorem Box.far4 {W : World} {b g : Nat} {C : List Value} (h : Box W b C) (x0 x1 x2 x3 : Value) (hg : g ≠ b) : Box (Proofs.YtghmehfmchadoaaDoor.set4 W g x0 x1 x2 x3) b C :=
  (((h.setCell (p := ⟨g, 0, none⟩) hg x0).setCell (p := ⟨g, 1, none⟩) hg x1).setCell (p := ⟨g, 2, none⟩) hg x2).setCell (p := ⟨g, 3, none⟩) hg x3
theorem below_set4 {a W : World} {B b : Nat} (h : Below B a W) (hb : B ≤ b) (x0 x1 x2 x3 : Value) : Below B a (set4 W b x0 x1 x2 x3) :=
  (((h.setCell (p := ⟨b, 0, none⟩) hb x0).setCell (p := ⟨b, 1, none⟩) hb x1).setCell (p := ⟨b, 2, none⟩) hb x2).setCell (p := ⟨b, 3, none⟩) hb x3
end Go.Proofs.YtghmehfmchadoaaDoor
