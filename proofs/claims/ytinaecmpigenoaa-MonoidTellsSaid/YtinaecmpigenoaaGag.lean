import Derived.Test.YtinaecmpigenoaaGaa
import Derived.Test.YtinaecmpigenoaaRows
import Derived.Test.YtinaecmpigenoaaGaf
import Derived.Deep.RegionHeld3
import Derived.Deep.DrawnRows
import Derived.Deep.MidRow
import Derived.Deep.QuietTactic
import Derived.BigQuiet
import Derived.Lib.Hide
import Derived.Outline
import Derived.WalkLawsBesides
import Derived.Deep.DeepCutAuto
import Derived.Laws.BitsAllLaws
import Derived.Laws.BitsLemmas
import Derived.IntWalk
import Derived.Laws.BytesString
import Derived.Laws.Cells
import Derived.RangeFuncBox
import Derived.Shelf.Abstract
import Derived.Laws.EntriesVeiled
import Derived.Deep.WholeRow
import Derived.Deep.CutBlock
import Derived.RangeFuncNested
import Derived.RangeFuncBound
import Derived.RangeFuncCalls
import Derived.RangeFuncLeaves
import Derived.Shelf.RegionOpen
import Derived.OwnWalkIn
import Derived.TacticsInMore
import Derived.LoopNIn
import Derived.LoopIn
import Derived.Stop.RegionWithIn
import Derived.WalkMore
/-
  append onto a row of the call's own, the source given by 'Shows': nil, empty or not. No program in sight.
-/
namespace Go.Proofs.Ytinaecmpigenoaa
open Go.RowKit

section
variable {P : Program} (w : World)

theorem run_append_shows (base : Nat) (t ty e : TypeId) (i : TypeInfo) (z : Value) (size bytes : Nat) (ht : P.underlying t = some (.slice e)) (hi : P.info? e = some i) (hz : i.zero = some z)
    (hsize : i.size = size) (hby : i.bytes = bytes) (hzs : z.cells.size = size) (hsz : 0 < size)
    (v : Value) (n : Nat) (xs : List Value) (hown : w.ownsRow base e size v n xs)
    (B : Nat) (A : Option Addr) (m c : Nat) (news : List Value) (hr : Shows w B size A m news) (h1 : ∀ u ∈ news, u.oneCell' = true)
    (h63 : n + m ≤ maxLen) (hbytes : (n + m) * bytes ≤ 140737488355328) (hbase : base ≤ w.heap.size) :
    ∃ A' c' w', (Builtin.append_ #[t, t] ty #[v, .slice A m c]).run P w = .ok (.slice A' (n + m) c') w' ∧ w'.ownsRow base e size (.slice A' (n + m) c') (n + m) (xs ++ news) ∧ w.grownBy w' v.ownBlock ∧ Below base w w' := by
  have key : ∃ v' w', (Builtin.append_ #[t, t] ty #[v, .slice A m c]).run P w = .ok v' w' ∧ w'.ownsRow base e size v' (n + m) (xs ++ news) ∧ w.grownBy w' v.ownBlock := by
    rcases A with _ | ad
    · have hm : m = 0 := by
        rcases Nat.eq_zero_or_pos m with h0 | h0
        · exact h0
        · obtain ⟨_, _, h, _⟩ := hr.2 h0
          cases h
      subst hm
      have hn : news = [] := List.eq_nil_of_length_eq_zero (by simpa using hr.1)
      subst hn
      refine ⟨v, w, ?_, by simpa using hown, World.grownBy.refl w _⟩
      rcases hown.2 with ⟨rfl, rfl⟩ | ⟨g, cap, cur, rfl, _, _, hnc, _⟩
      · simp [Builtin.append_, run_underlying ht, sizeOf, typeInfo, hi, Builtin.lenOf, Builtin.firstCells]
      · simp [Builtin.append_, run_underlying ht, sizeOf, typeInfo, hi, Builtin.lenOf, Builtin.firstCells, hnc, storeCells]
    · have hcells : ∀ j u, news[j]? = some u → w.cell? (ad.add j) = some u := by
        intro j u hu
        rcases Nat.eq_zero_or_pos m with h0 | h0
        · subst h0
          have hn : news = [] := List.eq_nil_of_length_eq_zero (by simpa using hr.1)
          subst hn
          simp at hu
        · obtain ⟨b, off, h, _, hc⟩ := hr.2 h0
          injection h with h
          subst h
          rw [addr_add]
          exact hc j u hu
      obtain ⟨v', w', hrun, h2, h3, _, _⟩ := run_append_own_at (P := P) w base t ty e i z size bytes ht hi hz hsize hby hzs hsz v n xs hown ad m c news hr.1 hcells h1 h63 hbytes hbase
      exact ⟨v', w', hrun, h2, h3⟩
  obtain ⟨v', w', hrun, h2, h3⟩ := key
  obtain ⟨A', c', rfl, _, _⟩ := own_form h2
  exact ⟨A', c', w', hrun, h2, h3, (Below.refl base w).grown h3 hbase fun k hk => (hown.lt k hk).1⟩

theorem wp_append_shows {o : Oper} {a : Act} {K : Act → World → Prop} {Q : Exit → Act → World → Prop} (s x : Operand) (t : TypeId)
    (ho : o.op = .call { callee := .builtin .append, args := #[s, x], argTypes := #[t, t] })
    (base : Nat) (e : TypeId) (i : TypeInfo) (z : Value) (size bytes : Nat) (ht : P.underlying t = some (.slice e)) (hi : P.info? e = some i) (hz : i.zero = some z)
    (hsize : i.size = size) (hby : i.bytes = bytes) (hzs : z.cells.size = size) (hsz : 0 < size)
    (v : Value) (n : Nat) (xs : List Value) (hs : a.eval s = v) (hown : w.ownsRow base e size v n xs)
    (B : Nat) (A : Option Addr) (m c : Nat) (news : List Value) (hx : a.eval x = .slice A m c) (hr : Shows w B size A m news) (h1 : ∀ u ∈ news, u.oneCell' = true)
    (h63 : n + m ≤ maxLen) (hbytes : (n + m) * bytes ≤ 140737488355328) (hbase : base ≤ w.heap.size)
    (h : ∀ A' c' w', w'.ownsRow base e size (.slice A' (n + m) c') (n + m) (xs ++ news) → w.grownBy w' v.ownBlock → Below base w w' → K (a.put o.dst (.slice A' (n + m) c')) w') :
    o.wp P a w K Q := by
  obtain ⟨A', c', w', hrun, h2, h3, h4⟩ := run_append_shows (P := P) w base t o.type e i z size bytes ht hi hz hsize hby hzs hsz v n xs hown B A m c news hr h1 h63 hbytes hbase
  unfold Oper.wp execOp
  simp only [ho, resolve, invoke, builtin, Sem.run_bind, Sem.run_pure, Result.andThen_ok, List.map_toArray, List.map_cons, List.map_nil, hs, hx, hrun]
  exact h A' c' w' h2 h3 h4

theorem wpList_append_shows {ops : Array Oper} {rest : List Oper} {o : Oper} {a : Act} {Q : Exit → Act → World → Prop} (hgd : o.guard = none) (s x : Operand) (t : TypeId)
    (ho : o.op = .call { callee := .builtin .append, args := #[s, x], argTypes := #[t, t] })
    (base : Nat) (e : TypeId) (i : TypeInfo) (z : Value) (size bytes : Nat) (ht : P.underlying t = some (.slice e)) (hi : P.info? e = some i) (hz : i.zero = some z)
    (hsize : i.size = size) (hby : i.bytes = bytes) (hzs : z.cells.size = size) (hsz : 0 < size)
    (v : Value) (n : Nat) (xs : List Value) (hs : a.eval s = v) (hown : w.ownsRow base e size v n xs)
    (B : Nat) (A : Option Addr) (m c : Nat) (news : List Value) (hx : a.eval x = .slice A m c) (hr : Shows w B size A m news) (h1 : ∀ u ∈ news, u.oneCell' = true)
    (h63 : n + m ≤ maxLen) (hbytes : (n + m) * bytes ≤ 140737488355328) (hbase : base ≤ w.heap.size)
    (h : ∀ A' c' w', w'.ownsRow base e size (.slice A' (n + m) c') (n + m) (xs ++ news) → w.grownBy w' v.ownBlock → Below base w w' → wpList P ops Q rest (a.put o.dst (.slice A' (n + m) c')) w') :
    wpList P ops Q (o :: rest) a w :=
  wpList_plain hgd fun _ hK => wp_append_shows w s x t ho base e i z size bytes ht hi hz hsize hby hzs hsz v n xs hs hown B A m c news hx hr h1 h63 hbytes hbase fun A' c' w' h2 h3 h4 => hK _ _ (h A' c' w' h2 h3 h4)

theorem step_append_shows {ops : Array Oper} {o : Oper} {a : Act} {K : Act → World → Prop} {Q : Exit → Act → World → Prop} {E : Prop} (hgd : o.guard = none) (s x : Operand) (t : TypeId)
    (ho : o.op = .call { callee := .builtin .append, args := #[s, x], argTypes := #[t, t] })
    (base : Nat) (e : TypeId) (i : TypeInfo) (z : Value) (size bytes : Nat) (ht : P.underlying t = some (.slice e)) (hi : P.info? e = some i) (hz : i.zero = some z)
    (hsize : i.size = size) (hby : i.bytes = bytes) (hzs : z.cells.size = size) (hsz : 0 < size)
    (v : Value) (n : Nat) (xs : List Value) (hs : a.eval s = v) (hown : w.ownsRow base e size v n xs)
    (B : Nat) (A : Option Addr) (m c : Nat) (news : List Value) (hx : a.eval x = .slice A m c) (hr : Shows w B size A m news) (h1 : ∀ u ∈ news, u.oneCell' = true)
    (h63 : n + m ≤ maxLen) (hbytes : (n + m) * bytes ≤ 140737488355328) (hbase : base ≤ w.heap.size)
    (h : ∀ A' c' w', w'.ownsRow base e size (.slice A' (n + m) c') (n + m) (xs ++ news) → w.grownBy w' v.ownBlock → Below base w w' → K (a.put o.dst (.slice A' (n + m) c')) w') :
    if Region.wanted o (yielded ops a.tmps) = true then Oper.wp P o a w K Q else E := by
  have hw : Region.wanted o (yielded ops a.tmps) = true := by simp [Region.wanted, hgd]
  rw [if_pos hw]
  exact wp_append_shows w s x t ho base e i z size bytes ht hi hz hsize hby hzs hsz v n xs hs hown B A m c news hx hr h1 h63 hbytes hbase h
end
end Go.Proofs.Ytinaecmpigenoaa
/-
  Layer 1: the table of forms; holds, room, starts, find.
-/
namespace Go.Proofs.Ytinaecmpigenoaa
open Go.RowKit

def utab : List Value := [.int .i64 0, .int .i64 127, .int .i64 1, .int .i64 0, .int .i64 128, .int .i64 2047, .int .i64 2, .int .i64 192, .int .i64 2048, .int .i64 65535, .int .i64 3, .int .i64 224, .int .i64 65536, .int .i64 1114111, .int .i64 4, .int .i64 240]
/-- A form, as a value. -/
def formV (l h s d : Int) : Value := .agg #[.int .i64 l, .int .i64 h, .int .i64 s, .int .i64 d]
/-- A form holds a number. -/
def holdsB (l h n : Int) : Bool := decide (l ≤ n) && (decide (n ≤ h) && (decide (n < 55296) || decide (57343 < n)))

/-- The number of first bytes of the form of a size. -/
def roomOf (s : Int) : Int := if s = 1 then 128 else if s = 2 then 32 else if s = 3 then 16 else 8
def startsB (s d n : Int) : Bool := decide (d ≤ n) && decide (n < d + roomOf s)
theorem room_bd (s : Int) : 8 ≤ roomOf s ∧ roomOf s ≤ 128 := by unfold roomOf; repeat' split <;> omega
end Go.Proofs.Ytinaecmpigenoaa
/-
  Layer 4: a value in memory; the table of shapes.
-/
namespace Go.Proofs.Ytinaecmpigenoaa
open Go.RowKit
set_option linter.unusedVariables false

def VT.agg : VT → Value | .mk k n s cA cn cc kA kn kc _ _ => .agg #[.int .i64 k, .int .i64 n, .string s, .slice cA cn cc, .slice kA kn kc]
/-- The sizes are those of values in memory. -/
structure VSz (k n : Int) (s : ByteArray) (cA : Option Addr) (cn cc : Nat) (kA : Option Addr) (kn kc : Nat) (keys : List ByteArray) : Prop where
  k : (Lit.int .i64 k).wf = true
  n : (Lit.int .i64 n).wf = true
  s : s.size ≤ maxLen
  c1 : cn ≤ cc
  c2 : cc ≤ maxLen
  c3 : cA = none → cc = 0
  k1 : kn ≤ kc
  k2 : kc ≤ maxLen
  k3 : kA = none → kc = 0
  keys : ∀ x ∈ keys, x.size ≤ maxLen
/-- A value lies in memory: its slices show its kids and its keys, and so on down. -/
inductive Lie (w : World) (B : Nat) : VT → Prop
  | mk {k n s cA cn cc kA kn kc keys kids} (hc : Shows w B 5 cA cn (kids.flatMap VT.cells)) (hk : Shows w B 1 kA kn (keys.map Value.string)) (hz : VSz k n s cA cn cc kA kn kc keys) (h : ∀ x ∈ kids, Lie w B x) : Lie w B (.mk k n s cA cn cc kA kn kc keys kids)
theorem Lie.later {w w' : World} {B : Nat} (hb : Below B w w') : ∀ {T : VT}, Lie w B T → Lie w' B T := by
  intro T h
  induction h with
  | mk hc hk hz _ ih => exact .mk (hc.below hb) (hk.below hb) hz ih
theorem Lie.more {w : World} {B B' : Nat} (hb : B ≤ B') : ∀ {T : VT}, Lie w B T → Lie w B' T := by
  intro T h
  induction h with
  | mk hc hk hz _ ih => exact .mk (hc.more hb) (hk.more hb) hz ih
theorem vflat_len (l : List VT) : (l.flatMap VT.cells).length = l.length * 5 := by
  induction l with
  | nil => rfl
  | cons x l ih => rw [List.flatMap_cons, List.length_append, ih, VT.cells_len, List.length_cons]; omega
theorem vflat_get : ∀ (l : List VT) (i j : Nat) (hi : i < l.length) (_ : j < 5), (l.flatMap VT.cells)[i * 5 + j]? = (l[i]'hi).cells[j]?
  | x :: l, 0, j, _, hj => by
    rw [List.flatMap_cons, List.getElem?_append_left (by rw [VT.cells_len]; omega)]
    simp
  | x :: l, i + 1, j, hi, hj => by
    have e : (i + 1) * 5 + j = x.cells.length + (i * 5 + j) := by rw [VT.cells_len]; omega
    rw [List.flatMap_cons, e, List.getElem?_append_right (by omega), Nat.add_sub_cancel_left, vflat_get l i j (by simpa using hi) hj]
    simp
/-- The five cells of a value at an address. -/
def Cell5 (w : World) (b o : Nat) : VT → Prop
  | .mk k n s cA cn cc kA kn kc _ _ =>
    w.cell? ⟨b, o, none⟩ = some (.int .i64 k) ∧ w.cell? ⟨b, o + 1, none⟩ = some (.int .i64 n) ∧ w.cell? ⟨b, o + 2, none⟩ = some (.string s) ∧ w.cell? ⟨b, o + 3, none⟩ = some (.slice cA cn cc) ∧ w.cell? ⟨b, o + 4, none⟩ = some (.slice kA kn kc)
theorem kids_at {w : World} {B : Nat} {A : Option Addr} {n : Nat} {l : List VT} (h : Shows w B 5 A n (l.flatMap VT.cells)) {i : Nat} (hi : i < n) :
    ∃ b off x, A = some ⟨b, off, none⟩ ∧ b < B ∧ l[i]? = some x ∧ Cell5 w b (off + i * 5) x := by
  obtain ⟨b, off, rfl, hb, hc⟩ := h.2 (by omega)
  have hl : i < l.length := by have := h.1; rw [vflat_len] at this; omega
  have hg := fun j (hj : j < 5) => vflat_get l i j hl hj
  refine ⟨b, off, l[i], rfl, hb, List.getElem?_eq_getElem hl, ?_⟩
  cases hx : l[i] with
  | mk k n s cA cn cc kA kn kc keys kids =>
    rw [hx] at hg
    exact ⟨hc (i * 5 + 0) _ ((hg 0 (by omega)).trans rfl), hc (i * 5 + 1) _ ((hg 1 (by omega)).trans rfl), hc (i * 5 + 2) _ ((hg 2 (by omega)).trans rfl), hc (i * 5 + 3) _ ((hg 3 (by omega)).trans rfl), hc (i * 5 + 4) _ ((hg 4 (by omega)).trans rfl)⟩
theorem kids_len {w : World} {B : Nat} {A : Option Addr} {n : Nat} {l : List VT} (h : Shows w B 5 A n (l.flatMap VT.cells)) : l.length = n := by have := h.1; rw [vflat_len] at this; omega
theorem keys_len {w : World} {B : Nat} {A : Option Addr} {n : Nat} {l : List ByteArray} (h : Shows w B 1 A n (l.map Value.string)) : l.length = n := by have := h.1; simpa using this
theorem key_at {w : World} {B : Nat} {A : Option Addr} {n : Nat} {l : List ByteArray} (h : Shows w B 1 A n (l.map Value.string)) {i : Nat} (hi : i < n) :
    ∃ b off, A = some ⟨b, off, none⟩ ∧ b < B ∧ w.cell? ⟨b, off + i, none⟩ = some (.string (l.getD i ⟨#[]⟩)) := by
  obtain ⟨b, off, rfl, hb, hc⟩ := h.2 (by omega)
  have hl : i < l.length := by rw [keys_len h]; exact hi
  exact ⟨b, off, rfl, hb, hc i _ (by rw [List.getElem?_map, List.getD_eq_getElem?_getD, List.getElem?_eq_getElem hl]; rfl)⟩

/-- The table of shapes. -/
def sRow (k : Int) : List Value := [.bool (shKnown k), .bool (shWide k), .int .i64 (shTop k), .bool (shText k), .bool (shKeys k), .bool (shKids k)]
def stab : List Value := (List.range 7).flatMap fun k => sRow (k : Nat)
theorem stab_at : ∀ k j, k < 7 → j < 6 → stab[k * 6 + j]? = (sRow (k : Nat))[j]? := by
  intro k j hk hj
  rcases (show k = 0 ∨ k = 1 ∨ k = 2 ∨ k = 3 ∨ k = 4 ∨ k = 5 ∨ k = 6 by omega) with rfl | rfl | rfl | rfl | rfl | rfl | rfl <;>
    rcases (show j = 0 ∨ j = 1 ∨ j = 2 ∨ j = 3 ∨ j = 4 ∨ j = 5 by omega) with rfl | rfl | rfl | rfl | rfl | rfl <;> rfl
end Go.Proofs.Ytinaecmpigenoaa
/-
  Layer 1: the forms by index; the least that fits.
-/
namespace Go.Proofs.Ytinaecmpigenoaa
open Go.RowKit

def fl : Nat → Int | 0 => 0 | 1 => 128 | 2 => 2048 | 3 => 65536 | _ => 0
def fh : Nat → Int | 0 => 127 | 1 => 2047 | 2 => 65535 | 3 => 1114111 | _ => 0
def fs : Nat → Int | 0 => 1 | 1 => 2 | 2 => 3 | 3 => 4 | _ => 0
def fd : Nat → Int | 0 => 0 | 1 => 192 | 2 => 224 | 3 => 240 | _ => 0
/-- The form of an index; from 4 on: none. -/
def formK (k : Nat) : Value := .agg #[.int .i64 (fl k), .int .i64 (fh k), .int .i64 (fs k), .int .i64 (fd k)]
def firstK (P : Nat → Bool) : Nat := if P 0 then 0 else if P 1 then 1 else if P 2 then 2 else if P 3 then 3 else 4

theorem first_yes (P : Nat → Bool) (k : Nat) (hk : k < 4) (h : ∀ j, j < k → P j = false) (hq : P k = true) : firstK P = k := by
  unfold firstK
  rcases (show k = 0 ∨ k = 1 ∨ k = 2 ∨ k = 3 by omega) with rfl | rfl | rfl | rfl
  · rw [hq, if_pos rfl]
  · rw [h 0 (by omega), if_neg (by simp), hq, if_pos rfl]
  · rw [h 0 (by omega), if_neg (by simp), h 1 (by omega), if_neg (by simp), hq, if_pos rfl]
  · rw [h 0 (by omega), if_neg (by simp), h 1 (by omega), if_neg (by simp), h 2 (by omega), if_neg (by simp), hq, if_pos rfl]
theorem first_no (P : Nat → Bool) (h : ∀ j, j < 4 → P j = false) : firstK P = 4 := by
  unfold firstK
  rw [h 0 (by omega), if_neg (by simp), h 1 (by omega), if_neg (by simp), h 2 (by omega), if_neg (by simp), h 3 (by omega), if_neg (by simp)]
end Go.Proofs.Ytinaecmpigenoaa
/-
  Layer 1: find, by starts.
-/
namespace Go.Proofs.Ytinaecmpigenoaa
open Go.RowKit

end Go.Proofs.Ytinaecmpigenoaa
/-
  Layer 1, plain: bits of the bytes, in the walk's spelling.
-/
namespace Go.Proofs.Ytinaecmpigenoaa
open Go.RowKit

theorem ofInt_i64 (a : Nat) (ha : a < 9223372036854775808) : (BitVec.ofInt 64 (a : Int)).toNat = a := by
  rw [BitVec.ofInt_natCast, BitVec.toNat_ofNat]; exact Nat.mod_eq_of_lt (by omega)
theorem i64_and_nat (a b : Nat) (ha : a < 9223372036854775808) (hb : b < 9223372036854775808) : bits .and .i64 (a : Int) (b : Int) = ((a &&& b : Nat) : Int) := by
  have hx : a &&& b < 2 ^ 63 := Nat.and_lt_two_pow _ (by omega)
  show IntKind.i64.wrap ((BitVec.ofInt 64 (a : Int) &&& BitVec.ofInt 64 (b : Int)).toNat : Int) = _
  rw [BitVec.toNat_and, ofInt_i64 a ha, ofInt_i64 b hb, IntKind.wrap_i64]
  omega
theorem i64_or_nat (a b : Nat) (ha : a < 9223372036854775808) (hb : b < 9223372036854775808) : bits .or .i64 (a : Int) (b : Int) = ((a ||| b : Nat) : Int) := by
  have hx : a ||| b < 2 ^ 63 := Nat.or_lt_two_pow (by omega) (by omega)
  show IntKind.i64.wrap ((BitVec.ofInt 64 (a : Int) ||| BitVec.ofInt 64 (b : Int)).toNat : Int) = _
  rw [BitVec.toNat_or, ofInt_i64 a ha, ofInt_i64 b hb, IntKind.wrap_i64]
  omega
theorem or_sum (i a b : Nat) (h : b < 2 ^ i) : (2 ^ i * a) ||| b = 2 ^ i * a + b := (Nat.two_pow_add_eq_or_of_lt h a).symm
theorem wrap8 (n : Nat) (h : n < 256) : IntKind.u8.wrap (n : Int) = (n : Int) := by
  have : IntKind.u8.wrap (n : Int) = (n : Int) % 256 := by simp [IntKind.wrap, IntKind.bits, IntKind.signed]
  rw [this]; omega
theorem or_i (i a x : Nat) (h : x < 2 ^ i) (hi : 2 ^ i * a + x < 256) (ha : 2 ^ i * a < 256) : IntKind.u8.wrap (bits .or .i64 ((2 ^ i * a : Nat) : Int) (x : Int)) = ((b8 (2 ^ i * a + x)).toNat : Int) := by
  rw [i64_or_nat _ _ (by omega) (by omega), or_sum _ _ _ h, wrap8 _ hi, b8_toNat _ hi]
theorem yb_first1 (c : Nat) (h : c ≤ 127) : IntKind.u8.wrap (bits .or .i64 0 (c : Int)) = ((b8 c).toNat : Int) := by
  have := or_i 7 0 c (by omega) (by omega) (by omega)
  simpa using this
theorem yb_first2 (c : Nat) (h : c ≤ 2047) : IntKind.u8.wrap (bits .or .i64 192 ((c : Int) / 64)) = ((b8 (192 + c / 64)).toNat : Int) :=
  or_i 5 6 (c / 64) (by omega) (by omega) (by omega)
theorem yb_first3 (c : Nat) (h : c ≤ 65535) : IntKind.u8.wrap (bits .or .i64 224 ((c : Int) / 4096)) = ((b8 (224 + c / 4096)).toNat : Int) :=
  or_i 4 14 (c / 4096) (by omega) (by omega) (by omega)
theorem yb_first4 (c : Nat) (h : c ≤ 1114111) : IntKind.u8.wrap (bits .or .i64 240 ((c : Int) / 262144)) = ((b8 (240 + c / 262144)).toNat : Int) :=
  or_i 3 30 (c / 262144) (by omega) (by omega) (by omega)
theorem and63 (x : Nat) (h : x < 9223372036854775808) : bits .and .i64 (x : Int) 63 = ((x % 64 : Nat) : Int) := by
  have := i64_and_nat x 63 h (by omega)
  rw [show ((63 : Nat) : Int) = 63 from rfl] at this
  rw [this, show (63 : Nat) = 2 ^ 6 - 1 from rfl, Nat.and_two_pow_sub_one_eq_mod]
theorem yb_next (x : Nat) (h : x ≤ 1114111) : IntKind.u8.wrap (bits .or .i64 128 (bits .and .i64 (x : Int) 63)) = ((b8 (128 + x % 64)).toNat : Int) := by
  rw [and63 x (by omega)]
  exact or_i 6 2 (x % 64) (by omega) (by omega) (by omega)
end Go.Proofs.Ytinaecmpigenoaa
/-
  Layer 1, plain: reading by the forms.
-/
namespace Go.Proofs.Ytinaecmpigenoaa
open Go.RowKit

/-- The index of the form that a first byte begins. -/
def sIdx (n : Int) : Nat := firstK fun k => startsB (fs k) (fd k) n
theorem sIdx_cases (n : Nat) (h : n < 256) : (n < 128 ∧ sIdx n = 0) ∨ (128 ≤ n ∧ n < 192 ∧ sIdx n = 4) ∨ (192 ≤ n ∧ n < 224 ∧ sIdx n = 1) ∨ (224 ≤ n ∧ n < 240 ∧ sIdx n = 2) ∨ (240 ≤ n ∧ n < 248 ∧ sIdx n = 3) ∨ (248 ≤ n ∧ sIdx n = 4) := by
  unfold sIdx
  have s0 : startsB (fs 0) (fd 0) n = decide (n < 128) := by rw [Bool.eq_iff_iff]; simp [startsB, fs, fd, roomOf]; omega
  have s1 : startsB (fs 1) (fd 1) n = decide (192 ≤ n ∧ n < 224) := by rw [Bool.eq_iff_iff]; simp [startsB, fs, fd, roomOf]; omega
  have s2 : startsB (fs 2) (fd 2) n = decide (224 ≤ n ∧ n < 240) := by rw [Bool.eq_iff_iff]; simp [startsB, fs, fd, roomOf]; omega
  have s3 : startsB (fs 3) (fd 3) n = decide (240 ≤ n ∧ n < 248) := by rw [Bool.eq_iff_iff]; simp [startsB, fs, fd, roomOf]; omega
  unfold firstK
  simp only [s0, s1, s2, s3, decide_eq_true_eq]
  by_cases h0 : n < 128
  · exact .inl ⟨h0, by rw [if_pos h0]⟩
  by_cases h1 : n < 192
  · exact .inr (.inl ⟨by omega, h1, by rw [if_neg (by omega), if_neg (by omega), if_neg (by omega), if_neg (by omega)]⟩)
  by_cases h2 : n < 224
  · exact .inr (.inr (.inl ⟨by omega, h2, by rw [if_neg (by omega), if_pos (by omega)]⟩))
  by_cases h3 : n < 240
  · exact .inr (.inr (.inr (.inl ⟨by omega, h3, by rw [if_neg (by omega), if_neg (by omega), if_pos (by omega)]⟩)))
  by_cases h4 : n < 248
  · exact .inr (.inr (.inr (.inr (.inl ⟨by omega, h4, by rw [if_neg (by omega), if_neg (by omega), if_neg (by omega), if_pos (by omega)]⟩))))
  · exact .inr (.inr (.inr (.inr (.inr ⟨by omega, by rw [if_neg (by omega), if_neg (by omega), if_neg (by omega), if_neg (by omega)]⟩))))
theorem holds_iff (l h n : Int) : holdsB l h n = true ↔ l ≤ n ∧ n ≤ h ∧ (n < 55296 ∨ 57343 < n) := by unfold holdsB; simp
def fdN : Nat → Nat | 0 => 0 | 1 => 192 | 2 => 224 | 3 => 240 | _ => 0
theorem fdN_fd (k : Nat) : fd k = (fdN k : Int) := by
  match k with
  | 0 => rfl
  | 1 => rfl
  | 2 => rfl
  | 3 => rfl
  | _ + 4 => rfl
theorem fs_of (k : Nat) (h : k < 4) : fs k = ((k + 1 : Nat) : Int) := by
  rcases (show k = 0 ∨ k = 1 ∨ k = 2 ∨ k = 3 by omega) with rfl | rfl | rfl | rfl <;> rfl
/-- The number that j bytes give, the first less its lead. -/
def part (l : List UInt8) (d : Nat) : Nat → Nat
  | 0 => 0
  | 1 => (l.getD 0 0).toNat - d
  | j + 2 => part l d (j + 1) * 64 + ((l.getD (j + 1) 0).toNat - 128)
theorem part_succ (l : List UInt8) (d j : Nat) (h : 1 ≤ j) : part l d (j + 1) = part l d j * 64 + ((l.getD j 0).toNat - 128) := by
  match j, h with
  | j + 1, _ => rfl
theorem part_lt (l : List UInt8) (d : Nat) (hc : ∀ q, (l.getD q 0).toNat < 256) (h0 : (l.getD 0 0).toNat - d < 128) (j : Nat) (hj : j ≤ 4) : part l d j < 100000000 := by
  have p0 : part l d 0 = 0 := rfl
  have p1 : part l d 1 = (l.getD 0 0).toNat - d := rfl
  have p2 := part_succ l d 1 (by omega)
  have p3 := part_succ l d 2 (by omega)
  have p4 := part_succ l d 3 (by omega)
  have q1 := hc 1
  have q2 := hc 2
  have q3 := hc 3
  rcases (show j = 0 ∨ j = 1 ∨ j = 2 ∨ j = 3 ∨ j = 4 by omega) with rfl | rfl | rfl | rfl | rfl
  · omega
  · omega
  · simp only [Nat.reduceAdd] at p2; omega
  · simp only [Nat.reduceAdd] at p2 p3; omega
  · simp only [Nat.reduceAdd] at p2 p3 p4; omega

theorem dec_none (l : List UInt8) (h : sIdx ((l.getD 0 0).toNat : Int) = 4) : decL l = (0, 0) := by
  rcases l with _ | ⟨a, r⟩
  · rfl
  have hs := sIdx_cases a.toNat a.toNat_lt
  have h' : sIdx (a.toNat : Int) = 4 := h
  simp only [decL]
  rw [h'] at hs
  rcases hs with h | h | h | h | h | h
  · omega
  · rw [if_neg (by omega), if_pos (by omega)]
  · omega
  · omega
  · omega
  · rw [if_neg (by omega), if_neg (by omega), if_neg (by omega), if_neg (by omega), if_neg (by omega)]
theorem dec_short (l : List UInt8) (k : Nat) (hk : sIdx ((l.getD 0 0).toNat : Int) = k) (hl : 0 < l.length) (h4 : k < 4) (h : l.length < k + 1) : decL l = (0, 0) := by
  rcases l with _ | ⟨a, r⟩
  · rfl
  have hs := sIdx_cases a.toNat a.toNat_lt
  have h' : sIdx (a.toNat : Int) = k := hk
  simp only [decL]
  simp only [List.length_cons] at h
  rw [h'] at hs
  rcases hs with h | h | h | h | h | h
  · omega
  · omega
  · rw [if_neg (by omega), if_neg (by omega), if_pos (by omega)]
    rcases r with _ | ⟨b, r⟩
    · rfl
    · simp at *; omega
  · rw [if_neg (by omega), if_neg (by omega), if_neg (by omega), if_pos (by omega)]
    rcases r with _ | ⟨b, _ | ⟨c, r⟩⟩
    · rfl
    · rfl
    · simp at *; omega
  · rw [if_neg (by omega), if_neg (by omega), if_neg (by omega), if_neg (by omega), if_pos (by omega)]
    rcases r with _ | ⟨b, _ | ⟨c, _ | ⟨d, r⟩⟩⟩
    · rfl
    · rfl
    · rfl
    · simp at *; omega
  · omega
theorem okIf_false (c n : Nat) : okIf false c n = (0, 0) := rfl
theorem dec_bad (l : List UInt8) (k : Nat) (hk : sIdx ((l.getD 0 0).toNat : Int) = k) (h4 : k < 4) (hl : k + 1 ≤ l.length) (q : Nat) (hq1 : 1 ≤ q) (hq : q ≤ k) (hb : cont (l.getD q 0) = false) : decL l = (0, 0) := by
  rcases l with _ | ⟨a, r⟩
  · rfl
  have hs := sIdx_cases a.toNat a.toNat_lt
  have h' : sIdx (a.toNat : Int) = k := hk
  simp only [decL]
  simp only [List.length_cons] at hl
  rw [h'] at hs
  rcases hs with h | h | h | h | h | h
  · omega
  · omega
  · rw [if_neg (by omega), if_neg (by omega), if_pos (by omega)]
    obtain rfl : q = 1 := by omega
    rcases r with _ | ⟨b, r⟩
    · rfl
    · have hb' : cont b = false := hb
      simp only [hb', Bool.false_and, okIf_false]
  · rw [if_neg (by omega), if_neg (by omega), if_neg (by omega), if_pos (by omega)]
    rcases r with _ | ⟨b, _ | ⟨c, r⟩⟩
    · rfl
    · rfl
    · rcases (show q = 1 ∨ q = 2 by omega) with rfl | rfl
      · have hb' : cont b = false := hb
        simp only [hb', Bool.false_and, okIf_false]
      · have hb' : cont c = false := hb
        simp only [hb', Bool.false_and, Bool.and_false, okIf_false]
  · rw [if_neg (by omega), if_neg (by omega), if_neg (by omega), if_neg (by omega), if_pos (by omega)]
    rcases r with _ | ⟨b, _ | ⟨c, _ | ⟨d, r⟩⟩⟩
    · rfl
    · rfl
    · rfl
    · rcases (show q = 1 ∨ q = 2 ∨ q = 3 by omega) with rfl | rfl | rfl
      · have hb' : cont b = false := hb
        simp only [hb', Bool.false_and, okIf_false]
      · have hb' : cont c = false := hb
        simp only [hb', Bool.false_and, Bool.and_false, okIf_false]
      · have hb' : cont d = false := hb
        simp only [hb', Bool.false_and, Bool.and_false, okIf_false]
  · omega
theorem dec_all (l : List UInt8) (k : Nat) (hk : sIdx ((l.getD 0 0).toNat : Int) = k) (h4 : k < 4) (hl : k + 1 ≤ l.length) (hc : ∀ q, 1 ≤ q → q < k + 1 → cont (l.getD q 0) = true) :
    decL l = okIf (holdsB (fl k) (fh k) (part l (fdN k) (k + 1) : Nat)) (part l (fdN k) (k + 1)) (k + 1) := by
  rcases l with _ | ⟨a, r⟩
  · simp at hl
  have hs := sIdx_cases a.toNat a.toNat_lt
  have h' : sIdx (a.toNat : Int) = k := hk
  simp only [decL]
  simp only [List.length_cons] at hl
  rw [h'] at hs
  rcases hs with ⟨h, rfl⟩ | h | ⟨h, h2, rfl⟩ | ⟨h, h2, rfl⟩ | ⟨h, h2, rfl⟩ | h
  · rw [if_pos h]
    have e1 : part (a :: r) (fdN 0) (0 + 1) = a.toNat := rfl
    have e : holdsB (fl 0) (fh 0) (a.toNat : Int) = true := (holds_iff _ _ _).2 ⟨show (0 : Int) ≤ _ by omega, show _ ≤ (127 : Int) by omega, .inl (by omega)⟩
    rw [e1, e]
    rfl
  · omega
  · rw [if_neg (by omega), if_neg (by omega), if_pos (by omega)]
    rcases r with _ | ⟨b, r⟩
    · simp at hl
    · have c1 : cont b = true := hc 1 (by omega) (by omega)
      have c1' := (cont_iff _).1 c1
      have e : part (a :: b :: r) (fdN 1) (1 + 1) = (a.toNat - 192) * 64 + (b.toNat - 128) := rfl
      rw [e]
      dsimp only
      generalize hx : (a.toNat - 192) * 64 + (b.toNat - 128) = x
      have hb : (cont b && decide (128 ≤ x)) = holdsB (fl 1) (fh 1) (x : Int) := by
        rw [c1, Bool.eq_iff_iff, holds_iff, Bool.true_and, decide_eq_true_eq]
        show _ ↔ (128 : Int) ≤ x ∧ (x : Int) ≤ 2047 ∧ _
        omega
      rw [hb]
  · rw [if_neg (by omega), if_neg (by omega), if_neg (by omega), if_pos (by omega)]
    rcases r with _ | ⟨b, _ | ⟨c, r⟩⟩
    · simp at hl
    · simp at hl
    · have c1 : cont b = true := hc 1 (by omega) (by omega)
      have c2 : cont c = true := hc 2 (by omega) (by omega)
      have c1' := (cont_iff _).1 c1
      have c2' := (cont_iff _).1 c2
      have e : part (a :: b :: c :: r) (fdN 2) (2 + 1) = ((a.toNat - 224) * 64 + (b.toNat - 128)) * 64 + (c.toNat - 128) := rfl
      rw [e]
      dsimp only
      generalize hx : ((a.toNat - 224) * 64 + (b.toNat - 128)) * 64 + (c.toNat - 128) = x
      have hb : (cont b && cont c && decide (2048 ≤ x) && isCp x) = holdsB (fl 2) (fh 2) (x : Int) := by
        rw [c1, c2, Bool.eq_iff_iff, holds_iff]
        simp only [Bool.true_and, Bool.and_eq_true, isCp_iff, decide_eq_true_eq]
        show _ ↔ (2048 : Int) ≤ x ∧ (x : Int) ≤ 65535 ∧ _
        omega
      rw [hb]
  · rw [if_neg (by omega), if_neg (by omega), if_neg (by omega), if_neg (by omega), if_pos (by omega)]
    rcases r with _ | ⟨b, _ | ⟨c, _ | ⟨d, r⟩⟩⟩
    · simp at hl
    · simp at hl
    · simp at hl
    · have c1 : cont b = true := hc 1 (by omega) (by omega)
      have c2 : cont c = true := hc 2 (by omega) (by omega)
      have c3 : cont d = true := hc 3 (by omega) (by omega)
      have c1' := (cont_iff _).1 c1
      have c2' := (cont_iff _).1 c2
      have c3' := (cont_iff _).1 c3
      have e : part (a :: b :: c :: d :: r) (fdN 3) (3 + 1) = (((a.toNat - 240) * 64 + (b.toNat - 128)) * 64 + (c.toNat - 128)) * 64 + (d.toNat - 128) := rfl
      rw [e]
      dsimp only
      generalize hx : (((a.toNat - 240) * 64 + (b.toNat - 128)) * 64 + (c.toNat - 128)) * 64 + (d.toNat - 128) = x
      have hb : (cont b && cont c && cont d && decide (65536 ≤ x) && isCp x) = holdsB (fl 3) (fh 3) (x : Int) := by
        rw [c1, c2, c3, Bool.eq_iff_iff, holds_iff]
        simp only [Bool.true_and, Bool.and_eq_true, isCp_iff, decide_eq_true_eq]
        show _ ↔ (65536 : Int) ≤ x ∧ (x : Int) ≤ 1114111 ∧ _
        omega
      rw [hb]
  · omega
set_option maxRecDepth 20000 in
/-- Bits of a byte that goes on. -/
theorem and192 (x : UInt8) : (bits .and .i64 (x.toNat : Int) 192 != 128) = !cont x := by
  have h := i64_and_nat x.toNat 192 (by have := x.toNat_lt; omega) (by omega)
  rw [show ((192 : Nat) : Int) = 192 from rfl] at h
  rw [h]
  have key : ∀ n : Nat, n < 256 → ((n &&& 192 : Nat) != 128) = !(decide (128 ≤ n) && decide (n < 192)) := by decide +kernel
  have k2 := key x.toNat x.toNat_lt
  unfold cont
  rw [← k2]
  rw [Bool.eq_iff_iff]
  simp
  omega
theorem step6 (p x : Nat) (hp : p < 100000000) (h1 : 128 ≤ x) (h2 : x < 192) : bits .or .i64 ((p : Int) * 64) (bits .and .i64 (x : Int) 63) = ((p * 64 + (x - 128) : Nat) : Int) := by
  rw [and63 x (by omega)]
  have := i64_or_nat (p * 64) (x % 64) (by omega) (by omega)
  rw [show ((p * 64 : Nat) : Int) = (p : Int) * 64 from by push_cast; rfl] at this
  have h2 := or_sum 6 p (x % 64) (by omega)
  rw [show 2 ^ 6 * p = p * 64 by omega] at h2
  rw [this, h2, show x % 64 = x - 128 by omega]
end Go.Proofs.Ytinaecmpigenoaa
/-
  Strings: a list of bytes as a string; '[]byte' made a string. No program in sight.
-/
namespace Go.Proofs.Ytinaecmpigenoaa
open Go.RowKit

/-- A list of bytes as a string. -/
def ofL (l : List UInt8) : ByteArray := ⟨l.toArray⟩
theorem ofL_toList (l : List UInt8) : (ofL l).data.toList = l := by simp [ofL]
theorem ofL_size (l : List UInt8) : (ofL l).size = l.length := by simp [ofL, ByteArray.size]
theorem ofL_of (s : ByteArray) : ofL s.data.toList = s := by
  cases s
  simp [ofL]
theorem ofL_inj {l m : List UInt8} (h : ofL l = ofL m) : l = m := by
  have := congrArg (fun s : ByteArray => s.data.toList) h
  simpa [ofL_toList] using this
theorem ofL_push (l : List UInt8) (c : UInt8) : (ofL l).push c = ofL (l ++ [c]) := by
  simp [ofL, ByteArray.push]
theorem foldl_push : ∀ (l r : List UInt8), (l.map fun c => (c.toNat : Int)).foldl (fun r n => r.push (UInt8.ofNat n.toNat)) (ofL r) = ofL (r ++ l)
  | [], r => by simp
  | c :: l, r => by
    simp only [List.map_cons, List.foldl_cons]
    rw [show UInt8.ofNat ((c.toNat : Int)).toNat = c by simp, ofL_push, foldl_push l]
    simp

theorem run_bytes_string {P : Program} {src dst e : TypeId} (hs : P.underlying src = some (.slice e)) (he : P.underlying e = some (.int .u8)) (hd : P.underlying dst = some .string)
    (w : World) (A : Option Addr) (n c B : Nat) (l : List UInt8) (h : Bytes w B A n l) : (convert src dst (.slice A n c)).run P w = .ok (.string (ofL l)) w := by
  rw [run_convert_bytes_string w src dst e A n c hs he hd]
  have hn := h.len
  rcases A with _ | a
  · have hz : l = [] := by
      rcases Nat.eq_zero_or_pos n with h0 | h0
      · exact List.eq_nil_of_length_eq_zero (by omega)
      · obtain ⟨_, _, e1, _⟩ := h.2 h0
        cases e1
    subst hz
    rfl
  · have hc : ∀ j v, (l.map bv)[j]? = some v → w.cell? (a.add j) = some v := by
      intro j v hj
      have h0 : 0 < n := by
        rcases Nat.eq_zero_or_pos n with h0 | h0
        · have : l = [] := List.eq_nil_of_length_eq_zero (by omega)
          subst this
          simp at hj
        · exact h0
      obtain ⟨b, off, e1, _, h2⟩ := h.2 h0
      injection e1 with e1
      subst e1
      rw [addr_add]
      exact h2 j v hj
    have hl := run_loadCells_list (P := P) (w := w) a (l.map bv) hc
    rw [List.length_map, hn] at hl
    have h2 := run_bytesToString (P := P) w a n c (l.map fun c => (c.toNat : Int)) (by rw [hl, List.map_map]; rfl)
    rw [h2]
    have h3 := foldl_push l []
    rw [show (ByteArray.empty) = ofL [] from rfl, h3]
    rfl
end Go.Proofs.Ytinaecmpigenoaa
/-
  Layer 1: decode, of a string.
-/
namespace Go.Proofs.Ytinaecmpigenoaa
open Go.RowKit

theorem str_at (s : ByteArray) (k : Nat) (h : k < s.size) : ((s[k]'h).toNat : Int) = at8 s.data.toList k := by
  unfold at8
  rw [List.getD_eq_getElem?_getD, List.getElem?_eq_getElem (by simpa using h)]
  rfl
theorem drop_getD (l : List UInt8) (p q : Nat) : (l.drop p).getD q 0 = l.getD (p + q) 0 := by
  rw [List.getD_eq_getElem?_getD, List.getD_eq_getElem?_getD, List.getElem?_drop]
theorem firstK_le (P : Nat → Bool) : firstK P ≤ 4 := by
  unfold firstK
  split
  · omega
  split
  · omega
  split
  · omega
  split <;> omega
theorem first_lead (n : Int) (k : Nat) (h0 : 0 ≤ n) (h1 : n ≤ 255) (h : sIdx n = k) (hk : k < 4) : (fdN k : Int) ≤ n ∧ n - (fdN k : Int) < 128 := by
  obtain ⟨a, rfl⟩ : ∃ a : Nat, n = (a : Int) := ⟨n.toNat, by omega⟩
  have hs := sIdx_cases a (by omega)
  rw [h] at hs
  rcases (show k = 0 ∨ k = 1 ∨ k = 2 ∨ k = 3 by omega) with rfl | rfl | rfl | rfl <;> simp only [fdN] <;> omega
/-- What decode tells. -/
def decR (l : List UInt8) (p : Nat) : Value :=
  if (decL (l.drop p)).2 = 0 then .tuple #[.int .i64 0, .int .i64 0, .int .i64 110]
  else .tuple #[.int .i64 ((decL (l.drop p)).1 : Int), .int .i64 ((p + (decL (l.drop p)).2 : Nat) : Int), .int .i64 0]
theorem decR_no {l : List UInt8} {p : Nat} (h : decL (l.drop p) = (0, 0)) : decR l p = .tuple #[.int .i64 0, .int .i64 0, .int .i64 110] := by unfold decR; rw [h]; rfl
theorem decR_yes {l : List UInt8} {p c n : Nat} (h : decL (l.drop p) = (c, n)) (hn : n ≠ 0) : decR l p = .tuple #[.int .i64 (c : Int), .int .i64 ((p + n : Nat) : Int), .int .i64 0] := by unfold decR; rw [h, if_neg hn]
end Go.Proofs.Ytinaecmpigenoaa
/-
  Layer 1: walk, Check.
-/
namespace Go.Proofs.Ytinaecmpigenoaa
open Go.RowKit Go.Shelf

/-- What walk tells. -/
def walkR (l : List UInt8) : Value := if (ptsL l).2 = l.length then .tuple #[.int .i64 0, .int .i64 0] else .tuple #[.int .i64 ((ptsL l).2 : Int), .int .i64 110]
end Go.Proofs.Ytinaecmpigenoaa
/-
  Layer 4: the methods of a shape; holder; right.
-/
namespace Go.Proofs.Ytinaecmpigenoaa
open Go.RowKit
set_option linter.unusedVariables false

theorem vret_b {a b : Bool} (h : a = b) : Ending.returned (.bool a) = .returned (.bool b) := by rw [h]
end Go.Proofs.Ytinaecmpigenoaa
/-
  Layer 4: fits.
-/
namespace Go.Proofs.Ytinaecmpigenoaa
open Go.RowKit
set_option linter.unusedVariables false

theorem fit_mk (k n : Int) (s : ByteArray) (cA : Option Addr) (cn cc : Nat) (kA : Option Addr) (kn kc : Nat) (keys : List ByteArray) (kids : List VT) : (VT.mk k n s cA cn cc kA kn kc keys kids).fit = (shKnown k && (numB k n && (strB k s && (eleB k cn && memB k cn kn keys)))) := rfl
end Go.Proofs.Ytinaecmpigenoaa
/-
  Slices of whole numbers. No program in sight.
-/
namespace Go.Proofs.Ytinaecmpigenoaa
open Go.RowKit

/-- A whole number as a cell holds it. -/
def iv (x : Int) : Value := .int .i64 x
def nats (l : List Nat) : List Int := l.map fun (c : Nat) => (c : Int)
theorem nats_len (l : List Nat) : (nats l).length = l.length := by simp [nats]
theorem nats_snoc (l : List Nat) (c : Nat) : nats (l ++ [c]) = nats l ++ [(c : Int)] := by simp [nats]
theorem nats_inj : ∀ {l m : List Nat}, nats l = nats m → l = m
  | [], [], _ => rfl
  | [], _ :: _, h => by simp [nats] at h
  | _ :: _, [], h => by simp [nats] at h
  | a :: l, b :: m, h => by
    simp only [nats, List.map_cons, List.cons.injEq] at h
    obtain ⟨h1, h2⟩ := h
    rw [show a = b by omega, nats_inj (l := l) (m := m) h2]
theorem iv_one (l : List Int) : ∀ u ∈ l.map iv, u.oneCell' = true := by
  intro u hu
  obtain ⟨x, _, rfl⟩ := List.mem_map.1 hu
  rfl
def Ints (w : World) (B : Nat) (A : Option Addr) (n : Nat) (l : List Int) : Prop := Shows w B 1 A n (l.map iv)
section
variable {w w' : World} {B B' n : Nat} {A : Option Addr} {l : List Int}
theorem Ints.len (h : Ints w B A n l) : l.length = n := by have := h.1; simpa using this
theorem Ints.more (h : Ints w B A n l) (hB : B ≤ B') : Ints w B' A n l := Shows.more h hB
theorem Ints.below (h : Ints w B A n l) (hb : Below B w w') : Ints w' B A n l := Shows.below h hb
theorem Ints.drewN (h : Ints w B A n l) (k : Nat) : Ints (w.drewN k) B A n l := h
theorem Ints.drew (h : Ints w B A n l) : Ints w.drew B A n l := h
theorem Ints.alloc (h : Ints w B A n l) (hB : B ≤ w.heap.size) (o : Obj) : Ints (w.alloc o) B A n l := Shows.alloc h hB o
theorem Ints.first (h : Ints w B A n l) {k : Nat} (hk : k ≤ n) : Ints w B A k (l.take k) := by
  have := Shows.first h hk
  unfold Ints
  simpa [List.map_take] using this
theorem Ints.cell (h : Ints w B A n l) {k : Nat} (hk : k < n) : ∃ b off, A = some ⟨b, off, none⟩ ∧ b < B ∧ w.cell? ⟨b, off + k, none⟩ = some (.int .i64 (l.getD k 0)) := by
  obtain ⟨b, off, e, hb, hc⟩ := h.2 (by omega)
  refine ⟨b, off, e, hb, hc k _ ?_⟩
  have hl := h.len
  rw [List.getElem?_map, List.getElem?_eq_getElem (by omega), List.getD_eq_getElem?_getD, List.getElem?_eq_getElem (by omega)]
  rfl
theorem Ints.own {base : Nat} {e : TypeId} {c : Nat} (h : w.ownsRow base e 1 (.slice A n c) n (l.map iv)) : Ints w w.heap.size A n l := Shows.own h
theorem Ints.zero (A : Option Addr) : Ints w B A 0 [] := Shows.zero A
end
theorem ints_new (w : World) (l : List Int) (C : Array Value) (t : TypeId) (fr : Nat × Nat) (hC : C.toList = l.map iv) : Ints (w.alloc (.cells C t fr)) (w.heap.size + 1) (some ⟨w.heap.size, 0, none⟩) l.length l :=
  ⟨by simp, fun _ => ⟨w.heap.size, 0, rfl, by omega, fun j u hu => by
    rw [cell_of_row _ _ _ _ _ _ (heap_alloc_new w _), Nat.zero_add]
    rw [← hC] at hu
    simpa using hu⟩⟩
theorem takeI_snoc (l : List Int) (k : Nat) (h : k < l.length) : l.take (k + 1) = l.take k ++ [l.getD k 0] := by
  rw [List.take_succ_eq_append_getElem h, List.getD_eq_getElem?_getD, List.getElem?_eq_getElem h]
  rfl
theorem boxed_below {W W' : World} {B : Nat} {t : TypeId} {v : Value} (h : Boxed W B t v) (hb : Below W.heap.size W W') : Boxed W' B t v := (hb.block B h.lt).trans h
end Go.Proofs.Ytinaecmpigenoaa
/-
  A range over a function whose iterator writes a variable of its own: the statement opened into the iterator's one call, and a round into the body's walk; what the iterator may touch is the caller's to say. No program in sight.
-/
namespace Go.Proofs.Ytinaecmpigenoaa
open Go.RowKit Go.Shelf

variable {F : Fence} {n : Nat} {P : Program}

/-- The record that the statement lays. -/
def recOf (fn : FuncId) (tmps : Array Value) (ps : Array Tmp) (assign body : Code) (D : Nat) (st : LoopState) (pe : Option Code) : Loop :=
  { state := st, pending := pe, fn := fn, tmps := tmps, params := ps, assign := assign, body := body, defers := D }
/-- What follows the iterator's return, by the jump that waits. -/
def goesOn (F : Fence) (n : Nat) (P : Program) (Q : Exit → Act → World → Prop) (a : Act) (W : World) : Option Code → Prop
  | none => Q .normal a W
  | some c => c.wpIn F n P Q a W

theorem range_open {g : Operand} {ps : Array Tmp} {assign body : Code} {Q : Exit → Act → World → Prop} {a : Act} {w : World} {gf : Nat} {lb : Array Value}
    (hro : F.round = none) (h1 : 1 ≤ n) (hg : a.eval g = .func (.func gf) #[] lb) (hFg : F.fn gf) (eg : ∀ args w, (callFunc gf args).run P w = .ok (.enter gf args) w)
    (hcall : ∀ fn, F.fn fn → CallsIn F (n - 1) P gf (#[.func (.yield (w.heap.size + 1)) #[] #[]] ++ lb) ((w.alloc (.deferred (some []))).alloc (.loop (recOf fn a.tmps ps assign body w.heap.size .ready none)))
      fun e B => (∃ v, e = .returned v) ∧ ∃ st pe, B.heap[w.heap.size + 1]? = some (.loop (recOf fn a.tmps ps assign body w.heap.size st pe)) ∧ st ≠ .busy ∧
        goesOn F n P Q { a with defers := { target := .collected w.heap.size, args := #[] } :: a.defers } (B.putObj (w.heap.size + 1) (.loop (recOf fn a.tmps ps assign body w.heap.size .exhausted pe))) pe) :
    (Code.rangeFunc g ps assign body).wpIn F n P Q a w := by
  refine wpIn_rangeFunc fun fn hfn => ?_
  rw [hro]
  refine ⟨_, _, _, { target := .fn (.func gf) lb, args := #[.func (.yield (w.heap.size + 1)) #[] #[]] }, (w.alloc (.deferred (some []))).alloc (.loop (recOf fn a.tmps ps assign body w.heap.size .ready none)), gf, _, _, run_enterLoop_outer fn a.tmps ps assign body, ?_, ?_, ?_, fun _ => h1, (hcall fn hfn).mono ?_⟩
  · simp only [resolve, hg]
    simp [go_sem, recOf]
  · intro f' hf'
    simp [Target.leads] at hf'
    subst hf'
    exact hFg
  · simp [invoke, go_sem, eg]
  · rintro e B ⟨⟨v, rfl⟩, st, pe, hl, hb, hgo⟩
    refine ⟨pe, _, run_endLoop hl hb, ?_⟩
    cases pe <;> exact hgo

/-- How a round may be left, and what then holds. -/
def roundEnd (l : Nat) (r : Option Code → LoopState → Loop) (R : Ending → World → Prop) : Exit → Act → World → Prop
  | .normal, _, W => W.heap[l]? = some (.loop (r none .busy)) ∧ R (.returned (.bool true)) (W.putObj l (.loop (r none .ready)))
  | .exit id, _, W => W.heap[l]? = some (.loop (r none .busy)) ∧ R (.returned (.bool false)) (W.putObj l (.loop (r (some (.exit id)) .done)))
  | _, _, _ => False
theorem round_open {m l : Nat} {fn : FuncId} {tmps : Array Value} {ps : Array Tmp} {assign body : Code} {D : Nat} {args : Array Value} {W : World} {R : Ending → World → Prop} (hF : F.fn fn)
    (hl : W.heap[l]? = some (.loop (recOf fn tmps ps assign body D .ready none))) (hs : args.size = ps.size)
    (h : assign.wpIn (F.inRound l) m P (Exit.then (fun a' W2 => W2.heap[l]? = some (.loop (recOf fn tmps ps assign body D .ready none)) ∧
        body.wpIn (F.inRound l) m P (roundEnd l (fun pe st => recOf fn tmps ps assign body D st pe) R) a' (W2.putObj l (.loop (recOf fn tmps ps assign body D .busy none)))) (fun _ _ _ => False))
      { tmps := (ps.zip args).foldl (fun t (p, v) => t.setIfInBounds p v) tmps, defers := [] } W) :
    YieldAt F m P l args W R := by
  refine ⟨fn, _, assign, body, run_yield hl hs, roundIn_of_wpIn hF (wpIn_mono h ?_)⟩
  intro e a' W2 he
  cases e with
  | normal =>
    obtain ⟨h2, hb⟩ := he
    refine ⟨_, run_beginRound h2 rfl, wpIn_mono hb ?_⟩
    intro e3 a3 W3 h3
    cases e3 with
    | normal => exact ⟨_, _, run_endRound none h3.1, h3.2⟩
    | exit id => exact ⟨_, _, run_endRound (some (.exit id)) h3.1, h3.2⟩
    | ret => exact h3.elim
    | goto t => exact h3.elim
    | panic ch => exact h3.elim
    | outgrown => exact h3.elim
  | ret => exact he.elim
  | exit id => exact he.elim
  | goto t => exact he.elim
  | panic ch => exact he.elim
  | outgrown => exact he.elim
end Go.Proofs.Ytinaecmpigenoaa
/-
  Layer 4: the nodes of a value, from the outside in: an iterator that calls itself.
-/
namespace Go.Proofs.Ytinaecmpigenoaa
open Go.RowKit Go.Shelf
attribute [local go_sem] Oper.semAt_some
set_option linter.unusedVariables false

/-- Whatever lies from a block on stays as it is; there may be more. -/
def Keep (n : Nat) (W W' : World) : Prop := W.heap.size ≤ W'.heap.size ∧ ∀ b, n ≤ b → b < W.heap.size → W'.heap[b]? = W.heap[b]?
theorem Keep.refl (n : Nat) (W : World) : Keep n W W := ⟨Nat.le_refl _, fun _ _ _ => rfl⟩
theorem Keep.trans {n : Nat} {A B C : World} (h : Keep n A B) (k : Keep n B C) : Keep n A C := ⟨Nat.le_trans h.1 k.1, fun b hb hl => (k.2 b hb (Nat.lt_of_lt_of_le hl h.1)).trans (h.2 b hb hl)⟩
theorem Keep.of_below {n : Nat} {W W' : World} (h : Below W.heap.size W W') : Keep n W W' := ⟨h.size, fun b _ hl => h.block b hl⟩
theorem Keep.cell {n : Nat} {W W' : World} (h : Keep n W W') {b o : Nat} {v : Value} (hb : n ≤ b) (hc : W.cell? ⟨b, o, none⟩ = some v) : W'.cell? ⟨b, o, none⟩ = some v := by
  have hl := World.block_lt_of_cell? W _ hc
  have := h.2 b hb hl
  simp only [World.cell?] at hc ⊢
  rw [this]; exact hc
theorem nodes_split {k n : Int} {s : ByteArray} {cA : Option Addr} {cn cc : Nat} {kA : Option Addr} {kn kc : Nat} {keys : List ByteArray} {kids : List VT} (o j : Nat) {x : VT} (hx : kids[j]? = some x) :
    (VT.mk k n s cA cn cc kA kn kc keys kids).nodesL o = ((o + hN (k == 5 || k == 6), VT.mk k n s cA cn cc kA kn kc keys kids) :: (kids.take j).flatMap fun x => x.nodesL (o + hN (k == 5 || k == 6))) ++ (x.nodesL (o + hN (k == 5 || k == 6)) ++ (kids.drop (j + 1)).flatMap fun x => x.nodesL (o + hN (k == 5 || k == 6))) := by
  have hj := (List.getElem?_eq_some_iff.1 hx).1
  have hx' := (List.getElem?_eq_some_iff.1 hx).2
  have e : kids = kids.take j ++ (x :: kids.drop (j + 1)) := by
    have := List.take_append_drop j kids
    rw [List.drop_eq_getElem_cons hj, hx'] at this
    exact this.symm
  rw [nodes_mk, List.cons_append]
  congr 1
  have := congrArg (fun l => l.flatMap fun x : VT => x.nodesL (o + hN (k == 5 || k == 6))) e
  simp only [List.flatMap_append, List.flatMap_cons] at this
  exact this
theorem take_flat {α β : Type} (f : α → List β) (l : List α) (j : Nat) {x : α} (hx : l[j]? = some x) : (l.take (j + 1)).flatMap f = (l.take j).flatMap f ++ f x := by
  have hj := (List.getElem?_eq_some_iff.1 hx).1
  have hx' := (List.getElem?_eq_some_iff.1 hx).2
  rw [List.take_succ_eq_append_getElem hj, List.flatMap_append, hx']
  simp

/-- What the walk over a tree tells and leaves. -/
def WPost (J : List (Nat × VT) → World → Prop) (Jx : World → Prop) (n₁ : Nat) (pre L : List (Nat × VT)) (W : World) (e : Ending) (W' : World) : Prop :=
  e = .returned (.bool (passes pre L)) ∧ (passes pre L = true → J (pre ++ L) W') ∧ (passes pre L = false → Jx W') ∧ Keep n₁ W W'
def YPost (J : List (Nat × VT) → World → Prop) (Jx : World → Prop) (n₁ : Nat) (pre : List (Nat × VT)) (x : Nat × VT) (W : World) (e : Ending) (W' : World) : Prop :=
  e = .returned (.bool (stepOK pre x)) ∧ (stepOK pre x = true → J (pre ++ [x]) W') ∧ (stepOK pre x = false → Jx W') ∧ Keep n₁ W W'
theorem WPost.yes {J : List (Nat × VT) → World → Prop} {Jx : World → Prop} {n₁ : Nat} {pre L : List (Nat × VT)} {W W' : World} (h : passes pre L = true) (hj : J (pre ++ L) W') (hk : Keep n₁ W W') : WPost J Jx n₁ pre L W (.returned (.bool true)) W' :=
  ⟨by rw [h], fun _ => hj, fun e => (by rw [h] at e; cases e), hk⟩
theorem WPost.no {J : List (Nat × VT) → World → Prop} {Jx : World → Prop} {n₁ : Nat} {pre L : List (Nat × VT)} {W W' : World} (h : passes pre L = false) (hj : Jx W') (hk : Keep n₁ W W') : WPost J Jx n₁ pre L W (.returned (.bool false)) W' :=
  ⟨by rw [h], fun e => (by rw [h] at e; cases e), fun _ => hj, hk⟩
theorem step_le {L : List (Nat × VT)} {d : Nat} {T : VT} (h : stepOK L (d, T) = true) : d ≤ 8 := by
  unfold stepOK at h
  rw [Bool.and_eq_true, decide_eq_true_eq, mdL_snoc] at h
  have := h.1
  simp only at this
  omega
end Go.Proofs.Ytinaecmpigenoaa
/-
  Layer 4: nodes, measure.
-/
namespace Go.Proofs.Ytinaecmpigenoaa
open Go.RowKit Go.Shelf
attribute [local go_sem] Oper.semAt_some
set_option linter.unusedVariables false

def NPost (J : List (Nat × VT) → World → Prop) (Jx : World → Prop) (T : VT) (e : Ending) (W' : World) : Prop := (∃ v, e = .returned v) ∧ (T.ok = true → J (T.nodesL 0) W') ∧ (T.ok = false → Jx W')
end Go.Proofs.Ytinaecmpigenoaa
/-
  Layer 4: measure.
-/
namespace Go.Proofs.Ytinaecmpigenoaa
open Go.RowKit Go.Shelf
attribute [local go_sem] Oper.semAt_some
set_option linter.unusedVariables false

/-- The memory between two rounds: n blocks lay when measure began. -/
structure MJ (n : Nat) (w : World) (lp : Obj) (a c : Nat) (b : Bool) (W : World) : Prop where
  b1 : Boxed W (n + 1) 3 (.int .i64 (a : Nat))
  b2 : Boxed W (n + 2) 3 (.int .i64 (c : Nat))
  b3 : Boxed W (n + 3) 4 (.bool b)
  d : W.heap[n + 5]? = some (.deferred (some []))
  r : W.heap[n + 6]? = some lp
  bel : Below n w W
section
variable {n : Nat} {w : World} {lp : Obj} {a c : Nat} {b : Bool} {W W' : World}
theorem mlies {W W' : World} {k : Nat} {o : Obj} (h : W.heap[k]? = some o) (hb : Below W.heap.size W W') : W'.heap[k]? = some o := (hb.block k (Array.getElem?_eq_some_iff.1 h).1).trans h
theorem MJ.lt (h : MJ n w lp a c b W) : n + 6 < W.heap.size := (Array.getElem?_eq_some_iff.1 h.r).1
theorem MJ.later (h : MJ n w lp a c b W) (hb : Below W.heap.size W W') : MJ n w lp a c b W' :=
  ⟨mlies h.b1 hb, mlies h.b2 hb, mlies h.b3 hb, mlies h.d hb, mlies h.r hb, h.bel.trans (hb.mono (by have := h.lt; omega))⟩
theorem MJ.turn (h : MJ n w lp a c b W) (hl : lp.isCells = false) (hw : lp.isWalk = false) (lp' : Obj) : MJ n w lp' a c b (W.putObj (n + 6) lp') := by
  have o : ∀ {k : Nat} {x : Obj}, W.heap[k]? = some x → k ≠ n + 6 → (W.putObj (n + 6) lp').heap[k]? = some x := fun hk hne => (World.putObj_heap_other hne).trans hk
  have hlt := h.lt
  exact ⟨o h.b1 (by omega), o h.b2 (by omega), o h.b3 (by omega), o h.d (by omega), World.putObj_heap_same hlt, h.bel.grown (grownBy_putObj' W (n + 6) lp') (by omega) (fun k e => by cases e; omega)⟩
theorem MJ.setA (h : MJ n w lp a c b W) (a' : Nat) : MJ n w lp a' c b (W.setCell ⟨n + 1, 0, none⟩ (.int .i64 (a' : Nat))) := by
  have f : ∀ {k : Nat} {o : Obj}, W.heap[k]? = some o → k ≠ n + 1 → (W.setCell ⟨n + 1, 0, none⟩ (.int .i64 (a' : Nat))).heap[k]? = some o := fun hX hne => (Below.heap_setCell W _ _ _ hne).trans hX
  exact ⟨Boxed.set _ h.b1, f h.b2 (by omega), f h.b3 (by omega), f h.d (by omega), f h.r (by omega), h.bel.setCell (by show n ≤ n + 1; omega) _⟩
theorem MJ.setC (h : MJ n w lp a c b W) (c' : Nat) : MJ n w lp a c' b (W.setCell ⟨n + 2, 0, none⟩ (.int .i64 (c' : Nat))) := by
  have f : ∀ {k : Nat} {o : Obj}, W.heap[k]? = some o → k ≠ n + 2 → (W.setCell ⟨n + 2, 0, none⟩ (.int .i64 (c' : Nat))).heap[k]? = some o := fun hX hne => (Below.heap_setCell W _ _ _ hne).trans hX
  exact ⟨f h.b1 (by omega), Boxed.set _ h.b2, f h.b3 (by omega), f h.d (by omega), f h.r (by omega), h.bel.setCell (by show n ≤ n + 2; omega) _⟩
theorem MJ.setB (h : MJ n w lp a c b W) (b' : Bool) : MJ n w lp a c b' (W.setCell ⟨n + 3, 0, none⟩ (.bool b')) := by
  have f : ∀ {k : Nat} {o : Obj}, W.heap[k]? = some o → k ≠ n + 3 → (W.setCell ⟨n + 3, 0, none⟩ (.bool b')).heap[k]? = some o := fun hX hne => (Below.heap_setCell W _ _ _ hne).trans hX
  exact ⟨f h.b1 (by omega), f h.b2 (by omega), Boxed.set _ h.b3, f h.d (by omega), f h.r (by omega), h.bel.setCell (by show n ≤ n + 3; omega) _⟩
end
theorem Keep.set {n k : Nat} (W : World) (v : Value) (h : k < n) : Keep n W (W.setCell ⟨k, 0, none⟩ v) := ⟨by rw [size_set]; exact Nat.le_refl _, fun b hb _ => Below.heap_setCell W ⟨k, 0, none⟩ v b (by show b ≠ k; omega)⟩
theorem Keep.put {n k : Nat} (W : World) (o : Obj) (h : k < n) : Keep n W (W.putObj k o) := ⟨(grownBy_putObj' W k o).size, fun b hb _ => World.putObj_heap_other (by omega)⟩

/-- What measure tells. -/
def measR (T : VT) : Value := if T.ok = true then .tuple #[.int .i64 (T.dep : Nat), .int .i64 (T.cnt : Nat), .bool true] else .tuple #[.int .i64 0, .int .i64 0, .bool false]
end Go.Proofs.Ytinaecmpigenoaa
/-
  Layer 4: equal; slices.Equal at strings; slices.EqualFunc at values.
-/
namespace Go.Proofs.Ytinaecmpigenoaa
open Go.RowKit
set_option linter.unusedVariables false

/-- A value without its slices' heads. -/
inductive ET where
  | mk (k n : Int) (s : ByteArray) (keys : List ByteArray) (kids : List ET)
def VT.e : VT → ET | .mk k n s _ _ _ _ _ _ keys kids => .mk k n s keys (kids.attach.map fun x => x.1.e)
termination_by T => SizeOf.sizeOf T
decreasing_by
  have := List.sizeOf_lt_of_mem x.2
  simp only [VT.mk.sizeOf_spec]
  omega
theorem e_mk (k n : Int) (s : ByteArray) (cA : Option Addr) (cn cc : Nat) (kA : Option Addr) (kn kc : Nat) (keys : List ByteArray) (kids : List VT) : (VT.mk k n s cA cn cc kA kn kc keys kids).e = .mk k n s keys (kids.map VT.e) := by
  rw [VT.e, attach_map kids VT.e]
noncomputable def sameV (T T' : VT) : Bool := @decide (T.e = T'.e) (Classical.propDecidable _)
noncomputable def sameVL (l l' : List VT) : Bool := @decide (l.map VT.e = l'.map VT.e) (Classical.propDecidable _)
theorem sameV_iff (T T' : VT) : sameV T T' = true ↔ T.e = T'.e := by unfold sameV; exact @decide_eq_true_iff _ (Classical.propDecidable _)
theorem sameVL_iff (l l' : List VT) : sameVL l l' = true ↔ l.map VT.e = l'.map VT.e := by unfold sameVL; exact @decide_eq_true_iff _ (Classical.propDecidable _)
theorem bool_no {b : Bool} {P : Prop} (h : b = true ↔ P) (hn : ¬ P) : b = false := by cases b; rfl; exact absurd (h.1 rfl) hn
theorem str_ne {s t : ByteArray} (h : s ≠ t) : (s.toList == t.toList) = false := by
  rw [beq_eq_false_iff_ne]
  intro e
  rw [ByteArray.toList_eq, ByteArray.toList_eq] at e
  exact h (ByteArray.ext (Array.toList_inj.1 e))
theorem str_eq (s : ByteArray) : (s.toList == s.toList) = true := by simp

end Go.Proofs.Ytinaecmpigenoaa
/-
  Layer 4: equal; valid, Check, Same, Depth, Nodes.
-/
namespace Go.Proofs.Ytinaecmpigenoaa
open Go.RowKit
set_option linter.unusedVariables false

theorem eke {k n k' n' : Int} {s s' : ByteArray} {keys keys' : List ByteArray} {kids kids' : List VT} {cA kA cA' kA' : Option Addr} {cn cc kn kc cn' cc' kn' kc' : Nat} :
    sameV (.mk k n s cA cn cc kA kn kc keys kids) (.mk k' n' s' cA' cn' cc' kA' kn' kc' keys' kids') = (k == k' && (n == n' && (s.toList == s'.toList && (decide (keys = keys') && sameVL kids kids')))) := by
  rw [Bool.eq_iff_iff, sameV_iff, e_mk, e_mk]
  simp only [ET.mk.injEq, Bool.and_eq_true, beq_iff_eq, decide_eq_true_eq, sameVL_iff]
  constructor
  · rintro ⟨a, b, c, d, e⟩
    exact ⟨a, b, by rw [c], d, e⟩
  · rintro ⟨a, b, c, d, e⟩
    refine ⟨a, b, ?_, d, e⟩
    rw [ByteArray.toList_eq, ByteArray.toList_eq] at c
    exact ByteArray.ext (Array.toList_inj.1 c)

section
set_option maxRecDepth 20000
variable (k n : Int) (s : ByteArray) (cA : Option Addr) (cn cc : Nat) (kA : Option Addr) (kn kc : Nat) (keys : List ByteArray) (kids : List VT) (B : Nat) (w : World)
def VT.depR (T : VT) : Nat := if T.ok = true then T.dep else 0
def VT.cntR (T : VT) : Nat := if T.ok = true then T.cnt else 0
noncomputable def sameR (T T' : VT) : Bool := T.ok && (T'.ok && sameV T T')
end
end Go.Proofs.Ytinaecmpigenoaa
