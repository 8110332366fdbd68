import Derived.Test.YtghmehfmchadoaaDoorGaa
import Derived.Test.YtghmehfmchadoaaDoorRows
import Derived.Deep.QuietTactic
import Derived.BigQuiet
import Derived.BigRegion
import Derived.Lib.Hide
import Derived.Test.YtghmehfmchadoaaDoorChecked
import Derived.RangeFuncNested
import Derived.RangeFuncBound
import Derived.RangeFuncCalls
import Derived.RangeFuncLeaves
import Derived.Shelf.Abstract
import Derived.Shelf.RegionOpen
import Derived.WalkKit
import Derived.OwnWalkIn
import Derived.TacticsInMore
import Derived.LoopNIn
import Derived.LoopIn
import Derived.Stop.RegionWithIn
import Derived.Deep.DeepCutAuto
/-
  Layer 10, plain: files, where they lie, how long they are, which may be. No program in sight.
-/
namespace Go.Proofs.YtghmehfmchadoaaDoor
open Go.RowKit
set_option linter.unusedVariables false

/-- A row of bytes, with its head. -/
structure PcT where
  A : Option Addr
  n : Nat
  c : Nat
  l : List UInt8
def PcT.val (p : PcT) : Value := .slice p.A p.n p.c
structure PcT.Ok (w : World) (B : Nat) (p : PcT) : Prop where
  here : Bytes w B p.A p.n p.l
  nil : p.A = none → p.c = 0
  fits : p.n ≤ p.c
  most : p.c ≤ maxLen
theorem PcT.Ok.later {w w' : World} {B : Nat} {p : PcT} (h : p.Ok w B) (hb : Below B w w') : p.Ok w' B := ⟨h.here.below hb, h.nil, h.fits, h.most⟩
theorem PcT.Ok.more {w : World} {B B' : Nat} {p : PcT} (h : p.Ok w B) (hB : B ≤ B') : p.Ok w B' := ⟨h.here.more hB, h.nil, h.fits, h.most⟩
theorem PcT.Ok.len {w : World} {B : Nat} {p : PcT} (h : p.Ok w B) : p.l.length = p.n := h.here.len
def joinP (L : List PcT) : List UInt8 := L.flatMap (·.l)
theorem joinP_nil : joinP [] = [] := rfl
theorem joinP_cons (p : PcT) (L : List PcT) : joinP (p :: L) = p.l ++ joinP L := by unfold joinP; rw [List.flatMap_cons]
theorem joinP_append (L M : List PcT) : joinP (L ++ M) = joinP L ++ joinP M := by unfold joinP; rw [List.flatMap_append]
theorem joinP_snoc (L : List PcT) (p : PcT) : joinP (L ++ [p]) = joinP L ++ p.l := by rw [joinP_append, joinP_cons, joinP_nil, List.append_nil]
theorem joinP_take {L : List PcT} {k : Nat} {p : PcT} (h : L[k]? = some p) : joinP (L.take (k + 1)) = joinP (L.take k) ++ p.l := by
  rw [List.take_add_one, h]
  exact joinP_snoc _ _

/-- A file, with the heads of its rows. -/
structure FileT where
  F : PcT
  lA : Option Addr
  ln : Nat
  lc : Nat
  L : List PcT
  fuse : Int
  fault : Int
  off : Bool
def FileT.agg (X : FileT) : Value := .agg #[X.F.val, .slice X.lA X.ln X.lc, .int .i64 X.fuse, .int .i64 X.fault, .bool X.off]
def FileT.all (X : FileT) : List UInt8 := X.F.l ++ joinP X.L
structure LieF (w : World) (B : Nat) (X : FileT) : Prop where
  firm : X.F.Ok w B
  row : Shows w B 1 X.lA X.ln (X.L.map PcT.val)
  loose : ∀ p ∈ X.L, p.Ok w B
  nil : X.lA = none → X.lc = 0
  fits : X.ln ≤ X.lc
  most : X.lc ≤ maxLen
  fuse : (Lit.int .i64 X.fuse).wf = true
  fault : (Lit.int .i64 X.fault).wf = true
theorem LieF.later {w w' : World} {B : Nat} {X : FileT} (h : LieF w B X) (hb : Below B w w') : LieF w' B X :=
  ⟨h.firm.later hb, h.row.below hb, fun p hp => (h.loose p hp).later hb, h.nil, h.fits, h.most, h.fuse, h.fault⟩
theorem LieF.more {w : World} {B B' : Nat} {X : FileT} (h : LieF w B X) (hB : B ≤ B') : LieF w B' X :=
  ⟨h.firm.more hB, h.row.more hB, fun p hp => (h.loose p hp).more hB, h.nil, h.fits, h.most, h.fuse, h.fault⟩
theorem LieF.len {w : World} {B : Nat} {X : FileT} (h : LieF w B X) : X.L.length = X.ln := by have := h.row.1; simpa using this
/-- A piece's cell. -/
theorem pc_at {w : World} {B : Nat} {A : Option Addr} {n : Nat} {L : List PcT} (h : Shows w B 1 A n (L.map PcT.val)) {k : Nat} (hk : k < n) : ∃ b off p, A = some ⟨b, off, none⟩ ∧ b < B ∧ L[k]? = some p ∧ w.cell? ⟨b, off + k, none⟩ = some (.slice p.A p.n p.c) := by
  obtain ⟨b, off, rfl, hb, hc⟩ := h.2 (by omega)
  have hl : L.length = n := by have := h.1; simpa using this
  have hp : L[k]? = some (L[k]'(by omega)) := List.getElem?_eq_getElem (by omega)
  exact ⟨b, off, _, rfl, hb, hp, hc k _ (by rw [List.getElem?_map, hp]; rfl)⟩

/-- How long: up to where it is too long. -/
def lenGo : List PcT → Nat → Nat
  | [], n => n
  | p :: L, n => if 524288 < n then n else lenGo L (n + p.n)
def FileT.long (X : FileT) : Nat := lenGo X.L X.F.n
def sumN (L : List PcT) : Nat := (L.map (·.n)).sum
theorem lenGo_over : ∀ (L : List PcT) (n : Nat), 524288 < n → lenGo L n = n
  | [], n, h => rfl
  | p :: L, n, h => by unfold lenGo; rw [if_pos h]
theorem lenGo_is : ∀ (L : List PcT) (n : Nat), (n + sumN L ≤ 524288 → lenGo L n = n + sumN L) ∧ (524288 < n + sumN L → 524288 < lenGo L n)
  | [], n => by simp [lenGo, sumN]
  | p :: L, n => by
    have e : sumN (p :: L) = p.n + sumN L := by simp [sumN]
    obtain ⟨h1, h2⟩ := lenGo_is L (n + p.n)
    rw [e]
    by_cases h : 524288 < n
    · unfold lenGo
      rw [if_pos h]
      exact ⟨fun h' => by omega, fun _ => h⟩
    · unfold lenGo
      rw [if_neg h]
      exact ⟨fun h' => by rw [h1 (by omega)]; omega, fun h' => h2 (by omega)⟩
theorem lenGo_take {L : List PcT} {k : Nat} {p : PcT} {n : Nat} (h : L[k]? = some p) (hn : n + sumN (L.take k) ≤ 524288) : n + sumN (L.take (k + 1)) = n + sumN (L.take k) + p.n := by
  have : sumN (L.take (k + 1)) = sumN (L.take k) + p.n := by
    unfold sumN
    rw [List.take_add_one, h]
    simp
  omega
theorem sumN_len {w : World} {B : Nat} {L : List PcT} (h : ∀ p ∈ L, p.Ok w B) : (joinP L).length = sumN L := by
  induction L with
  | nil => rfl
  | cons p L ih =>
    rw [joinP_cons, List.length_append, ih fun q hq => h q (List.mem_cons_of_mem _ hq), (h p (List.mem_cons_self ..)).len]
    simp [sumN]
/-- May a file be? -/
def FileT.right (X : FileT) : Bool := X.L.all (fun p => !(p.n == 0)) && (decide (-1 ≤ X.fuse) && (decide (-1 ≤ X.fault) && ((!X.off || X.fuse == -1) && decide (X.long ≤ 524288))))
/-- A file by what it is, without the heads. -/
structure FileS where
  firm : List UInt8
  loose : List (List UInt8)
  fuse : Int
  fault : Int
  off : Bool
def FileT.s (X : FileT) : FileS := ⟨X.F.l, X.L.map (·.l), X.fuse, X.fault, X.off⟩
theorem right_all {w : World} {B : Nat} {X : FileT} (h : LieF w B X) (hr : X.right = true) : X.long = X.all.length ∧ X.all.length ≤ 524288 := by
  unfold FileT.right at hr
  simp only [Bool.and_eq_true, decide_eq_true_eq] at hr
  have hl := hr.2.2.2.2
  obtain ⟨h1, h2⟩ := lenGo_is X.L X.F.n
  have e : X.all.length = X.F.n + sumN X.L := by unfold FileT.all; rw [List.length_append, h.firm.len, sumN_len h.loose]
  unfold FileT.long at hl ⊢
  by_cases hs : X.F.n + sumN X.L ≤ 524288
  · rw [h1 hs, e]; exact ⟨rfl, hs⟩
  · have := h2 (by omega); omega
/-- An operation is asked for that brings so many bytes: the file behind that, and what it comes to. -/
def FileS.asked (X : FileS) (long more : Nat) : FileS × Int :=
  if X.off then (X, 10)
  else if 524288 < long + more then (X, 8)
  else if X.fault = 0 then ({ X with fault := -1 }, 9)
  else
    let f1 := if 0 < X.fault then X.fault - 1 else X.fault
    if X.fuse = 0 then ({ X with fault := f1, fuse := -1, off := true }, 10)
    else ({ X with fault := f1, fuse := if 0 < X.fuse then X.fuse - 1 else X.fuse }, 0)
end Go.Proofs.YtghmehfmchadoaaDoor
/-
  Package crc and its reference, function by function: the register.
-/
namespace Go.Proofs.YtghmehfmchadoaaDoor
open Go.RowKit

/-- The table lies in its variable. -/
def Tab (w : World) : Prop := ∀ i, i < 16 → w.cell? ⟨1, i, none⟩ = some (.int .u32 (Crc.tb i : Int))
theorem Tab.lt {w : World} (h : Tab w) : 1 < w.heap.size := World.block_lt_of_cell? w _ (h 0 (by decide))
theorem Tab.below {w w' : World} {B : Nat} (h : Tab w) (hb : Below B w w') (hB : 1 < B) : Tab w' := fun i hi => (hb.cell (p := ⟨1, i, none⟩) hB).trans (h i hi)
theorem Tab.drew {w : World} (h : Tab w) : Tab w.drew := h
theorem Tab.drewN {w : World} (h : Tab w) (k : Nat) : Tab (w.drewN k) := h
theorem Tab.alloc {w : World} (h : Tab w) (o : Obj) : Tab (w.alloc o) := h.below ((Below.refl _ _).alloc (Nat.le_refl _) o) h.lt
theorem Tab.setCell {w : World} (h : Tab w) {p : Addr} (hp : 1 < p.block) (v : Value) : Tab (w.setCell p v) := h.below ((Below.refl _ _).setCell (Nat.le_refl p.block) v) hp

set_option maxHeartbeats 1000000 in
theorem quarter_any (b x s : Nat) (w : World) (htab : Tab w) (hc : w.cell? ⟨b, 0, none⟩ = some (.int .u32 (s : Int))) (hf : w.frozen? ⟨b, 0, none⟩ = false) (hs : s < 4294967296) (hx : x < 256) :
    Calls Tryd.prog 71 #[.pointer (some ⟨b, 0, none⟩), .int .u8 (x : Int)] w fun e w' => e = .returned (.tuple #[]) ∧ (w.setCell ⟨b, 0, none⟩ (.int .u32 (Crc.quarter s x : Int))).drew = w' := by
  have hsx : s ^^^ x < 4294967296 := Nat.xor_lt_two_pow (n := 32) hs (by omega)
  have e1 : bits .xor .u32 (s : Int) (x : Int) = ((s ^^^ x : Nat) : Int) := u32_xor_nat _ _ hs (by omega)
  have e2 : bits .and .u32 ((s ^^^ x : Nat) : Int) 15 = (((s ^^^ x) % 16 : Nat) : Int) := by
    have := u32_and_nat (s ^^^ x) 15 hsx (by decide)
    rw [nat_mask4] at this
    exact this
  have hi : (s ^^^ x) % 16 < 16 := Nat.mod_lt _ (by decide)
  have ht := htab _ hi
  have hv := Crc.tb_lt _ hi
  have e3 : bits .xor .u32 ((s : Int) / 16) ((Crc.tb ((s ^^^ x) % 16) : Nat) : Int) = ((Crc.quarter s x : Nat) : Int) := by
    rw [show ((s : Int) / 16) = ((s / 16 : Nat) : Int) by omega]
    exact u32_xor_nat _ _ (by omega) hv
  clear htab
  generalize Crc.quarter s x = q at *
  generalize Crc.tb ((s ^^^ x) % 16) = v at *
  generalize (s ^^^ x) % 16 = i at *
  generalize (s ^^^ x) = j at *
  go_enter Tryd.func71, Tryd.ntmps71
  go_wp2
  go_region
  go_end0
  exact ⟨rfl, rfl⟩

set_option maxHeartbeats 1000000 in
theorem consume_any (b s : Nat) (c : UInt8) (w : World) (htab : Tab w) (hc : w.cell? ⟨b, 0, none⟩ = some (.int .u32 (s : Int))) (hf : w.frozen? ⟨b, 0, none⟩ = false) (hs : s < 4294967296) (hb : 1 < b) :
    Calls Tryd.prog 63 #[.pointer (some ⟨b, 0, none⟩), .int .u8 (c.toNat : Int)] w fun e w' => e = .returned (.tuple #[]) ∧ Below b w w' ∧ w'.cell? ⟨b, 0, none⟩ = some (.int .u32 (Crc.eat s c : Int)) ∧ w'.frozen? ⟨b, 0, none⟩ = false ∧ w'.heap.size = w.heap.size := by
  have hx := c.toNat_lt
  go_enter Tryd.func63, Tryd.ntmps63
  go_wp2_with fail
  refine (quarter_any b c.toNat s w htab hc hf hs hx).mono ?_
  rintro e w1 ⟨rfl, rfl⟩
  go_wp2_with fail
  have hc2 := cell_set hc (.int .u32 (Crc.quarter s c.toNat : Int))
  have hf2 := (frozen_set w ⟨b, 0, none⟩ ⟨b, 0, none⟩ (.int .u32 (Crc.quarter s c.toNat : Int))).trans hf
  rw [show ((c.toNat : Int) / 16) = ((c.toNat / 16 : Nat) : Int) by omega]
  refine (quarter_any b (c.toNat / 16) _ _ ((htab.setCell hb _).drew) hc2 hf2 (Crc.quarter_lt _ hs) (by omega)).mono ?_
  rintro e w1 ⟨rfl, rfl⟩
  go_wp2
  go_end0
  refine ⟨rfl, (((Below.refl b w).setCell (p := ⟨b, 0, none⟩) (Nat.le_refl b) _).setCell (p := ⟨b, 0, none⟩) (Nat.le_refl b) _).drew.drew, ?_, ?_, ?_⟩
  · rw [← Crc.quarters]
    exact cell_set hc2 _
  · exact (frozen_set _ _ _ _).trans hf2
  · exact (size_set _ _ _).trans (size_set _ _ _)

set_option maxHeartbeats 1000000 in
theorem bit_any (s x : Nat) (w : World) (hs : s < 4294967296) :
    Calls Tryd.prog 68 #[.int .u32 (s : Int), .int .u32 (x : Int)] w fun e w' => e = .returned (.int .u32 (Crc.bit s x : Int)) ∧ w = w' := by
  by_cases h : s % 2 = x
  · have hb : ((s : Int) % 2 != (x : Int)) = false := by simp; omega
    have hr : Crc.bit s x = s / 2 := if_pos h
    have Hr := Lib.hid hr
    clear hr h
    go_enter Tryd.func68, Tryd.ntmps68
    go_wp2
    go_ret
    exact ⟨by rw [Hr.out]; simp, rfl⟩
  · have hb : ((s : Int) % 2 != (x : Int)) = true := by rw [bne_iff_ne]; omega
    have hr : Crc.bit s x = s / 2 ^^^ 2197175160 := if_neg h
    have e1 : bits .xor .u32 ((s : Int) / 2) 2197175160 = ((s / 2 ^^^ 2197175160 : Nat) : Int) := by
      rw [show ((s : Int) / 2) = ((s / 2 : Nat) : Int) by omega]
      exact u32_xor_nat _ _ (by omega) (by decide)
    rw [← hr] at e1
    clear hr h
    go_enter Tryd.func68, Tryd.ntmps68
    go_wp2
    go_ret
    exact ⟨rfl, rfl⟩
theorem not32 (s : Nat) (hs : s < 4294967296) : bits .xor .u32 IntKind.u32.max (s : Int) = ((4294967295 - s : Nat) : Int) := by
  rw [Crc.comp s hs]
  exact u32_xor_nat 4294967295 s (by decide) hs

set_option maxHeartbeats 1000000 in
theorem more_any (A : Option Addr) (n c B : Nat) (l : List UInt8) (s : Nat) (w : World) (htab : Tab w) (h : Bytes w B A n l) (hB : B ≤ w.heap.size) (hs : s < 4294967296) (hn : n ≤ maxLen) :
    Calls Tryd.prog 42 #[.int .u32 (s : Int), .slice A n c] w fun e w' => e = .returned (.int .u32 (Crc.more s l : Int)) ∧ Below w.heap.size w w' := by
  unfold maxLen at hn
  have hmf : ∀ (fn : Fn) (first cap : Array Value) (w : World), (Instr.makeFunc fn first cap).run Tryd.prog w = .ok (.func fn first cap) w := fun _ _ _ _ => rfl
  have hsg : IntKind.u32.signed = false := rfl
  have hnot := not32 s hs
  have hlt0 := htab.lt
  have H0 := Lib.hid h
  have Htab := Lib.hid htab
  clear h htab
  have hu : 4294967295 - s < 4294967296 := by omega
  obtain ⟨u, Hu, hu2⟩ : ∃ u, Hid (u = 4294967295 - s) ∧ u < 4294967296 := ⟨_, Lib.hid rfl, hu⟩
  rw [← Hu.out] at hnot
  clear hu
  go_enter Tryd.func42, Tryd.ntmps42
  go_wp2
  go_loopw [18] (fun i wr => ∃ k t : Nat, k ≤ n ∧ i = .int .i64 k ∧ Hid (t = Crc.take u (l.take k)) ∧ t < 4294967296 ∧ Below w.heap.size w wr ∧ wr.cell? ⟨w.heap.size, 0, none⟩ = some (.int .u32 (t : Int)) ∧ wr.frozen? ⟨w.heap.size, 0, none⟩ = false) (fun i _ => n - (intOf i).toNat)
  case atStart => exact ⟨0, u, Nat.zero_le _, rfl, Lib.hid rfl, hu2, (Below.refl _ _).alloc (Nat.le_refl _) _, by go_simp, by go_simp⟩
  case round =>
    obtain ⟨k, t, hk, rfl, Ht, htl, hbel, hc, hf⟩ := hrel
    by_cases hlt : k < n
    · obtain ⟨b1, o1, rfl, hb1, hc1⟩ := H0.out.cell hlt
      have hc1' := (hbel.cell (p := ⟨b1, o1 + k, none⟩) (by show b1 < _; omega)).trans hc1
      have g1 := at8_lo l k
      have g2 := at8_hi l k
      go_wp2_with fail
      refine (consume_any w.heap.size t (l.getD k 0) _ (Htab.out.below hbel hlt0) hc hf htl hlt0).mono ?_
      rintro e w2 ⟨rfl, hb2, hc2, hf2, _⟩
      go_wp2
      go_roundw
      case rel =>
        refine ⟨k + 1, _, by omega, by go_num, Lib.hid ?_, Crc.eat_lt _ htl, hbel.trans hb2, hc2, hf2⟩
        rw [take_snoc l k (by have := H0.out.len; omega), Crc.take_append, Ht.out, Crc.take_one]
      case measure => simp [intOf]; omega
    · have hk' : k = n := by omega
      have hr : Crc.more s l = 4294967295 - t := by
        have hl := H0.out.len
        rw [Ht.out, Hu.out, List.take_of_length_le (by omega)]
        rfl
      have Hr := Lib.hid hr
      have hnot2 := not32 t htl
      clear hk' hr hnot
      go_wp2
      go_ret
      exact ⟨by rw [Hr.out]; rfl, hbel⟩

set_option maxHeartbeats 1000000 in
theorem sum_any (A : Option Addr) (n c B : Nat) (l : List UInt8) (w : World) (htab : Tab w) (h : Bytes w B A n l) (hB : B ≤ w.heap.size) (hn : n ≤ maxLen) :
    Calls Tryd.prog 43 #[.slice A n c] w fun e w' => e = .returned (.int .u32 (Crc.more 0 l : Int)) ∧ Below w.heap.size w w' := by
  go_enter Tryd.func43, Tryd.ntmps43
  go_wp2_with fail
  refine (more_any A n c B l 0 w htab h hB (by decide) hn).mono ?_
  rintro e w1 ⟨rfl, hb⟩
  go_wp2
  go_ret
  exact ⟨rfl, hb⟩
end Go.Proofs.YtghmehfmchadoaaDoor
/-
  The reference of layer 9, function by function.
-/
namespace Go.Proofs.YtghmehfmchadoaaDoor
open Go.RowKit

set_option maxHeartbeats 1000000 in
theorem take_any (A : Option Addr) (n c B : Nat) (l : List UInt8) (s : Nat) (w : World) (h : Bytes w B A n l) (hs : s < 4294967296) (hn : n ≤ maxLen) :
    Calls Tryd.prog 57 #[.int .u32 (s : Int), .slice A n c] w fun e w' => e = .returned (.int .u32 (Crc.take s l : Int)) ∧ w = w' := by
  unfold maxLen at hn
  have H0 := Lib.hid h
  clear h
  go_enter Tryd.func57, Tryd.ntmps57
  go_wp2
  go_loop [0, 5] (fun x i => ∃ k t : Nat, k ≤ n ∧ i = .int .i64 k ∧ x = .int .u32 t ∧ Hid (t = Crc.take s (l.take k)) ∧ t < 4294967296) (fun _ i => n - (intOf i).toNat)
  case atStart => exact ⟨0, s, Nat.zero_le _, rfl, rfl, Lib.hid rfl, hs⟩
  case round =>
    obtain ⟨k, t, hk, rfl, rfl, Ht, htl⟩ := hrel
    by_cases hlt : k < n
    · obtain ⟨b1, o1, rfl, hb1, hc1⟩ := H0.out.cell hlt
      have g1 := at8_lo l k
      have g2 := at8_hi l k
      go_wp2
      go_loop [0, 6, 7] (fun x y z => ∃ j t' c' : Nat, j ≤ 8 ∧ z = .int .i64 j ∧ x = .int .u32 t' ∧ y = .int .u32 c' ∧ t' < 4294967296 ∧ c' < 256 ∧ Hid (t' ^^^ c' = Crc.stN j (t ^^^ (l.getD k 0).toNat)) ∧ Hid (c' = (l.getD k 0).toNat / 2 ^ j)) (fun _ _ z => 8 - (intOf z).toNat)
      case atStart => exact ⟨0, t, (l.getD k 0).toNat, by omega, rfl, rfl, rfl, htl, (l.getD k 0).toNat_lt, Lib.hid rfl, Lib.hid (by simp)⟩
      case round =>
        obtain ⟨j, t', c', hj, rfl, rfl, rfl, ht', hc', H1, H2⟩ := hrel
        by_cases hlt2 : j < 8
        · go_wp2_with fail
          rw [show ((c' : Int) % 2) = ((c' % 2 : Nat) : Int) by omega]
          refine (bit_any t' (c' % 2) _ ht').mono ?_
          rintro e w1 ⟨rfl, rfl⟩
          go_wp2
          go_round
          case rel =>
            refine ⟨j + 1, _, c' / 2, by omega, by go_num, rfl, by go_num, Crc.bit_lt _ ht', by omega, Lib.hid ?_, Lib.hid ?_⟩
            · rw [Crc.bit_st, H1.out, ← Crc.stN_succ]
            · rw [H2.out, Nat.div_div_eq_div_mul, Nat.pow_succ]
          case measure => simp [intOf]; omega
        · have hj8 : j = 8 := by omega
          have hfin : t' = Crc.take s (l.take (k + 1)) := by
            have e1 := H1.out
            have e2 := H2.out
            have hx := (l.getD k 0).toNat_lt
            rw [hj8] at e1 e2
            have e3 : c' = 0 := by rw [e2]; omega
            rw [e3, Nat.xor_zero] at e1
            rw [take_snoc l k (by have := H0.out.len; omega), Crc.take_append, ← Ht.out, Crc.take_one, e1]
            rfl
          have Hfin := Lib.hid hfin
          clear hfin hj8
          go_wp2
          go_round
          case rel => exact ⟨k + 1, t', by omega, by go_num, rfl, Hfin, ht'⟩
          case measure => simp [intOf]; omega
    · have hk' : k = n := by omega
      have hr : t = Crc.take s l := by
        have hl := H0.out.len
        rw [Ht.out, List.take_of_length_le (by omega)]
      have Hr := Lib.hid hr
      clear hk' hr
      go_wp2
      go_ret
      exact ⟨by rw [← Hr.out]; rfl, rfl⟩

theorem laid_cells (s : Nat) (hs : s < 4294967296) : [Value.int .u8 ((s : Int) % 256), .int .u8 ((s : Int) / 256 % 256), .int .u8 ((s : Int) / 65536 % 256), .int .u8 ((s : Int) / 16777216)] = (Crc.laid s).map bv := by
  have h : ∀ x : Nat, bv (UInt8.ofNat x) = .int .u8 ((x : Int) % 256) := fun x => by
    unfold bv
    rw [UInt8.toNat_ofNat']
    simp
  unfold Crc.laid
  simp only [List.map_cons, List.map_nil, h]
  rw [show ((s / 256 : Nat) : Int) % 256 = (s : Int) / 256 % 256 by omega, show ((s / 65536 : Nat) : Int) % 256 = (s : Int) / 65536 % 256 by omega, show ((s / 16777216 : Nat) : Int) % 256 = (s : Int) / 16777216 by omega]
theorem laid_gives (s : Nat) (w : World) (hs : s < 4294967296) {e : Ending} (he : e = .returned (.slice (some ⟨w.heap.size, 0, none⟩) 4 4)) :
    GivesBytes 5 (Crc.laid s) w e (w.alloc (.cells #[.int .u8 ((s : Int) % 256), .int .u8 ((s : Int) / 256 % 256), .int .u8 ((s : Int) / 65536 % 256), .int .u8 ((s : Int) / 16777216)] 5)) := by
  refine ⟨_, 4, 4, he, ?_, (Below.refl _ _).alloc (Nat.le_refl _) _⟩
  rw [← laid_cells s hs]
  exact World.ownsRow_lit (size := 1) w #[.int .u8 ((s : Int) % 256), .int .u8 ((s : Int) / 256 % 256), .int .u8 ((s : Int) / 65536 % 256), .int .u8 ((s : Int) / 16777216)] 4 (Nat.le_refl _) (by unfold maxLen; omega) rfl

set_option maxHeartbeats 1000000 in
theorem laid_any (s : Nat) (w : World) (hs : s < 4294967296) :
    Calls Tryd.prog 37 #[.int .u32 (s : Int)] w (GivesBytes 5 (Crc.laid s) w) := by
  go_enter Tryd.func37, Tryd.ntmps37
  go_wp2
  go_ret
  exact laid_gives s w hs rfl

set_option maxHeartbeats 1000000 in
theorem refmore_any (A : Option Addr) (n c B : Nat) (l : List UInt8) (s : Nat) (w : World) (h : Bytes w B A n l) (hs : s < 4294967296) (hn : n ≤ maxLen) :
    Calls Tryd.prog 38 #[.int .u32 (s : Int), .slice A n c] w fun e w' => e = .returned (.int .u32 (Crc.more s l : Int)) ∧ w = w' := by
  have hu : 4294967295 - s < 4294967296 := by omega
  have ht := Crc.take_lt l hu
  have hr : (4294967295 : Int) - (Crc.take (4294967295 - s) l : Int) = (Crc.more s l : Int) := by unfold Crc.more; omega
  have Hr := Lib.hid hr
  clear hr
  go_enter Tryd.func38, Tryd.ntmps38
  go_wp2_with fail
  rw [show ((4294967295 : Int) - (s : Int)) = ((4294967295 - s : Nat) : Int) by omega]
  refine (take_any A n c B l _ w h hu hn).mono ?_
  rintro e w1 ⟨rfl, rfl⟩
  go_wp2
  go_ret
  exact ⟨by rw [← Hr.out]; rfl, rfl⟩
end Go.Proofs.YtghmehfmchadoaaDoor
/-
  append onto a row of the call's own, the source given by 'Shows': nil, empty or not. No program in sight.
-/
namespace Go.Proofs.YtghmehfmchadoaaDoor
open Go.RowKit

section
variable {P : Program} (w : World)

theorem run_append_shows (base : Nat) (t ty e : TypeId) (i : TypeInfo) (z : Value) (size bytes : Nat) (ht : P.underlying t = some (.slice e)) (hi : P.info? e = some i) (hz : i.zero = some z)
    (hsize : i.size = size) (hby : i.bytes = bytes) (hzs : z.cells.size = size) (hsz : 0 < size)
    (v : Value) (n : Nat) (xs : List Value) (hown : w.ownsRow base e size v n xs)
    (B : Nat) (A : Option Addr) (m c : Nat) (news : List Value) (hr : Shows w B size A m news) (h1 : ∀ u ∈ news, u.oneCell' = true)
    (h63 : n + m ≤ maxLen) (hbytes : (n + m) * bytes ≤ 140737488355328) (hbase : base ≤ w.heap.size) :
    ∃ A' c' w', (Builtin.append_ #[t, t] ty #[v, .slice A m c]).run P w = .ok (.slice A' (n + m) c') w' ∧ w'.ownsRow base e size (.slice A' (n + m) c') (n + m) (xs ++ news) ∧ w.grownBy w' v.ownBlock ∧ Below base w w' := by
  have key : ∃ v' w', (Builtin.append_ #[t, t] ty #[v, .slice A m c]).run P w = .ok v' w' ∧ w'.ownsRow base e size v' (n + m) (xs ++ news) ∧ w.grownBy w' v.ownBlock := by
    rcases A with _ | ad
    · have hm : m = 0 := by
        rcases Nat.eq_zero_or_pos m with h0 | h0
        · exact h0
        · obtain ⟨_, _, h, _⟩ := hr.2 h0
          cases h
      subst hm
      have hn : news = [] := List.eq_nil_of_length_eq_zero (by simpa using hr.1)
      subst hn
      refine ⟨v, w, ?_, by simpa using hown, World.grownBy.refl w _⟩
      rcases hown.2 with ⟨rfl, rfl⟩ | ⟨g, cap, cur, rfl, _, _, hnc, _⟩
      · simp [Builtin.append_, run_underlying ht, sizeOf, typeInfo, hi, Builtin.lenOf, Builtin.firstCells]
      · simp [Builtin.append_, run_underlying ht, sizeOf, typeInfo, hi, Builtin.lenOf, Builtin.firstCells, hnc, storeCells]
    · have hcells : ∀ j u, news[j]? = some u → w.cell? (ad.add j) = some u := by
        intro j u hu
        rcases Nat.eq_zero_or_pos m with h0 | h0
        · subst h0
          have hn : news = [] := List.eq_nil_of_length_eq_zero (by simpa using hr.1)
          subst hn
          simp at hu
        · obtain ⟨b, off, h, _, hc⟩ := hr.2 h0
          injection h with h
          subst h
          rw [addr_add]
          exact hc j u hu
      obtain ⟨v', w', hrun, h2, h3, _, _⟩ := run_append_own_at (P := P) w base t ty e i z size bytes ht hi hz hsize hby hzs hsz v n xs hown ad m c news hr.1 hcells h1 h63 hbytes hbase
      exact ⟨v', w', hrun, h2, h3⟩
  obtain ⟨v', w', hrun, h2, h3⟩ := key
  obtain ⟨A', c', rfl, _, _⟩ := own_form h2
  exact ⟨A', c', w', hrun, h2, h3, (Below.refl base w).grown h3 hbase fun k hk => (hown.lt k hk).1⟩

theorem wp_append_shows {o : Oper} {a : Act} {K : Act → World → Prop} {Q : Exit → Act → World → Prop} (s x : Operand) (t : TypeId)
    (ho : o.op = .call { callee := .builtin .append, args := #[s, x], argTypes := #[t, t] })
    (base : Nat) (e : TypeId) (i : TypeInfo) (z : Value) (size bytes : Nat) (ht : P.underlying t = some (.slice e)) (hi : P.info? e = some i) (hz : i.zero = some z)
    (hsize : i.size = size) (hby : i.bytes = bytes) (hzs : z.cells.size = size) (hsz : 0 < size)
    (v : Value) (n : Nat) (xs : List Value) (hs : a.eval s = v) (hown : w.ownsRow base e size v n xs)
    (B : Nat) (A : Option Addr) (m c : Nat) (news : List Value) (hx : a.eval x = .slice A m c) (hr : Shows w B size A m news) (h1 : ∀ u ∈ news, u.oneCell' = true)
    (h63 : n + m ≤ maxLen) (hbytes : (n + m) * bytes ≤ 140737488355328) (hbase : base ≤ w.heap.size)
    (h : ∀ A' c' w', w'.ownsRow base e size (.slice A' (n + m) c') (n + m) (xs ++ news) → w.grownBy w' v.ownBlock → Below base w w' → K (a.put o.dst (.slice A' (n + m) c')) w') :
    o.wp P a w K Q := by
  obtain ⟨A', c', w', hrun, h2, h3, h4⟩ := run_append_shows (P := P) w base t o.type e i z size bytes ht hi hz hsize hby hzs hsz v n xs hown B A m c news hr h1 h63 hbytes hbase
  unfold Oper.wp execOp
  simp only [ho, resolve, invoke, builtin, Sem.run_bind, Sem.run_pure, Result.andThen_ok, List.map_toArray, List.map_cons, List.map_nil, hs, hx, hrun]
  exact h A' c' w' h2 h3 h4

theorem wpList_append_shows {ops : Array Oper} {rest : List Oper} {o : Oper} {a : Act} {Q : Exit → Act → World → Prop} (hgd : o.guard = none) (s x : Operand) (t : TypeId)
    (ho : o.op = .call { callee := .builtin .append, args := #[s, x], argTypes := #[t, t] })
    (base : Nat) (e : TypeId) (i : TypeInfo) (z : Value) (size bytes : Nat) (ht : P.underlying t = some (.slice e)) (hi : P.info? e = some i) (hz : i.zero = some z)
    (hsize : i.size = size) (hby : i.bytes = bytes) (hzs : z.cells.size = size) (hsz : 0 < size)
    (v : Value) (n : Nat) (xs : List Value) (hs : a.eval s = v) (hown : w.ownsRow base e size v n xs)
    (B : Nat) (A : Option Addr) (m c : Nat) (news : List Value) (hx : a.eval x = .slice A m c) (hr : Shows w B size A m news) (h1 : ∀ u ∈ news, u.oneCell' = true)
    (h63 : n + m ≤ maxLen) (hbytes : (n + m) * bytes ≤ 140737488355328) (hbase : base ≤ w.heap.size)
    (h : ∀ A' c' w', w'.ownsRow base e size (.slice A' (n + m) c') (n + m) (xs ++ news) → w.grownBy w' v.ownBlock → Below base w w' → wpList P ops Q rest (a.put o.dst (.slice A' (n + m) c')) w') :
    wpList P ops Q (o :: rest) a w :=
  wpList_plain hgd fun _ hK => wp_append_shows w s x t ho base e i z size bytes ht hi hz hsize hby hzs hsz v n xs hs hown B A m c news hx hr h1 h63 hbytes hbase fun A' c' w' h2 h3 h4 => hK _ _ (h A' c' w' h2 h3 h4)

theorem step_append_shows {ops : Array Oper} {o : Oper} {a : Act} {K : Act → World → Prop} {Q : Exit → Act → World → Prop} {E : Prop} (hgd : o.guard = none) (s x : Operand) (t : TypeId)
    (ho : o.op = .call { callee := .builtin .append, args := #[s, x], argTypes := #[t, t] })
    (base : Nat) (e : TypeId) (i : TypeInfo) (z : Value) (size bytes : Nat) (ht : P.underlying t = some (.slice e)) (hi : P.info? e = some i) (hz : i.zero = some z)
    (hsize : i.size = size) (hby : i.bytes = bytes) (hzs : z.cells.size = size) (hsz : 0 < size)
    (v : Value) (n : Nat) (xs : List Value) (hs : a.eval s = v) (hown : w.ownsRow base e size v n xs)
    (B : Nat) (A : Option Addr) (m c : Nat) (news : List Value) (hx : a.eval x = .slice A m c) (hr : Shows w B size A m news) (h1 : ∀ u ∈ news, u.oneCell' = true)
    (h63 : n + m ≤ maxLen) (hbytes : (n + m) * bytes ≤ 140737488355328) (hbase : base ≤ w.heap.size)
    (h : ∀ A' c' w', w'.ownsRow base e size (.slice A' (n + m) c') (n + m) (xs ++ news) → w.grownBy w' v.ownBlock → Below base w w' → K (a.put o.dst (.slice A' (n + m) c')) w') :
    if Region.wanted o (yielded ops a.tmps) = true then Oper.wp P o a w K Q else E := by
  have hw : Region.wanted o (yielded ops a.tmps) = true := by simp [Region.wanted, hgd]
  rw [if_pos hw]
  exact wp_append_shows w s x t ho base e i z size bytes ht hi hz hsize hby hzs hsz v n xs hs hown B A m c news hx hr h1 h63 hbytes hbase h
end
end Go.Proofs.YtghmehfmchadoaaDoor
/-
  make and copy on rows of the call's own. No program in sight.
-/
namespace Go.Proofs.YtghmehfmchadoaaDoor
open Go.RowKit

section
variable {w : World} {base : Nat} {e : TypeId} {size : Nat}
theorem own_made (w : World) (cs : Array Value) (n cap : Nat) (hb : base ≤ w.heap.size) (hn : n ≤ cap) (hm : cap ≤ maxLen) (hs : cs.size = cap * size) :
    (w.alloc (.cells cs e)).ownsRow base e size (.slice (some ⟨w.heap.size, 0, none⟩) n cap) n (cs.toList.take (n * size)) :=
  ⟨by rw [List.length_take, Array.length_toList, hs]; exact Nat.min_eq_left (Nat.mul_le_mul_right _ hn), .inr ⟨w.heap.size, cap, cs, rfl, hb, heap_alloc_new w _, hn, hm, hs, rfl⟩⟩
theorem own_zeros (w : World) (z : Value) (n cap : Nat) (hb : base ≤ w.heap.size) (hn : n ≤ cap) (hm : cap ≤ maxLen) :
    (w.alloc (.cells (madeCells #[z] cap) e)).ownsRow base e 1 (.slice (some ⟨w.heap.size, 0, none⟩) n cap) n (List.replicate n z) := by
  have h := own_made (base := base) (e := e) (size := 1) w (madeCells #[z] cap) n cap hb hn hm (by rw [size_madeCells, Nat.mul_one])
  rw [toList_madeCells_one, List.take_replicate, Nat.mul_one, Nat.min_eq_left hn] at h
  exact h
end

section
variable {P : Program} {w : World}
/-- 'make' of a slice of elements of one cell. -/
theorem run_make_one {t e : TypeId} {i : TypeInfo} {z : Value} (ht : P.underlying t = some (.slice e)) (hi : P.info? e = some i) (hz : i.zero = some z) (hz1 : z.cells = #[z]) (h1 : i.size = 1)
    (kl kc : IntKind) (l c : Int) (h0 : 0 ≤ l) (hlc : l ≤ c) (hbytes : (i.bytes : Int) * c ≤ 281474976710656) (h63 : c ≤ 9223372036854775807) (w : World) :
    (Instr.makeSlice t (.int kl l) (.int kc c)).run P w = .ok (.slice (some ⟨w.heap.size, 0, none⟩) l.toNat c.toNat) (w.alloc (.cells (madeCells #[z] c.toNat) e)) := by
  have h := run_make (P := P) w t e i z ht hi hz kl kc l c h0 hlc hbytes h63
  rw [hz1, h1, Nat.mul_one] at h
  exact h

theorem splice_take {α : Type} (L cs : List α) (off n : Nat) (h : off + cs.length ≤ n) (hn : n ≤ L.length) : (splice L off cs).take n = splice (L.take n) off cs := by
  unfold splice
  rw [List.take_append, List.take_append, List.length_take, Nat.min_eq_left (by omega), List.take_of_length_le (l := L.take off) (by rw [List.length_take]; omega), List.take_of_length_le (l := cs) (by omega), List.take_take, Nat.min_eq_left (by omega), List.drop_take]
  congr 3
  omega

/-- 'copy' into a row of the call's own. -/
theorem wp_copy_shows {o : Oper} {a : Act} {K : Act → World → Prop} {Q : Exit → Act → World → Prop} (d s : Operand) (dT sT : TypeId)
    (ho : o.op = .call { callee := .builtin .copy, args := #[d, s], argTypes := #[dT, sT] }) (elem : TypeId) (hu : P.underlying dT = some (.slice elem)) (hsz : (P.info? elem).map (·.size) = some 1)
    (base : Nat) (e : TypeId) (g n cap : Nat) (xs : List Value) (hown : w.ownsRow base e 1 (.slice (some ⟨g, 0, none⟩) n cap) n xs)
    (off : Nat) (dp : Option Addr) (dLen dCap : Nat) (hd : a.eval d = .slice dp dLen dCap) (hdp : 0 < dLen → dp = some ⟨g, off, none⟩) (hfit : off + dLen ≤ n)
    (B : Nat) (sp : Option Addr) (sLen sCap : Nat) (news : List Value) (hs : a.eval s = .slice sp sLen sCap) (hr : Shows w B 1 sp sLen news) (h1 : ∀ v ∈ news, v.oneCell' = true)
    (h : ∀ w', w'.ownsRow base e 1 (.slice (some ⟨g, 0, none⟩) n cap) n (splice xs off (news.take dLen)) → w.grownBy w' (some g) → Below base w w' → K (a.put o.dst (goInt ((min sLen dLen : Nat) : Int))) w') :
    o.wp P a w K Q := by
  obtain ⟨hlen, hform⟩ := hown
  rcases hform with ⟨h', _⟩ | ⟨g', cap', cur, h', hbg, hg, hnc, hcm, hcs, htake⟩
  · simp at h'
  · simp only [Value.slice.injEq, Option.some.injEq, Addr.mk.injEq, and_true, true_and] at h'
    obtain ⟨rfl, rfl⟩ := h'
    have hl : (news.take dLen).length = Nat.min sLen dLen := by
      rw [List.length_take, hr.1, Nat.mul_one]
      exact Nat.min_comm _ _
    have hle : (news.take dLen).length ≤ dLen := by rw [hl]; exact Nat.min_le_right _ _
    have hcl : cur.toList.length = cap := by rw [Array.length_toList, hcs, Nat.mul_one]
    have e0 : (goInt ((news.take dLen).length : Nat)) = goInt ((min sLen dLen : Nat) : Int) := by rw [hl]
    by_cases hz : (news.take dLen).length = 0
    · have hrun := run_copy_none (P := P) w dT sT o.type elem dp sp dLen dCap sLen sCap hu hsz (by rw [← hl]; exact hz)
      have hnil : news.take dLen = [] := List.eq_nil_of_length_eq_zero hz
      have hm0 : min sLen dLen = 0 := by rw [hl] at hz; exact hz
      unfold Oper.wp
      simp [execOp, ho, resolve, invoke, builtin, hd, hs, hrun, Result.andThen]
      have hx := h w ⟨by rw [hnil]; simpa [splice] using hlen, .inr ⟨g, cap, cur, rfl, hbg, hg, hnc, hcm, hcs, by rw [hnil]; simpa [splice] using htake⟩⟩ (World.grownBy.refl w _) (Below.refl _ _)
      rw [hm0] at hx
      exact hx
    · have hpos : 0 < Nat.min sLen dLen := by omega
      have hs0 : 0 < sLen := Nat.lt_of_lt_of_le hpos (Nat.min_le_left _ _)
      have hd0 : 0 < dLen := Nat.lt_of_lt_of_le hpos (Nat.min_le_right _ _)
      obtain rfl := hdp hd0
      obtain ⟨b, so, rfl, _, hc⟩ := hr.2 hs0
      have hrun := run_copy_row (P := P) w dT sT o.type elem g off dLen dCap ⟨b, so, none⟩ sLen sCap cur e (news.take dLen) hu hsz hg hl
        (fun j v hj => by
          rw [addr_add]
          rw [List.getElem?_take] at hj
          split at hj
          · exact hc j v hj
          · cases hj) (by rw [hcs]; omega) (fun v hv => h1 v (List.mem_of_mem_take hv))
      unfold Oper.wp
      simp only [execOp, ho, resolve, invoke, builtin, hd, hs, hrun, Sem.run_bind, Sem.run_pure, Result.andThen_ok, List.map_toArray, List.map_cons, List.map_nil]
      rw [e0]
      refine (h _ ⟨?_, .inr ⟨g, cap, _, rfl, hbg, setRow_heap w g cur _ e _ hg, hnc, hcm, ?_, ?_⟩⟩ ?_ ?_)
      · rw [length_splice _ _ _ (by omega), hlen]
      · have := length_splice cur.toList off (news.take dLen) (by omega)
        unfold splice at this
        rw [← List.append_assoc] at this
        simp only [List.size_toArray]
        omega
      · have := splice_take cur.toList (news.take dLen) off (n * 1) (by omega) (by omega)
        rw [htake] at this
        unfold splice at this ⊢
        rw [← List.append_assoc] at this
        exact this
      · exact ⟨rfl, rfl, rfl, by simp [World.setRow], fun k _ hk => setRow_other w g k _ (fun e => hk (by simp [e]))⟩
      · exact below_setRow (Below.refl _ _) hbg _

theorem wpList_copy_shows {ops : Array Oper} {rest : List Oper} {o : Oper} {a : Act} {Q : Exit → Act → World → Prop} (hgd : o.guard = none) (d s : Operand) (dT sT : TypeId)
    (ho : o.op = .call { callee := .builtin .copy, args := #[d, s], argTypes := #[dT, sT] }) (elem : TypeId) (hu : P.underlying dT = some (.slice elem)) (hsz : (P.info? elem).map (·.size) = some 1)
    (base : Nat) (e : TypeId) (g n cap : Nat) (xs : List Value) (hown : w.ownsRow base e 1 (.slice (some ⟨g, 0, none⟩) n cap) n xs)
    (off : Nat) (dp : Option Addr) (dLen dCap : Nat) (hd : a.eval d = .slice dp dLen dCap) (hdp : 0 < dLen → dp = some ⟨g, off, none⟩) (hfit : off + dLen ≤ n)
    (B : Nat) (sp : Option Addr) (sLen sCap : Nat) (news : List Value) (hs : a.eval s = .slice sp sLen sCap) (hr : Shows w B 1 sp sLen news) (h1 : ∀ v ∈ news, v.oneCell' = true)
    (h : ∀ w', w'.ownsRow base e 1 (.slice (some ⟨g, 0, none⟩) n cap) n (splice xs off (news.take dLen)) → w.grownBy w' (some g) → Below base w w' → wpList P ops Q rest (a.put o.dst (goInt ((min sLen dLen : Nat) : Int))) w') :
    wpList P ops Q (o :: rest) a w :=
  wpList_plain hgd fun _ hK => wp_copy_shows d s dT sT ho elem hu hsz base e g n cap xs hown off dp dLen dCap hd hdp hfit B sp sLen sCap news hs hr h1 fun w' h2 h3 h4 => hK _ _ (h w' h2 h3 h4)

theorem step_copy_shows {ops : Array Oper} {o : Oper} {a : Act} {K : Act → World → Prop} {Q : Exit → Act → World → Prop} {E : Prop} (hgd : o.guard = none) (d s : Operand) (dT sT : TypeId)
    (ho : o.op = .call { callee := .builtin .copy, args := #[d, s], argTypes := #[dT, sT] }) (elem : TypeId) (hu : P.underlying dT = some (.slice elem)) (hsz : (P.info? elem).map (·.size) = some 1)
    (base : Nat) (e : TypeId) (g n cap : Nat) (xs : List Value) (hown : w.ownsRow base e 1 (.slice (some ⟨g, 0, none⟩) n cap) n xs)
    (off : Nat) (dp : Option Addr) (dLen dCap : Nat) (hd : a.eval d = .slice dp dLen dCap) (hdp : 0 < dLen → dp = some ⟨g, off, none⟩) (hfit : off + dLen ≤ n)
    (B : Nat) (sp : Option Addr) (sLen sCap : Nat) (news : List Value) (hs : a.eval s = .slice sp sLen sCap) (hr : Shows w B 1 sp sLen news) (h1 : ∀ v ∈ news, v.oneCell' = true)
    (h : ∀ w', w'.ownsRow base e 1 (.slice (some ⟨g, 0, none⟩) n cap) n (splice xs off (news.take dLen)) → w.grownBy w' (some g) → Below base w w' → K (a.put o.dst (goInt ((min sLen dLen : Nat) : Int))) w') :
    if Region.wanted o (yielded ops a.tmps) = true then Oper.wp P o a w K Q else E := by
  have hw : Region.wanted o (yielded ops a.tmps) = true := by simp [Region.wanted, hgd]
  rw [if_pos hw]
  exact wp_copy_shows d s dT sT ho elem hu hsz base e g n cap xs hown off dp dLen dCap hd hdp hfit B sp sLen sCap news hs hr h1 h
end
end Go.Proofs.YtghmehfmchadoaaDoor
namespace Go.Proofs.YtghmehfmchadoaaDoor
open Go.RowKit

theorem bytes_nil {w : World} {B n : Nat} {l : List UInt8} (h : Bytes w B none n l) : n = 0 ∧ l = [] := by
  have hn0 : n = 0 := by
    rcases Nat.eq_zero_or_pos n with h0 | h0
    · exact h0
    · obtain ⟨_, _, h, _⟩ := h.2 h0
      cases h
  exact ⟨hn0, List.eq_nil_of_length_eq_zero (by rw [h.len, hn0])⟩

set_option maxRecDepth 20000 in
theorem u8_info : ∃ i, Tryd.prog.info? 5 = some i ∧ i.zero = some (.int .u8 0) ∧ i.size = 1 ∧ i.bytes = 1 := ⟨Tryd.t5, by kernel_rfl, by kernel_rfl, by kernel_rfl, by kernel_rfl⟩

set_option maxRecDepth 20000 in
set_option maxHeartbeats 1000000 in
theorem clone_any (A : Option Addr) (n c : Nat) (l : List UInt8) (B : Nat) (w : World) (h : Bytes w B A n l) (hA : A = none → c = 0) (hB : B ≤ w.heap.size) (hn : n ≤ 140737488355328) :
    Calls Tryd.prog 29 #[.slice A n c] w (GivesBytes 5 l w) := by
  have hnil := fun (W : World) (a : Option Addr) (n c : Nat) => Lib.run_eql_slice_nil (P := Tryd.prog) W 22 5 a n c 0 0 Tryd.underlying22
  rcases A with _ | a
  · obtain rfl := hA rfl
    obtain ⟨rfl, rfl⟩ := bytes_nil h
    go_enter Tryd.func29, Tryd.ntmps29
    go_wp2
    go_ret
    exact ⟨none, 0, 0, rfl, World.ownsRow_nil _ _ _ _, Below.refl _ _⟩
  · obtain ⟨i0, hi, hz0, hz1, hz2⟩ := u8_info
    have hown := World.ownsRow_made (base := w.heap.size) (e := 5) (size := 1) w #[] 0 (Nat.le_refl _) (Nat.zero_le _) rfl
    have hs := (h.more hB).alloc (Nat.le_refl _) (.cells #[] 5)
    go_enter Tryd.func29, Tryd.ntmps29
    go_wp2_with (at_builtin; refine wpList_append_shows _ rfl _ _ _ rfl w.heap.size 5 i0 (.int .u8 0) 1 1 Tryd.underlying22 hi hz0 hz1 hz2 rfl (by decide) _ _ _ rfl hown w.heap.size _ _ _ (l.map bv) rfl hs (bv_one l) ?c3 ?c4 ?c5 ?_)
    case c3 => unfold maxLen; omega
    case c4 => omega
    case c5 => simp
    · intro A' c' w1 hown' _ hbel
      go_wp2
      go_ret
      exact ⟨A', n, c', by simp, hown', ((Below.refl _ _).alloc (Nat.le_refl _) _).trans hbel⟩
end Go.Proofs.YtghmehfmchadoaaDoor
/-
  Layer 11: the encoding of a record.
-/
namespace Go.Proofs.YtghmehfmchadoaaDoor
open Go.RowKit
set_option linter.unusedVariables false

theorem size_cells (n : Nat) (h : n ≤ 4096) : [Value.int .u8 ((n : Int) / 256), .int .u8 ((n : Int) % 256)] = (Fra.sizeL n).map bv := by
  have hx : ∀ x : Nat, bv (UInt8.ofNat x) = .int .u8 ((x : Int) % 256) := fun x => by
    unfold bv
    rw [UInt8.toNat_ofNat']
    simp
  unfold Fra.sizeL
  simp only [List.map_cons, List.map_nil, hx]
  rw [show ((n / 256 : Nat) : Int) % 256 = (n : Int) / 256 by omega]
theorem more_append (s : Nat) (l m : List UInt8) (hs : s < 4294967296) : Crc.more (Crc.more s l) m = Crc.more s (l ++ m) := by
  unfold Crc.more
  rw [Crc.take_append]
  congr 2
  have := Crc.take_lt l (s := 4294967295 - s) (by omega)
  omega

set_option maxRecDepth 20000 in
set_option maxHeartbeats 2000000 in
theorem encoding_any (p : PcT) (B : Nat) (w : World) (htab : Tab w) (hp : p.Ok w B) (hB : B ≤ w.heap.size) (hn : p.n ≤ 4096) :
    Calls Tryd.prog 54 #[.slice p.A p.n p.c] w (GivesBytes 5 (Fra.encL p.l) w) := by
  obtain ⟨i0, hi, hz0, hz1, hz2⟩ := u8_info
  have hmk := fun W => run_make_one (P := Tryd.prog) Tryd.underlying22 hi hz0 rfl hz1 .i64 .i64 0 ((p.n : Int) + 6) (by omega) (by omega) (by rw [hz2]; omega) (by omega) W
  have hmk' := fun W => run_make_one (P := Tryd.prog) Tryd.underlying22 hi hz0 rfl hz1 .i64 .i64 0 (6 + (p.n : Int)) (by omega) (by omega) (by rw [hz2]; omega) (by omega) W
  rw [show (0 : Int).toNat = 0 from rfl, show (6 + (p.n : Int)).toNat = 6 + p.n by omega] at hmk'
  clear hmk
  obtain ⟨C, hC⟩ : ∃ C : List UInt8, C = Fra.sizeL p.n := ⟨_, rfl⟩
  have hcs := size_cells p.n hn
  rw [← hC] at hcs
  have hsz := Lib.hid (bytes_new w C #[.int .u8 ((p.n : Int) / 256), .int .u8 ((p.n : Int) % 256)] 5 (0, 0) hcs)
  have hCl : C.length = 2 := by rw [hC]; rfl
  have HE := Lib.hid (show Fra.encL p.l = C ++ (Crc.laid (Crc.more (Crc.more 0 C) p.l) ++ p.l) by
    unfold Fra.encL
    rw [hp.len, ← hC, more_append 0 C p.l (by omega)])
  rw [hCl] at hsz
  have HP := Lib.hid hp
  have htab1 := htab.alloc (.cells #[.int .u8 ((p.n : Int) / 256), .int .u8 ((p.n : Int) % 256)] 5)
  have hbw := bel_alloc (Below.refl w.heap.size w) (.cells #[.int .u8 ((p.n : Int) / 256), .int .u8 ((p.n : Int) % 256)] 5)
  have hs1 : w.heap.size + 1 ≤ (w.alloc (.cells #[.int .u8 ((p.n : Int) / 256), .int .u8 ((p.n : Int) % 256)] 5)).heap.size := by rw [World.size_alloc]; omega
  have Hcl := Lib.hid hCl
  have Htl := Lib.hid htab
  clear hC hcs hp htab hCl
  go_enter Tryd.func54, Tryd.ntmps54
  go_wp2_with fail
  generalize w.alloc (.cells #[.int .u8 ((p.n : Int) / 256), .int .u8 ((p.n : Int) % 256)] 5) = W1 at *
  refine (sum_any _ 2 2 _ C W1 htab1 hsz.out hs1 (by unfold maxLen; omega)).mono ?_
  rintro e W2 ⟨rfl, hb2⟩
  go_wp2_with fail
  refine (more_any p.A p.n p.c w.heap.size p.l (Crc.more 0 C) W2 (htab1.below hb2 htab1.lt) ((HP.out.here.more hB).below (hbw.trans (hb2.mono hbw.size))) (by have := hb2.size; omega) (Crc.more_lt 0 C) (by unfold maxLen; omega)).mono ?_
  rintro e W3 ⟨rfl, hb3⟩
  have hb4 := bel_next hb2 hb3
  have hb5 := bel_alloc (bel_next hbw hb4) (.cells (madeCells #[.int .u8 0] (6 + p.n)) 5)
  have own0 := own_zeros (base := w.heap.size) (e := 5) W3 (.int .u8 0) 0 (6 + p.n) (by have := hb4.size; omega) (by omega) (by unfold maxLen; omega)
  rw [List.replicate_zero] at own0
  have hS1 := Lib.hid ((hsz.out.more hs1).below (hb4.alloc hb4.size (.cells (madeCells #[.int .u8 0] (6 + p.n)) 5)))
  have hz3 : w.heap.size ≤ (W3.alloc (.cells (madeCells #[.int .u8 0] (6 + p.n)) 5)).heap.size := hb5.size
  obtain ⟨s, hs⟩ : ∃ s, Crc.more (Crc.more 0 C) p.l = s := ⟨_, rfl⟩
  have hsl : s < 4294967296 := by rw [← hs]; exact Crc.more_lt _ _
  rw [hs]
  have Hs := Lib.hid hs
  clear hb2 hb3 hb4 hbw hs1 hsz htab1 hs
  go_wp2_with (first
    | (at_builtin; go_must (refine wpList_append_shows (o := ⟨some 24, _, _, _, _, _⟩) _ rfl (.tmp 22) (.tmp 23) _ rfl w.heap.size 5 i0 (.int .u8 0) 1 1 Tryd.underlying22 hi hz0 hz1 hz2 rfl (by decide) _ _ _ rfl own0 W1.heap.size _ _ _ (C.map bv) rfl hS1.out (bv_one _) ?c3 ?c4 ?c5 ?_)))
  case c3 => unfold maxLen; omega
  case c4 => omega
  case c5 => exact hz3
  intro A4 c4 W4 own1 hg4 hb6
  replace own1 : W4.ownsRow w.heap.size 5 1 (.slice A4 2 c4) 2 (C.map bv) := by simpa using own1
  have hlc := laid_cells s hsl
  have hbn := bytes_new W4 (Crc.laid s) #[.int .u8 ((s : Int) % 256), .int .u8 ((s : Int) / 256 % 256), .int .u8 ((s : Int) / 65536 % 256), .int .u8 ((s : Int) / 16777216)] 5 (0, 0) hlc
  rw [show (Crc.laid s).length = 4 from rfl] at hbn
  have Hbn := Lib.hid hbn
  have hb7 := (hb5.trans hb6).alloc (Nat.le_trans hz3 hb6.size) (.cells #[.int .u8 ((s : Int) % 256), .int .u8 ((s : Int) / 256 % 256), .int .u8 ((s : Int) / 65536 % 256), .int .u8 ((s : Int) / 16777216)] 5)
  have hz4 : w.heap.size ≤ (W4.alloc (.cells #[.int .u8 ((s : Int) % 256), .int .u8 ((s : Int) / 256 % 256), .int .u8 ((s : Int) / 65536 % 256), .int .u8 ((s : Int) / 16777216)] 5)).heap.size := hb7.size
  clear own0 hlc hbn hg4 hb6 hb5 hz3
  go_wp2_with (first
    | (at_builtin; go_must (refine wpList_append_shows (o := ⟨some 38, _, _, _, _, _⟩) _ rfl (.tmp 25) (.tmp 37) _ rfl w.heap.size 5 i0 (.int .u8 0) 1 1 Tryd.underlying22 hi hz0 hz1 hz2 rfl (by decide) _ _ _ rfl (own1.alloc _) (W4.heap.size + 1) _ _ _ ((Crc.laid s).map bv) rfl Hbn.out (bv_one _) ?c3 ?c4 ?c5 ?_)))
  case c3 => unfold maxLen; omega
  case c4 => omega
  case c5 => exact hz4
  intro A5 c5 W5 own2 hg5 hb8
  have hb9 := hb7.trans hb8
  have hS3 := Lib.hid ((HP.out.here.more hB).below hb9)
  have hz5 := hb9.size
  clear own1 Hbn hg5 hb8 hb7 hz4
  go_wp2_with (first
    | (at_builtin; go_must (refine wpList_append_shows (o := ⟨some 41, _, _, _, _, _⟩) _ rfl (.tmp 39) (.tmp 40) _ rfl w.heap.size 5 i0 (.int .u8 0) 1 1 Tryd.underlying22 hi hz0 hz1 hz2 rfl (by decide) _ _ _ rfl own2 w.heap.size _ _ _ (p.l.map bv) rfl hS3.out (bv_one _) ?c3 ?c4 ?c5 ?_)))
  case c3 => unfold maxLen; omega
  case c4 => omega
  case c5 => exact hz5
  intro A6 c6 W6 own3 hg6 hb10
  have hb11 := hb9.trans hb10
  clear own2 hg6 hb10 hb9 hz5 hmk'
  go_wp2
  go_ret
  refine ⟨A6, _, c6, rfl, ?_, hb11⟩
  rw [HE.out, Hs.out, List.map_append, List.map_append]
  exact own3
end Go.Proofs.YtghmehfmchadoaaDoor
/-
  Layer 11: the writer.
-/
namespace Go.Proofs.YtghmehfmchadoaaDoor
open Go.RowKit
set_option linter.unusedVariables false

/-- The writer in block b: it began at s and has put l. -/
def Wt (w : World) (b s : Nat) (l : List UInt8) : Prop :=
  ∃ A c, w.cell? ⟨b, 0, none⟩ = some (.int .i64 (s : Nat)) ∧ w.cell? ⟨b, 1, none⟩ = some (.slice A l.length c) ∧ w.frozen? ⟨b, 1, none⟩ = false ∧ w.ownsRow (b + 1) 5 1 (.slice A l.length c) l.length (l.map bv)
theorem Wt.lt {w : World} {b s : Nat} {l : List UInt8} (h : Wt w b s l) : b < w.heap.size := by
  obtain ⟨A, c, _, h, _⟩ := h
  exact World.block_lt_of_cell? w _ h
theorem Wt.later {w w' : World} {b s : Nat} {l : List UInt8} (h : Wt w b s l) (hb : Below w.heap.size w w') : Wt w' b s l := by
  obtain ⟨A, c, h0, h1, h2, h3⟩ := h
  exact ⟨A, c, kept_later hb h0, kept_later hb h1, froz_later hb h1 h2, own_below h3 hb⟩
theorem Wt.drewN {w : World} {b s : Nat} {l : List UInt8} (h : Wt w b s l) (k : Nat) : Wt (w.drewN k) b s l := h

set_option maxRecDepth 20000 in
theorem end_any (b s : Nat) (l : List UInt8) (w : World) (hw : Wt w b s l) (hl : s + l.length ≤ 2000000) :
    Calls Tryd.prog 50 #[.pointer (some ⟨b, 0, none⟩)] w fun e w' => e = .returned (.int .i64 ((s + l.length : Nat) : Int)) ∧ ∃ k, w' = w.drewN k := by
  obtain ⟨A, c, h0, h1, -, -⟩ := hw
  have hs : IntKind.i64.wrap ((s : Int) + (l.length : Int)) = ((s + l.length : Nat) : Int) := by rw [IntKind.wrap_i64]; omega
  have hs2 : wrap64 ((s : Int) + (l.length : Int)) = ((s + l.length : Nat) : Int) := by unfold wrap64; omega
  clear hl
  go_enter Tryd.func50, Tryd.ntmps50
  go_wp2
  go_quiet (fail)
  go_wp2
  go_ret
  exact ⟨rfl, _, rfl⟩
theorem wt_done {w w2 : World} {b s n : Nat} {l : List UInt8} {x : UInt8} {o : Obj} {A A2 : Option Addr} {c c2 : Nat} (hn : n = l.length) (hbs : b < w.heap.size)
    (h0 : w.cell? ⟨b, 0, none⟩ = some (.int .i64 (s : Nat))) (hb2 : Below (b + 1) (w.alloc o) w2) (hc2 : w2.cell? ⟨b, 1, none⟩ = some (.slice A n c)) (hf2 : w2.frozen? ⟨b, 1, none⟩ = false) (hown2 : w2.ownsRow (b + 1) 5 1 (.slice A2 (n + 1) c2) (n + 1) (l.map bv ++ [bv x])) :
    Wt (w2.setCell ⟨b, 1, none⟩ (.slice A2 (n + 1) c2)) b s (l ++ [x]) ∧ Below b w (w2.setCell ⟨b, 1, none⟩ (.slice A2 (n + 1) c2)) := by
  have h1 : Below (b + 1) w w2 := ((Below.refl (b + 1) w).alloc (by exact hbs) o).trans hb2
  subst hn
  refine ⟨⟨A2, c2, ?_, ?_, (frozen_set _ _ _ _).trans hf2, ?_⟩, (h1.mono (Nat.le_succ b)).setCell (Nat.le_refl b) _⟩
  · refine (World.cell?_setCell_other _ _ _ _ (fun q => by injection q with _ q; omega)).trans ?_
    exact (h1.cell (p := ⟨b, 0, none⟩) (by show b < b + 1; omega)).trans h0
  · rw [List.length_append]; exact cell_set hc2 _
  · rw [List.length_append, List.map_append]
    exact ownsRow_setCell_below hown2 (by show b < b + 1; omega) _
set_option maxRecDepth 20000 in
set_option maxHeartbeats 1000000 in
theorem put_any (b s : Nat) (l : List UInt8) (x : UInt8) (w : World) (hw : Wt w b s l) (hl : l.length ≤ 100000) :
    Calls Tryd.prog 51 #[.pointer (some ⟨b, 0, none⟩), .int .u8 (x.toNat : Int)] w fun e w' => e = .returned (.tuple #[]) ∧ Wt w' b s (l ++ [x]) ∧ Below b w w' := by
  have hbs := hw.lt
  obtain ⟨A, c, h0, hc, hf, hown⟩ := hw
  have H0 := Lib.hid h0
  obtain ⟨i0, hi, hz0, hz1, hz2⟩ := u8_info
  have hbs' : b + 1 ≤ (w.alloc (.cells #[.int .u8 (x.toNat : Int)] 5)).heap.size := by simp; omega
  have hnew := bytes_new w [x] #[.int .u8 (x.toNat : Int)] 5 (0, 0) rfl
  obtain ⟨n, hn⟩ : ∃ n, n = l.length := ⟨_, rfl⟩
  rw [← hn] at hc hown hl
  have Hn := Lib.hid hn
  clear hn h0
  go_enter Tryd.func51, Tryd.ntmps51
  go_wp2_with (first
    | (at_builtin; go_must (refine wpList_append_shows _ rfl _ _ _ rfl (b + 1) 5 i0 (.int .u8 0) 1 1 Tryd.underlying22 hi hz0 hz1 hz2 rfl (by decide) _ _ _ rfl (hown.alloc _) (w.heap.size + 1) _ _ _ ([x].map bv) rfl hnew (bv_one _) ?c3 ?c4 ?c5 ?_)))
  case c3 => unfold maxLen; simp; omega
  case c4 => simp; omega
  case c5 => exact hbs'
  intro A2 c2 w2 hown2 _ hb2
  have hc2 : w2.cell? ⟨b, 1, none⟩ = some (.slice A n c) := (hb2.cell (p := ⟨b, 1, none⟩) (by show b < b + 1; omega)).trans (cell_keep hc _)
  have hf2 : w2.frozen? ⟨b, 1, none⟩ = false := (hb2.frozen (p := ⟨b, 1, none⟩) (by show b < b + 1; omega)).trans ((frozen_keep hc _).trans hf)
  have hd := Lib.hid (wt_done Hn.out hbs H0.out hb2 hc2 hf2 hown2)
  go_wp2
  go_end0
  exact ⟨rfl, hd.out⟩
/-- A mark, where a block begins. -/
def markL (s : Nat) (l : List UInt8) : List UInt8 := if (s + l.length) % 64 = 0 then l ++ [0] else l
set_option maxRecDepth 20000 in
set_option maxHeartbeats 1000000 in
theorem mark_any (b s : Nat) (l : List UInt8) (w : World) (hw : Wt w b s l) (hl : s + l.length ≤ 2000000) (hl2 : l.length ≤ 100000) :
    Calls Tryd.prog 52 #[.pointer (some ⟨b, 0, none⟩)] w fun e w' => e = .returned (.tuple #[]) ∧ Wt w' b s (markL s l) ∧ Below b w w' := by
  by_cases h : (s + l.length) % 64 = 0
  · rw [show markL s l = l ++ [0] from if_pos h]
    have hend := end_any b s l w hw hl
    have hput := fun k => put_any b s l 0 (w.drewN k) (hw.drewN k) hl2
    have h1 : (((s + l.length : Nat) : Int) % 64 == 0) = true := by rw [beq_iff_eq]; omega
    generalize s + l.length = m at *
    go_enter Tryd.func52, Tryd.ntmps52
    go_wp2_with fail
    refine hend.mono ?_
    rintro e w' ⟨rfl, k, rfl⟩
    go_wp2_with fail
    refine (hput k).mono ?_
    rintro e w2 ⟨rfl, h2, hb⟩
    go_wp2
    go_end0
    exact ⟨rfl, h2, below_undrewN hb⟩
  · rw [show markL s l = l from if_neg h]
    have hend := end_any b s l w hw hl
    have hw2 := fun k => hw.drewN k
    have h1 : (((s + l.length : Nat) : Int) % 64 == 0) = false := by rw [beq_eq_false_iff_ne]; omega
    generalize s + l.length = m at *
    go_enter Tryd.func52, Tryd.ntmps52
    go_wp2_with fail
    refine hend.mono ?_
    rintro e w' ⟨rfl, k, rfl⟩
    go_wp2
    go_end0
    exact ⟨rfl, hw2 k, below_drewN (Below.refl _ _) k⟩
theorem lay_one (s : Nat) (l : List UInt8) (x : UInt8) : markL s l ++ [x] = l ++ Fra.layP (s + l.length) [x] := by
  unfold markL
  split
  · rename_i h; rw [Fra.layP_at x [] h, Fra.layP_nil, List.append_assoc]; rfl
  · rename_i h; rw [Fra.layP_in x [] h, Fra.layP_nil]
theorem mark_len (s : Nat) (l : List UInt8) : (markL s l).length ≤ l.length + 1 := by unfold markL; split <;> simp
set_option maxRecDepth 20000 in
set_option maxHeartbeats 1000000 in
theorem wdata_any (b s : Nat) (l : List UInt8) (x : UInt8) (w : World) (hw : Wt w b s l) (hl : s + l.length ≤ 2000000) (hl2 : l.length ≤ 90000) :
    Calls Tryd.prog 53 #[.pointer (some ⟨b, 0, none⟩), .int .u8 (x.toNat : Int)] w fun e w' => e = .returned (.tuple #[]) ∧ Wt w' b s (l ++ Fra.layP (s + l.length) [x]) ∧ Below b w w' := by
  rw [← lay_one]
  have hm := mark_any b s l w hw hl (by omega)
  have hml := mark_len s l
  have hput := fun w' (h : Wt w' b s (markL s l)) => put_any b s (markL s l) x w' h (by omega)
  generalize markL s l = m at *
  have Hput := Lib.hid hput
  clear hput hml hl hl2 hw
  go_enter Tryd.func53, Tryd.ntmps53
  go_wp2_with fail
  refine hm.mono ?_
  rintro e w1 ⟨rfl, h1, hb1⟩
  go_wp2_with fail
  refine (Hput.out w1 h1).mono ?_
  rintro e w2 ⟨rfl, h2, hb2⟩
  go_wp2
  go_end0
  exact ⟨rfl, h2, hb1.trans hb2⟩
end Go.Proofs.YtghmehfmchadoaaDoor
/-
  Layer 10: the iterator over a file's pieces.
-/
namespace Go.Proofs.YtghmehfmchadoaaDoor
open Go.RowKit Go.Shelf
attribute [local go_sem] Oper.semAt_some
set_option linter.unusedVariables false

theorem pieces_any (fA : Option Addr) (fn fc : Nat) (lA : Option Addr) (ln lc : Nat) (u v : Int) (b : Bool) (w : World) : Calls Tryd.prog 56 #[.agg #[.slice fA fn fc, .slice lA ln lc, .int .i64 u, .int .i64 v, .bool b]] w fun e w' =>
    e = .returned (.func (.func 67) #[] #[.pointer (some ⟨w.heap.size, 0, none⟩)]) ∧ w.alloc (.cells #[.slice fA fn fc, .slice lA ln lc, .int .i64 u, .int .i64 v, .bool b] 25) = w' := by
  go_enter Tryd.func56, Tryd.ntmps56
  go_wp2
  go_ret
  exact ⟨rfl, rfl⟩
/-- All of a file's rows, the firm one first. -/
def FileT.Q (X : FileT) : List PcT := X.F :: X.L
set_option maxRecDepth 100000 in
set_option maxHeartbeats 2000000 in
theorem pieces1_in (n : Nat) (hn : 1 ≤ n) (l Bf B : Nat) (X : FileT) (J : Nat → World → Prop) (Jx : World → Prop) (W : World) (hln : X.ln ≤ maxLen)
    (hR : ∀ k W, J k W → W.cell? ⟨Bf, 0, none⟩ = some (.slice X.F.A X.F.n X.F.c) ∧ W.cell? ⟨Bf, 1, none⟩ = some (.slice X.lA X.ln X.lc) ∧ Shows W B 1 X.lA X.ln (X.L.map PcT.val))
    (hY : ∀ k p W, J k W → X.Q[k]? = some p → YieldAt Fence.wide (n - 1) Tryd.prog l #[.int .i64 ((sumN (X.Q.take k) : Nat) : Int), .slice p.A p.n p.c] W fun e W' =>
      (e = .returned (.bool true) ∧ J (k + 1) W' ∧ sumN (X.Q.take (k + 1)) ≤ 524288) ∨ (e = .returned (.bool false) ∧ Jx W'))
    (h0 : J 0 W) :
    CallsIn Fence.wide n Tryd.prog 67 #[.func (.yield l) #[] #[], .pointer (some ⟨Bf, 0, none⟩)] W fun e W' => (∃ v, e = .returned v) ∧ (J (X.ln + 1) W' ∨ Jx W') := by
  unfold maxLen at hln
  obtain ⟨f0, -, -⟩ := hR 0 W h0
  obtain ⟨fn, tmps, assign, body, hy, hR0⟩ := hY 0 X.F W h0 rfl
  have hs0 : sumN (X.Q.take 0) = 0 := rfl
  rw [hs0, show ((0 : Nat) : Int) = 0 from rfl] at hy
  clear hs0
  refine callsIn_of_wp Tryd.func67 rfl trivial ?_ rfl
  simp only [Tryd.ntmps67, List.size_toArray, List.length_cons, List.length_nil, Nat.reduceAdd, Nat.reduceSub, Array.replicate_succ, Array.replicate_zero, List.push_toArray, List.append_toArray, List.nil_append, List.cons_append]
  gi_wp2
  refine hR0.mono ?_
  rintro e W3 (⟨rfl, hJ, hbd⟩ | ⟨rfl, hJx⟩)
  rotate_left
  · clear hR hY hR0 hy
    gi_wp2
    refine bodyPost_ret (results_none rfl _ _ _) rfl ?_
    exact ⟨⟨_, rfl⟩, .inr hJx⟩
  · obtain ⟨g0, g1, -⟩ := hR 1 W3 hJ
    clear hR0 hy f0
    have hs1 : (X.F.n : Int) = ((sumN (X.Q.take 1) : Nat) : Int) := by
      have : sumN (X.Q.take 1) = X.F.n := by unfold FileT.Q sumN; simp
      rw [this]
    gi_wp2
    gi_loopw [3, 17] (fun a t wr => ∃ j m : Nat, j ≤ X.ln ∧ t = .int .i64 j ∧ a = .int .i64 m ∧ Hid (m = sumN (X.Q.take (j + 1))) ∧ m ≤ 524288 ∧ J (j + 1) wr) (fun _ t _ => X.ln - (intOf t).toNat)
    case atStart => exact ⟨0, X.F.n, Nat.zero_le _, rfl, rfl, Lib.hid (by unfold FileT.Q sumN; simp), by unfold FileT.Q sumN at hbd; simpa using hbd, hJ⟩
    case round =>
      obtain ⟨j, m, hj, rfl, rfl, HM, hm, hJ2⟩ := hrel
      rename World => wr
      obtain ⟨-, -, hS⟩ := hR (j + 1) wr hJ2
      clear hs1 g0 g1 hJ hbd
      by_cases hlt : j < X.ln
      · obtain ⟨b, off, p, hA, _, hp, hc⟩ := pc_at hS hlt
        obtain ⟨fn, tmps, assign, body, hy, hR0⟩ := hY (j + 1) p wr hJ2 (by unfold FileT.Q; rw [List.getElem?_cons_succ]; exact hp)
        have HN := Lib.hid (show sumN (X.Q.take (j + 1 + 1)) = m + p.n by
          rw [HM.out]
          have hq : X.Q[j + 1]? = some p := by unfold FileT.Q; rw [List.getElem?_cons_succ]; exact hp
          unfold sumN
          rw [List.take_add_one, hq]
          simp)
        rw [← HM.out] at hy
        have hlt' : (j : Int) < X.ln := by omega
        rw [hA]
        clear hS hp
        gi_wp2
        refine hR0.mono ?_
        rintro e W4 (⟨rfl, hJ3, hb3⟩ | ⟨rfl, hJx⟩)
        · rw [HN.out] at hb3
          have hsum : IntKind.i64.wrap ((m : Int) + p.n) = ((m + p.n : Nat) : Int) := by rw [IntKind.wrap_i64]; omega
          have hsu2 : wrap64 ((m : Int) + p.n) = ((m + p.n : Nat) : Int) := by unfold wrap64; omega
          clear hR hY hR0 hy hc hJ2
          gi_wp2
          go_roundw
          case rel => exact ⟨j + 1, m + p.n, by omega, by go_num, by first | rfl | go_num, Lib.hid HN.out.symm, hb3, hJ3⟩
          case measure => simp [intOf]; omega
        · clear hR hY hR0 hy hc hJ2
          gi_wp2
          refine bodyPost_ret (results_none rfl _ _ _) rfl ?_
          exact ⟨⟨_, rfl⟩, .inr hJx⟩
      · obtain rfl : j = X.ln := by omega
        gi_wp2
        go_end0
        exact ⟨⟨_, rfl⟩, .inl hJ2⟩
end Go.Proofs.YtghmehfmchadoaaDoor
